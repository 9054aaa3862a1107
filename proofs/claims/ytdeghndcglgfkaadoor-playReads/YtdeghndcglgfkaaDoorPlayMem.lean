/-
  Moves in memory; the package variable forms of play.
-/
import Derived.Test.YtdeghndcglgfkaaDoorRowMem
import Derived.Test.YtdeghndcglgfkaaDoorRowNew
import Derived.Test.YtdeghndcglgfkaaDoorPlayMath
import Derived.Test.YtdeghndcglgfkaaDoorBoxMem
namespace Go.Proofs.YtdeghndcglgfkaaDoor
set_option maxRecDepth 100000
open Go.ChangeShapes Go.WideShapes Go.ChangeAt Go.RowKit

theorem Tryd.infoMv : (Tryd.prog.info? 34).map (fun i => (i.zero, i.size, i.bytes)) = some (some (.agg #[.int .i64 0, .int .i64 0, .int .i64 0]), 3, 24) := by kernel_rfl
/-- Moves lie as edges do: in three cells. -/
def kMv : ElK Mv := ⟨encE, 3, 22, 34, 24, .agg #[.int .i64 0, .int .i64 0, .int .i64 0], Tryd.underlying22, Tryd.infoMv, rfl, by decide, encE_len, encE_one⟩
/-- The cells of a form. -/
def encF (f : Fm) : List Value := [.int .i64 f.1, .string ⟨f.2.1.toArray⟩, .int .i64 (f.2.2 : Int)]
/-- The package variable forms lies below B. -/
def FrmF (B : Nat) (w : World) : Prop := 0 < B ∧ ∀ i v, (formsL.flatMap encF)[i]? = some v → w.cell? ⟨0, i, none⟩ = some v
theorem FrmF.on {B : Nat} {w w' : World} (h : FrmF B w) (hb : Below B w w') : FrmF B w' := ⟨h.1, fun i v hi => (hb.cell (p := ⟨0, i, none⟩) h.1).trans (h.2 i v hi)⟩
theorem FrmF.up {B C : Nat} {w : World} (h : FrmF B w) (hB : B ≤ C) : FrmF C w := ⟨Nat.lt_of_lt_of_le h.1 hB, h.2⟩
theorem Tryd.sizeF : (Tryd.prog.info? 55).map (·.size) = some 3 := by kernel_rfl
theorem Tryd.sizeFs : (Tryd.prog.info? 70).map (·.size) = some (formsL.flatMap encF).length := by kernel_rfl
/-- One form out of it. -/
theorem frm_index {i : Nat} {f : Fm} (h : formsL[i]? = some f) (w : World) : (Instr.index 70 (.agg (formsL.flatMap encF).toArray) (.int .i64 i)).run Tryd.prog w = .ok (.agg #[.int .i64 f.1, .string ⟨f.2.1.toArray⟩, .int .i64 (f.2.2 : Int)]) w := by
  have hi : i < 8 := (List.getElem?_eq_some_iff.1 h).1
  have h1 : (0 : Int) ≤ (i : Int) ∧ (i : Int) < ((8 : Nat) : Int) := by omega
  have h2 : List.take 3 (List.drop (i * 3) (formsL.flatMap encF)) = [.int .i64 f.1, .string ⟨f.2.1.toArray⟩, .int .i64 (f.2.2 : Int)] := by
    obtain rfl | rfl | rfl | rfl | rfl | rfl | rfl | rfl : i = 0 ∨ i = 1 ∨ i = 2 ∨ i = 3 ∨ i = 4 ∨ i = 5 ∨ i = 6 ∨ i = 7 := by omega
    all_goals (simp [formsL] at h; subst h; rfl)
  obtain ⟨j, hj, hjs⟩ := Option.map_eq_some_iff.1 Tryd.sizeF
  simp only [Instr.index, asIntOf, Sem.run_bind, Sem.run_pure, Result.andThen_ok, run_underlying Tryd.underlying70 w]
  rw [if_pos h1]
  simp [part, Sem.run_bind, sizeOf, typeInfo, hj, hjs]
  exact h2
end Go.Proofs.YtdeghndcglgfkaaDoor
