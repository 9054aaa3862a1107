/-
  s[u:] of bytes, without parting the cases.
-/
import Derived.Test.YtkgdenbabafeoaaGreatDoorNumMath
import Derived.Test.YtkgdenbabafeoaaGreatDoorGetWalk
namespace Go.Proofs.YtkgdenbabafeoaaGreatDoor
set_option maxRecDepth 100000
open Go.ChangeShapes Go.WideShapes Go.ChangeAt Go.RowKit

/-- s[u:]. -/
def cutV (a : Option Addr) (len cap u : Nat) : Value := .slice (if cap = u then a else a.map (·.add u)) (len - u) (cap - u)
theorem run_cutV (a : Option Addr) (len cap u : Nat) (hu : u ≤ len) (w : World) : (Instr.slice 31 (.slice a len cap) (some (.int .i64 (u : Int))) none none).run Tryz.prog w = .ok (cutV a len cap u) w := by
  have hsz : (sizeOf (Tryz.prog.elem 31)).run Tryz.prog w = .ok 1 w := by kernel_rfl
  rw [run_slice_l (P := Tryz.prog) (w := w) 31 a len cap (by rw [Tryz.underlying31]; kernel_rfl) .i64 u (by omega) (by omega), hsz]
  simp only [Result.andThen, sliced, Int.toNat_natCast, Nat.mul_one, cutV]
theorem reads_cutV {w : World} {a : Option Addr} {cap u : Nat} {xs : List Int} (h : Reads .u8 w (.slice a xs.length cap) xs) (hu : u ≤ xs.length) : Reads .u8 w (cutV a xs.length cap u) (xs.drop u) := by
  have hl : (xs.drop u).length = xs.length - u := List.length_drop
  have hc : xs.length ≤ cap ∧ cap ≤ maxLen ∧ (a = none → cap = 0) := by
    obtain ⟨a', cap', e, h1, h2, h3, _⟩ := h
    injection e with e1 _ e3
    subst e1 e3
    exact ⟨h1, h2, h3⟩
  by_cases hn : u < xs.length
  · obtain ⟨b, off, cap', e, h1, h2, h3, h4⟩ := h.plain (by omega)
    injection e with e1 _ e3
    subst e1 e3
    have := reads_drop (u := u) h1 h2 h4
    unfold cutV
    rw [if_neg (by omega), Option.map_some, addr_plus]
    exact this
  · have e1 : xs.drop u = [] := List.drop_eq_nil_of_le (by omega)
    rw [e1]
    refine ⟨_, cap - u, by rw [show ([] : List Int).length = xs.length - u by simp; omega]; rfl, by simp, by omega, fun hx => ?_, fun x _ i hi => by simp at hi⟩
    cases a with
    | none => have := hc.2.2 rfl; omega
    | some x =>
      split at hx
      · cases hx
      · cases hx
end Go.Proofs.YtkgdenbabafeoaaGreatDoor
