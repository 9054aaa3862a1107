/-
  What a builder is behind a call that turns nothing old; strconv.Itoa, its world said plainly. (Stage 5 has these in ShowLib: never in one seat with it.)
-/
import Derived.Test.YtdeghndcglgfkaaDoorBuildWalk
import Derived.Lib.ItoaLen
import Derived.Lib.AppendIntMem
namespace Go.Proofs.YtdeghndcglgfkaaDoor
set_option maxRecDepth 100000
open Go.RowKit

/-- A builder that nothing old has turned under is a builder still. -/
theorem builder_below {T e : TypeId} {B b C : Nat} {bs : List Value} {w w' : World} (h : Lib.IsBuilderF T e B b bs w) (hb : Below C w w') (hC : w.heap.size ≤ C) : Lib.IsBuilderF T e B b bs w' := by
  have one : ∀ p, Lib.BuilderAtF T e B b p bs w → Lib.BuilderAtF T e B b p bs w' := by
    rintro p ⟨hB, v, hb1, ⟨hl, hv⟩, hne⟩
    have keep : ∀ k o, w.heap[k]? = some o → w'.heap[k]? = some o := fun k o hk => (hb.block k (by have := (Array.getElem?_eq_some_iff.1 hk).1; omega)).trans hk
    refine ⟨hB, v, keep _ _ hb1, ⟨hl, ?_⟩, hne⟩
    rcases hv with hv | ⟨g, cap, cur, fz, h1, h2, h3, h4⟩
    · exact .inl hv
    · exact .inr ⟨g, cap, cur, fz, h1, h2, keep _ _ h3, h4⟩
  exact h.elim (fun x => .inl (one _ x)) (fun x => .inr (one _ x))
theorem others_below {e : TypeId} {b : Option Nat} {C : Nat} {w w' : World} (hb : Below C w w') (hC : w.heap.size ≤ C) : Lib.OthersKept e b w w' :=
  fun k _ hk _ _ => (hb.block k (by have := (Array.getElem?_eq_some_iff.1 hk).1; omega)).trans hk
theorem below_low {B C : Nat} {w w' : World} (h : Below C w w') (hB : B ≤ C) : Below B w w' := ⟨h.os, h.tape, h.output, h.size, fun k hk => h.block k (by omega)⟩
/-- The table that strconv reads lies below B and stays. -/
def Tab10 (B : Nat) (w : World) : Prop := Lib.TabBelow Tryd.prog B w "internal/strconv.uint64pow10" .u64 Lib.pow10Tab
theorem Tab10.on {B : Nat} {w w' : World} (h : Tab10 B w) (hb : Below B w w') : Tab10 B w' := fun x hx => h x (hb.trans hx)
theorem Tab10.up {B C : Nat} {w : World} (h : Tab10 B w) (hB : B ≤ C) : Tab10 C w := fun x hx => h x (below_low hx hB)

/-- strconv.Itoa, its world said plainly. -/
theorem itoa_any (n : Int) (hn : i64B n) (B : Nat) (w : World) (hT : Tab10 B w) :
    Calls Tryd.prog 23 #[.int .i64 n] w fun e w' => e = .returned (.string ⟨(Lib.itoa n).toArray⟩) ∧ Below w.heap.size w w' := by
  refine (Tryd.strconv_Itoa n hn.1 hn.2 w hT.here).mono ?_
  rintro e w' ⟨rfl, k, os, rfl⟩
  exact ⟨rfl, Lib.below_grow _ _ (Nat.le_refl _) _ _⟩
/-- What is shown: nothing where an error is told. -/
def okS (f : Int) (l : List UInt8) : List UInt8 := if f = 0 then l else []
theorem okS_yes {l : List UInt8} : okS 0 l = l := rfl
theorem okS_no {f : Int} {l : List UInt8} (h : f ≠ 0) : okS f l = [] := by rw [okS, if_neg h]
theorem bytes_size (l : List UInt8) : (⟨l.toArray⟩ : ByteArray).size = l.length := by show l.toArray.size = _; simp
theorem cell_of {w : World} {g : Nat} {cs : Array Value} {t : TypeId} {fr : Nat × Nat} (h : w.heap[g]? = some (.cells cs t fr)) (i : Nat) : w.cell? ⟨g, i, none⟩ = cs[i]? := Lib.cell_of_heap h i
end Go.Proofs.YtdeghndcglgfkaaDoor
