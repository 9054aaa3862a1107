/-
  What a call answers that answers mail and an error.
-/
import Derived.Test.YtkgdenbabafeoaaGreatDoorMailMath
namespace Go.Proofs.YtkgdenbabafeoaaGreatDoor
set_option maxRecDepth 100000
open Go.ChangeShapes Go.WideShapes Go.ChangeAt Go.RowKit

/-- Mail, where the error f is none. -/
def RefP (w : World) (f : Int) (l : List Ml) (e : Ending) (w' : World) : Prop := ∃ v', e = .returned (.tuple #[v', .int .i64 f]) ∧ w'.ownsRow w.heap.size 62 2 v' (okL f l).length ((okL f l).flatMap encM) ∧ Below w.heap.size w w'
theorem RefP.no {w w' : World} {f : Int} {l : List Ml} (hf : f ≠ 0) (hb : Below w.heap.size w w') : RefP w f l (.returned (.tuple #[.slice none 0 0, .int .i64 f])) w' := ⟨_, rfl, by rw [okL_no hf]; exact World.ownsRow_nil _ _ _ _, hb⟩
theorem RefP.yes {w w' : World} {l : List Ml} {v : Value} (ho : w'.ownsRow w.heap.size 62 2 v l.length (l.flatMap encM)) (hb : Below w.heap.size w w') : RefP w 0 l (.returned (.tuple #[v, .int .i64 0])) w' := ⟨_, rfl, by rw [okL_yes]; exact ho, hb⟩
theorem RefP.reads {w w' : World} {f : Int} {l : List Ml} {e : Ending} (h : RefP w f l e w') : ∃ a n c, e = .returned (.tuple #[.slice a n c, .int .i64 f]) ∧ MlR w' (.slice a n c) (okL f l) ∧ w'.ownsRow w.heap.size 62 2 (.slice a n c) (okL f l).length ((okL f l).flatMap encM) ∧ Below w.heap.size w w' := by
  obtain ⟨v, rfl, ho, hb⟩ := h
  have hr := MlR.ownd ho
  obtain ⟨a, c, rfl⟩ := hr.shape
  exact ⟨_, _, _, rfl, hr, ho, hb⟩
theorem sumM_bound {C : Nat} : ∀ (f : List (List Ml)), (∀ l ∈ f, l.length ≤ C) → sumM f ≤ f.length * C
  | [], _ => by simp [sumM]
  | l :: f, h => by
    have h1 := sumM_bound f fun x hx => h x (by simp [hx])
    have h2 := h l (by simp)
    unfold sumM at *
    simp only [List.map_cons, List.sum_cons, List.length_cons]
    rw [Nat.add_mul, Nat.one_mul]
    omega
theorem allB_iff (f : List (List Ml)) : allB f = true ↔ ∀ l ∈ f, srtMb l = true := by unfold allB; rw [List.all_eq_true]
theorem allB_no {f : List (List Ml)} {l : List Ml} (hl : l ∈ f) (h : srtMb l = false) : allB f = false := by
  rw [Bool.eq_false_iff]
  intro h2
  rw [(allB_iff f).1 h2 l hl] at h
  cases h
end Go.Proofs.YtkgdenbabafeoaaGreatDoor
