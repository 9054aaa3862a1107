/-
  Contracts of the document's own QueueCount and Drained.
-/
import Derived.Test.YtihghhmhgakkaaaRefQueued
import Derived.Test.YtihghhmhgakkaaaQueueCount
namespace Go.Proofs.Ytihghhmhgakkaaa
set_option maxRecDepth 100000
open Go.ChangeShapes Go.WideShapes Go.ChangeAt Go.RowKit

set_option maxHeartbeats 1000000 in
set_option maxRecDepth 100000 in
theorem refCount_any (n : Int) (vl vr : Value) (lo : List Ml) (rs : List (List Int)) (w : World) (h : QuR w vl vr lo rs) (hB : QuB lo rs) :
    Calls Try.prog 17 #[.agg #[.int .i64 n, vl, vr]] w (CntP w lo (quF n lo rs)) := by
  have HR : Hid (QuR w vl vr lo rs) := h
  have HU : Hid (∀ X, QuR X vl vr lo rs → Calls Try.prog 30 #[.agg #[.int .i64 n, vl, vr]] X (QdP X lo (quF n lo rs))) := fun X hX => queued_any n vl vr lo rs X hX hB
  obtain ⟨a, cap, rfl⟩ := h.1.shape
  obtain ⟨c, cap2, rfl, _⟩ := id h.2
  clear h hB
  generalize quF n lo rs = o at *
  have hb : ∀ o, Below w.heap.size w (w.alloc o) := fun o => below_alloc w o
  cases o with
  | none =>
    have HE : Hid (∀ w', Below w.heap.size w w' → CntP w lo none (.returned (.tuple #[.int .i64 0, .int .i64 9])) w') := fun w' hw => ⟨rfl, hw⟩
    generalize CntP w lo none = P at *
    go_enter Try.func17, Try.ntmps17
    go_wp2_with fail
    refine (HU.out _ (HR.out.below (hb _) (Nat.le_refl _))).mono ?_
    rintro e w1 ⟨v1, rfl, ho, hb1⟩
    have HX : Hid (P (.returned (.tuple #[.int .i64 0, .int .i64 9])) w1) := HE.out w1 ((hb _).trans (hb1.mono (by simp)))
    clear hb1 ho
    rw [Option.isSome_none]
    go_wp2_with fail
    exact HX.out
  | some f =>
    have HE : Hid (∀ w', Below w.heap.size w w' → CntP w lo (some f) (.returned (.tuple #[.int .i64 ((allQ lo (some f)).length : Nat), .int .i64 0])) w') := fun w' hw => ⟨by
      show _ = Ending.returned (.tuple #[.int .i64 ((lo.length + sumM f : Nat) : Int), .int .i64 0])
      rw [show (allQ lo (some f)).length = lo.length + sumM f by unfold allQ; rw [List.length_append, sumM_flat]], hw⟩
    generalize CntP w lo (some f) = P at *
    go_enter Try.func17, Try.ntmps17
    go_wp2_with fail
    refine (HU.out _ (HR.out.below (hb _) (Nat.le_refl _))).mono ?_
    rintro e w1 ⟨v1, rfl, ho, hb1⟩
    have HX : Hid (P (.returned (.tuple #[.int .i64 ((allQ lo (some f)).length : Nat), .int .i64 0])) w1) := HE.out w1 ((hb _).trans (hb1.mono (by simp)))
    obtain ⟨ya, yc, rfl⟩ := (MlR.ownd ho).shape
    clear hb1 ho HE HU
    generalize (allQ lo (some f)).length = tl at *
    rw [Option.isSome_some]
    go_wp2_with fail
    exact HX.out

set_option maxHeartbeats 1000000 in
set_option maxRecDepth 100000 in
theorem refDrained_any (n : Int) (vl vr : Value) (lo : List Ml) (rs : List (List Int)) (w : World) (h : QuR w vl vr lo rs) (hB : QuB lo rs) :
    Calls Try.prog 14 #[.agg #[.int .i64 n, vl, vr]] w (RefP w (errQ (quF n lo rs)) (drainF lo (quF n lo rs))) := by
  have HR : Hid (QuR w vl vr lo rs) := h
  have HU : Hid (∀ X, QuR X vl vr lo rs → Calls Try.prog 30 #[.agg #[.int .i64 n, vl, vr]] X (QdP X lo (quF n lo rs))) := fun X hX => queued_any n vl vr lo rs X hX hB
  have HQ : Hid (∀ f, quF n lo rs = some f → lo.length + sumM f ≤ 5000) := fun f hf => (quF_inv hf).2.2.2.2.2.2.1
  obtain ⟨a, cap, rfl⟩ := h.1.shape
  obtain ⟨c, cap2, rfl, _⟩ := id h.2
  clear h hB
  generalize quF n lo rs = o at *
  have hb : ∀ o, Below w.heap.size w (w.alloc o) := fun o => below_alloc w o
  cases o with
  | none =>
    have HE : Hid (∀ w', Below w.heap.size w w' → RefP w (errQ (none : Option (List (List Ml)))) (drainF lo none) (.returned (.tuple #[.slice none 0 0, .int .i64 9])) w') := fun w' hw => RefP.no (by decide) hw
    generalize RefP w (errQ (none : Option (List (List Ml)))) (drainF lo none) = P at *
    go_enter Try.func14, Try.ntmps14
    go_wp2_with fail
    refine (HU.out _ (HR.out.below (hb _) (Nat.le_refl _))).mono ?_
    rintro e w1 ⟨v1, rfl, ho, hb1⟩
    have HX : Hid (P (.returned (.tuple #[.slice none 0 0, .int .i64 9])) w1) := HE.out w1 ((hb _).trans (hb1.mono (by simp)))
    clear hb1 ho
    rw [Option.isSome_none]
    go_wp2_with fail
    exact HX.out
  | some f =>
    have hs := HQ.out f rfl
    have HE : Hid (∀ v w', w'.ownsRow w.heap.size 27 2 v (sortM (lo ++ f.flatten)).length ((sortM (lo ++ f.flatten)).flatMap encM) → Below w.heap.size w w' → RefP w (errQ (some f)) (drainF lo (some f)) (.returned (.tuple #[v, .int .i64 0])) w') := fun v w' ho hw => RefP.yes ho hw
    generalize RefP w (errQ (some f)) (drainF lo (some f)) = P at *
    have hl5 : (lo ++ f.flatten).length ≤ 5000 := by rw [List.length_append, sumM_flat]; exact hs
    go_enter Try.func14, Try.ntmps14
    go_wp2_with fail
    refine (HU.out _ (HR.out.below (hb _) (Nat.le_refl _))).mono ?_
    rintro e w1 ⟨v1, rfl, ho, hb1⟩
    have B1 : Hid (Below w.heap.size w w1) := (hb _).trans (hb1.mono (by simp))
    have M1 : Hid (MlR w1 v1 (lo ++ f.flatten)) := MlR.ownd ho
    obtain ⟨ya, yc, rfl⟩ := M1.out.shape
    clear hb1 ho HU
    rw [Option.isSome_some]
    generalize lo ++ f.flatten = t at *
    go_wp2_with fail
    refine (refMails_any _ t _ M1.out hl5).mono ?_
    rintro e w2 ⟨v2, rfl, ho2, hb2⟩
    have HX : Hid (P (.returned (.tuple #[v2, .int .i64 0])) w2) := HE.out v2 w2 (own_lower ho2 B1.out.size) (B1.out.trans (hb2.mono B1.out.size))
    clear ho2 hb2
    go_wp2_with fail
    exact HX.out
end Go.Proofs.Ytihghhmhgakkaaa
