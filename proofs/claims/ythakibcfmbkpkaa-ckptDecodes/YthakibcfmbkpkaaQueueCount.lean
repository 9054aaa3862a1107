/-
  Contract of queue.Count.
-/
import Derived.Test.YthakibcfmbkpkaaUnpackAll
import Derived.Deep.QuietTactic
import Derived.BigQuiet
import Derived.Lib.QuietBelow
namespace Go.Proofs.Ythakibcfmbkpkaa
set_option maxRecDepth 100000
open Go.ChangeShapes Go.WideShapes Go.ChangeAt Go.RowKit

/-- What Count answers. -/
def CntP (w : World) (lo : List Ml) (o : Option (List (List Ml))) (e : Ending) (w' : World) : Prop := e = .returned (.tuple #[.int .i64 (countF lo o : Nat), .int .i64 (errQ o)]) ∧ Below w.heap.size w w'

set_option maxHeartbeats 1000000 in
set_option maxRecDepth 100000 in
theorem queueCount_any (n : Int) (vl vr : Value) (lo : List Ml) (rs : List (List Int)) (w : World) (h : QuR w vl vr lo rs) (hB : QuB lo rs) :
    Calls Try.prog 49 #[.agg #[.int .i64 n, vl, vr]] w (CntP w lo (quF n lo rs)) := by
  have HR : Hid (QuR w vl vr lo rs) := h
  have HU : Hid (∀ X, QuR X vl vr lo rs → Calls Try.prog 54 #[.agg #[.int .i64 n, vl, vr]] X (UnpP X (quF n lo rs))) := fun X hX => unpackAll_any n vl vr lo rs X hX hB
  have HQ : Hid (∀ f, quF n lo rs = some f → lo.length + sumM f ≤ 5000) := fun f hf => (quF_inv hf).2.2.2.2.2.2.1
  obtain ⟨a, cap, rfl⟩ := h.1.shape
  obtain ⟨c, cap2, rfl, _⟩ := id h.2
  clear h hB
  generalize quF n lo rs = o at *
  have hb : ∀ o, Below w.heap.size w (w.alloc o) := fun o => below_alloc w o
  cases o with
  | none =>
    have HE : Hid (∀ w', Below w.heap.size w w' → CntP w lo none (.returned (.tuple #[.int .i64 0, .int .i64 9])) w') := fun w' hw => ⟨rfl, hw⟩
    generalize CntP w lo none = P at *
    go_enter Try.func49, Try.ntmps49
    go_wp2_with fail
    refine (HU.out _ (HR.out.below (hb _) (Nat.le_refl _))).mono ?_
    rintro e w1 ⟨v1, rfl, ho, hb1⟩
    have HX : Hid (P (.returned (.tuple #[.int .i64 0, .int .i64 9])) w1) := HE.out w1 ((hb _).trans (hb1.mono (by simp)))
    clear hb1 ho
    unfold errQ
    go_wp2_with fail
    exact HX.out
  | some f =>
    have hs := HQ.out f rfl
    have HE : Hid (∀ w', Below w.heap.size w w' → CntP w lo (some f) (.returned (.tuple #[.int .i64 (lo.length + sumM f : Nat), .int .i64 0])) w') := fun w' hw => ⟨rfl, hw⟩
    generalize CntP w lo (some f) = P at *
    go_enter Try.func49, Try.ntmps49
    go_wp2_with fail
    refine (HU.out _ (HR.out.below (hb _) (Nat.le_refl _))).mono ?_
    rintro e w1 ⟨v1, rfl, ho, hb1⟩
    have hb1' : Below (w.heap.size + 1) (w.alloc (.cells #[.int .i64 n, .slice a lo.length cap, .slice c rs.length cap2] 85)) w1 := by simpa using hb1
    obtain ⟨q0, q1, q2⟩ := ((QX.new w (.int .i64 n) (.slice a lo.length cap) (.slice c rs.length cap2)).below hb1' (Nat.lt_succ_self _)).cells
    have HX : Hid (∀ w', Below w1.heap.size w1 w' → P (.returned (.tuple #[.int .i64 (lo.length + sumM f : Nat), .int .i64 0])) w') := fun w' hw => HE.out w' ((box_below hb1').trans (hw.mono (box_below hb1').size))
    have HL : Hid (LmR w1 v1 f) := ho.reads
    obtain ⟨fa, fc, rfl⟩ : ∃ a c, v1 = .slice a f.length c := by obtain ⟨a, c, e, _⟩ := ho.reads; exact ⟨a, c, e⟩
    have hadd : IntKind.i64.wrap ((lo.length : Int) + (sumM f : Nat)) = ((lo.length + sumM f : Nat) : Int) := by rw [IntKind.wrap_i64]; omega
    have HC : Hid (∀ X, LmR X (.slice fa f.length fc) f → Calls Try.prog 55 #[.slice fa f.length fc] X fun e w' => e = .returned (.int .i64 (sumM f : Nat)) ∧ w' = X) := fun X hX => countQ_any _ f X hX (by omega)
    clear hb1 hb1' ho HU HR
    generalize lo.length + sumM f = tot at *
    generalize sumM f = sf at *
    unfold errQ
    go_wp2_with fail
    go_quiet ((go_at_call 55; exact Calls.quiet_of_same (HC.out _ HL.out)))
    have HY : Hid (∀ m, P (.returned (.tuple #[.int .i64 (tot : Nat), .int .i64 0])) (w1.drewN m)) := fun m => HX.out _ (below_drewN (Below.refl _ _) m)
    go_wp2_with fail
    exact HY.out _
end Go.Proofs.Ythakibcfmbkpkaa
