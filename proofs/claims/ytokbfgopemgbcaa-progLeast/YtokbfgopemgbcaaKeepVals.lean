/-
  Contract of pacelinekeep's own values.
-/
import Derived.Test.YtokbfgopemgbcaaRowNew
import Derived.Test.YtokbfgopemgbcaaPicked
namespace Go.Proofs.Ytokbfgopemgbcaa
set_option maxRecDepth 100000
open Go.ChangeShapes Go.WideShapes Go.ChangeAt Go.RowKit

def valL (l : List Int) : List Int := (l.take 10).map fun n => pickF n 20
theorem valL_bd {l : List Int} : ∀ y ∈ valL l, 0 ≤ y ∧ y < 20 := fun y hy => by
  obtain ⟨n, _, rfl⟩ := List.mem_map.1 hy
  exact pickF_bd n 20 (by decide)
theorem valL_len {l : List Int} : (valL l).length ≤ 10 := by unfold valL; rw [List.length_map, List.length_take]; omega

set_option maxHeartbeats 1000000 in
set_option maxRecDepth 100000 in
theorem values_any (v : Value) (l : List Int) (w : World) (h : InR w v l) (hB : ∀ x ∈ l, i64B x) :
    Calls Try.prog 18 #[v] w fun e w' => ∃ v', e = .returned v' ∧ w'.ownsRow w.heap.size 3 1 v' (valL l).length ((valL l).flatMap encI) ∧ Below w.heap.size w w' := by
  have HR : Hid (InR w v l) := h
  obtain ⟨a, cap, rfl, hcc, hcm, _, _⟩ := h
  unfold maxLen at hcm
  have HPB : Hid (∀ x ∈ l, i64B x) := hB
  clear hB
  go_enter Try.func18, Try.ntmps18
  go_wp2_with fail
  go_loopw [3, 4] (fun u i wr => ∃ k : Nat, k ≤ l.length ∧ k ≤ 10 ∧ i = .int .i64 k ∧ wr.ownsRow w.heap.size 3 1 u ((l.take k).map fun n => pickF n 20).length (((l.take k).map fun n => pickF n 20).flatMap encI) ∧ Below w.heap.size w wr) (fun _ i _ => l.length - (intOf i).toNat)
  case atStart => exact ⟨0, by omega, by omega, rfl, World.ownsRow_nil _ _ _ _, Below.refl _ _⟩
  case round =>
    obtain ⟨k, hk, hk10, rfl, hown, hbel⟩ := hrel
    have OW : Hid (wr.ownsRow w.heap.size 3 1 u3 ((l.take k).map fun n => pickF n 20).length (((l.take k).map fun n => pickF n 20).flatMap encI)) := hown
    have HB : Hid (Below w.heap.size w wr) := hbel
    have hsr := hbel.size
    clear hown hbel
    by_cases hlt : k < l.length
    · by_cases hlt2 : k < 10
      · obtain ⟨b, off, cap', e1, _, _, lt, hv⟩ := InR.at (HR.out.below HB.out (Nat.le_refl _)) (by omega)
        injection e1 with e1 _ e3
        subst e1 e3
        obtain ⟨x, hx⟩ := getX hlt
        have c1 := hv k x hx
        obtain ⟨b0, b1⟩ := HPB.out x (List.mem_of_getElem? hx)
        have HT : Hid (((l.take (k + 1)).map fun n => pickF n 20) = ((l.take k).map fun n => pickF n 20) ++ [pickF x 20]) := by show _ = _; rw [take_snoc hx, List.map_append]; rfl
        have hlk : ((l.take k).map fun n => pickF n 20).length ≤ 10 := by simp; omega
        have p0 : (0 : Int) ≤ (k : Int) := by omega
        have p1 : (k : Int) < (l.length : Int) := by omega
        have CP : Hid (∀ X, Calls Try.prog 17 #[.int .i64 x, .int .i64 20] X fun e w' => e = .returned (.int .i64 (pickF x 20)) ∧ w' = X) := fun X => picked_any x 20 X b0 b1 (by decide) (by decide)
        clear hv hx b0 b1
        generalize ((l.take k).map fun n => pickF n 20) = f at *
        generalize pickF x 20 = y at *
        go_wp2_with fail
        refine (CP.out _).mono ?_
        rintro e w1 ⟨rfl, hw⟩
        replace hw := hw.symm
        subst hw
        go_wp2_with (at_builtin; refine wpList_append_newK kI rfl _ _ rfl w.heap.size _ f rfl (OW.out.alloc _) _ y rfl #[.int .i64 y] rfl (0, 0) (heap_alloc_new _ _) (by simp [kI]; omega) (by unfold maxLen; omega) (by simp; omega) ?_)
        intro g c w3 hown3 hb3 _
        have O3 : Hid (w3.ownsRow w.heap.size 3 1 (.slice (some ⟨g, 0, none⟩) (f.length + 1) c) ((l.take (k + 1)).map fun n => pickF n 20).length (((l.take (k + 1)).map fun n => pickF n 20).flatMap encI)) := by
          show World.ownsRow _ _ _ _ _ _ _
          rw [HT.out, flat_snoc, List.length_append]; exact hown3
        have B3 : Hid (Below w.heap.size w w3) := (HB.out.alloc hsr _).trans hb3
        clear hown3 hb3 c1
        go_wp2_with fail
        go_roundw
        case rel => exact ⟨k + 1, by omega, by omega, by go_num, O3.out, B3.out⟩
        case measure => simp [intOf]; omega
      · have e10 : valL l = (l.take k).map fun n => pickF n 20 := by unfold valL; rw [show k = 10 by omega]
        rw [← e10] at OW
        clear e10
        go_wp2_with fail
        go_ret
        exact ⟨_, rfl, OW.out, HB.out⟩
    · have e10 : valL l = (l.take k).map fun n => pickF n 20 := by unfold valL; rw [List.take_of_length_le (by omega), List.take_of_length_le (by omega)]
      rw [← e10] at OW
      clear e10
      go_wp2_with fail
      go_ret
      exact ⟨_, rfl, OW.out, HB.out⟩
end Go.Proofs.Ytokbfgopemgbcaa
