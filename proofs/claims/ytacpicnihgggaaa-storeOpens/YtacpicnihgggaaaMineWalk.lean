/-
  Contract of owner.Mine.
-/
import Derived.Test.YtacpicnihgggaaaOwnerCheck
import Derived.Test.YtacpicnihgggaaaRowNew
namespace Go.Proofs.Ytacpicnihgggaaa
set_option maxRecDepth 100000
open Go.ChangeShapes Go.WideShapes Go.ChangeAt Go.RowKit

set_option maxHeartbeats 1000000 in
set_option maxRecDepth 100000 in
theorem mine_any (a n k : Int) (w : World) :
    Calls Try.prog 20 #[.int .i64 a, .int .i64 n, .int .i64 k] w fun e w' => ∃ v', e = .returned (.tuple #[v', .int .i64 (errO a k n k)]) ∧
      w'.ownsRow w.heap.size 3 1 v' (okL (errO a k n k) (mineL a.toNat n.toNat k.toNat)).length ((okL (errO a k n k) (mineL a.toNat n.toNat k.toNat)).flatMap encI) ∧ Below w.heap.size w w' := by
  have HC : Hid (∀ X, Calls Try.prog 45 #[.int .i64 a, .int .i64 k, .int .i64 n, .int .i64 k] X fun e w' => e = .returned (.int .i64 (errO a k n k)) ∧ w' = X) := fun X => ownCheck_any a k n k X
  by_cases hf : errO a k n k = 0
  · obtain ⟨⟨hn0, hn1, hk0, hk1⟩, ha0, ha1⟩ := errO_inv hf
    rw [hf] at HC ⊢
    rw [okL_yes]
    obtain ⟨N, rfl⟩ : ∃ m : Nat, n = m := ⟨n.toNat, by omega⟩
    obtain ⟨K, rfl⟩ : ∃ m : Nat, k = m := ⟨k.toNat, by omega⟩
    obtain ⟨A, rfl⟩ : ∃ m : Nat, a = m := ⟨a.toNat, by omega⟩
    rw [Int.toNat_natCast, Int.toNat_natCast, Int.toNat_natCast]
    have hk : 1 ≤ K ∧ K ≤ 8 := by omega
    have haK : A < K := by omega
    have HM : Hid (∀ j, j < cntO A N K ↔ A + j * K < N) := fun j => cnt_more hk haK
    have HL : Hid (mineT A K (cntO A N K) = mineL A N K) := rfl
    have hcn : cntO A N K ≤ N := cnt_le hk
    clear hf hn0 hk0 hk1 ha0 ha1
    generalize mineL A N K = ML at *
    generalize cntO A N K = cn at *
    go_enter Try.func20, Try.ntmps20
    go_wp2_with fail
    refine (HC.out _).mono ?_
    rintro e w1 ⟨rfl, rfl⟩
    clear HC
    go_wp2_with fail
    go_loopw [9, 10] (fun u v wr => ∃ j : Nat, j ≤ cn ∧ v = .int .i64 ((A + j * K : Nat) : Int) ∧ wr.ownsRow w1.heap.size 3 1 u (mineT A K j).length ((mineT A K j).flatMap encI) ∧ Below w1.heap.size w1 wr) (fun _ v _ => N - (intOf v).toNat)
    case atStart => exact ⟨0, by omega, by simp, World.ownsRow_nil _ _ _ _, Below.refl _ _⟩
    case round =>
      obtain ⟨j, hj, rfl, hown, hbel⟩ := hrel
      have OW : Hid (wr.ownsRow w1.heap.size 3 1 u9 (mineT A K j).length ((mineT A K j).flatMap encI)) := hown
      have HB : Hid (Below w1.heap.size w1 wr) := hbel
      have hsr := hbel.size
      have HJ := HM.out j
      have HN2 : Hid (mineT A K (j + 1) = mineT A K j ++ [((A + j * K : Nat) : Int)]) := mineT_next A K j
      have hlen : (mineT A K j).length = j := mineT_len A K j
      have hlen2 : (mineT A K j).length ≤ 200 := by omega
      have HV : Hid ((A + (j + 1) * K : Nat) = A + j * K + K) := by show _ = _; rw [Nat.add_mul]; omega
      clear hown hbel
      by_cases hlt : j < cn
      · have hv : A + j * K < N := HJ.1 hlt
        clear HJ hlen
        generalize A + j * K = V at *
        generalize mineT A K j = f at *
        go_wp2_with (at_builtin; refine wpList_append_newK kI rfl _ _ rfl w1.heap.size _ f rfl (OW.out.alloc _) _ (V : Int) rfl #[.int .i64 V] rfl (0, 0) (heap_alloc_new _ _) (by simp [kI]; omega) (by unfold maxLen; omega) (by simp; omega) ?_)
        intro g c w3 hown3 hb3 _
        have O3 : Hid (w3.ownsRow w1.heap.size 3 1 (.slice (some ⟨g, 0, none⟩) (f.length + 1) c) (mineT A K (j + 1)).length ((mineT A K (j + 1)).flatMap encI)) := by
          show World.ownsRow _ _ _ _ _ _ _
          rw [HN2.out, flat_snoc, List.length_append]; exact hown3
        have B3 : Hid (Below w1.heap.size w1 w3) := (HB.out.alloc hsr _).trans hb3
        clear hown3 hb3
        go_wp2_with fail
        go_roundw
        case rel => exact ⟨j + 1, by omega, by rw [HV.out]; go_num, O3.out, B3.out⟩
        case measure => simp [intOf]; omega
      · have hv : ¬ A + j * K < N := fun h => hlt (HJ.2 h)
        obtain rfl : j = cn := by omega
        rw [HL.out] at OW
        clear HJ hlen hlen2 HN2 HV
        generalize A + j * K = V at *
        go_wp2_with fail
        go_ret2
        exact ⟨_, rfl, OW.out, HB.out⟩
  · have hne : (errO a k n k != 0) = true := by simpa using hf
    rw [okL_no hf]
    generalize errO a k n k = fe at *
    clear hf
    go_enter Try.func20, Try.ntmps20
    go_wp2_with fail
    refine (HC.out _).mono ?_
    rintro e w1 ⟨rfl, rfl⟩
    go_wp2_with fail
    go_ret2
    exact ⟨_, rfl, World.ownsRow_nil _ _ _ _, Below.refl _ _⟩
end Go.Proofs.Ytacpicnihgggaaa
