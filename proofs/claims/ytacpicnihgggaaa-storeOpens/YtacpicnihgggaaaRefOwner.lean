/-
  Contracts of the document's own OwnerOf, MineOf and PlaceOf.
-/
import Derived.Test.YtacpicnihgggaaaOwnerMath
import Derived.Test.YtacpicnihgggaaaInWalk
import Derived.Test.YtacpicnihgggaaaRowNew
namespace Go.Proofs.Ytacpicnihgggaaa
set_option maxRecDepth 100000
open Go.ChangeShapes Go.WideShapes Go.ChangeAt Go.RowKit

theorem mod_next {j k : Nat} (hk : 1 ≤ k ∧ k ≤ 8) : (j % k + 1 = k → (j + 1) % k = 0) ∧ (j % k + 1 ≠ k → (j + 1) % k = j % k + 1) := by
  rcases upto8 hk with h' | h' | h' | h' | h' | h' | h' | h' <;> subst h' <;> omega

set_option maxHeartbeats 1000000 in
set_option maxRecDepth 100000 in
theorem ownerOf_any (v n k : Int) (w : World) (hn : -9223372036854775808 ≤ n ∧ n ≤ 9223372036854775807) :
    Calls Try.prog 55 #[.int .i64 v, .int .i64 n, .int .i64 k] w fun e w' => e = .returned (.tuple #[.int .i64 (okN (errO v n n k) (v % k)), .int .i64 (errO v n n k)]) ∧ w' = w := by
  by_cases hN : 0 ≤ n ∧ n ≤ 200
  · have i1 := in_yes hN
    by_cases hK : 1 ≤ k ∧ k ≤ 8
    · have i2 := in_yes hK
      have hw1 : IntKind.i64.wrap (n - 1) = n - 1 := wrap_id64 (by omega) (by omega)
      by_cases hV : 0 ≤ v ∧ v ≤ n - 1
      · have i3 := in_yes hV
        rw [errO_ok (by omega) (by omega), okN_yes]
        obtain ⟨K, rfl⟩ : ∃ m : Nat, k = m := ⟨k.toNat, by omega⟩
        obtain ⟨V, rfl⟩ : ∃ m : Nat, v = m := ⟨v.toNat, by omega⟩
        have hk : 1 ≤ K ∧ K ≤ 8 := by omega
        have HR : Hid ((V : Int) % (K : Int) = ((V % K : Nat) : Int)) := by show _ = _; exact (Int.natCast_emod V K).symm
        have HS : Hid (∀ j, (j % K + 1 = K → (j + 1) % K = 0) ∧ (j % K + 1 ≠ K → (j + 1) % K = j % K + 1)) := fun j => mod_next hk
        have HLT : Hid (∀ j, j % K < K) := fun j => Nat.mod_lt _ (by omega)
        rw [HR.out]
        go_enter Try.func55, Try.ntmps55
        go_wp2_with (go_at_call 54; refine (in_any _ _ _ _).mono ?_; (first | rw [i1] | rw [i2] | rw [i3]); rintro e w1 ⟨rfl, hw⟩; replace hw := hw.symm; subst hw)
        go_loopw [8, 9] (fun u i wr => ∃ j : Nat, j ≤ V ∧ i = .int .i64 j ∧ u = .int .i64 ((j % K : Nat) : Int) ∧ wr = w) (fun _ i _ => V - (intOf i).toNat)
        case atStart => exact ⟨0, by omega, rfl, by simp, rfl⟩
        case round =>
          obtain ⟨j, hj, rfl, rfl, rfl⟩ := hrel
          obtain ⟨s1, s2⟩ := HS.out j
          have hlt := HLT.out j
          by_cases hjV : j < V
          · by_cases hz : j % K + 1 = K
            · have HZ : Hid ((j + 1) % K = 0) := s1 hz
              have hz2 : (((j % K : Nat) : Int) + 1 == (K : Int)) = true := by simp; omega
              clear s1 s2 hz
              generalize j % K = r at *
              go_wp2_with fail
              go_roundw
              case rel => exact ⟨j + 1, by omega, by go_num, by rw [HZ.out]; rfl, trivial⟩
              case measure => simp [intOf]; omega
            · have HZ : Hid ((j + 1) % K = j % K + 1) := s2 hz
              have hz2 : (((j % K : Nat) : Int) + 1 == (K : Int)) = false := by simp; omega
              clear s1 s2 hz
              generalize j % K = r at *
              go_wp2_with fail
              go_roundw
              case rel => exact ⟨j + 1, by omega, by go_num, by rw [HZ.out]; rfl, trivial⟩
              case measure => simp [intOf]; omega
          · obtain rfl : j = V := by omega
            clear s1 s2
            obtain ⟨r, hr⟩ : ∃ r, j % K = r := ⟨_, rfl⟩
            have HQ : Hid (j % K = r) := hr
            rw [hr]
            clear hr
            go_wp2_with fail
            go_ret2
            exact ⟨by rw [HQ.out] <;> rfl, rfl⟩
      · have i3 := in_no hV
        rw [errO_range (by omega) (by omega), okN_no (by omega)]
        go_enter Try.func55, Try.ntmps55
        go_wp2_with (go_at_call 54; refine (in_any _ _ _ _).mono ?_; (first | rw [i1] | rw [i2] | rw [i3]); rintro e w1 ⟨rfl, rfl⟩)
        go_ret2
        exact ⟨rfl, rfl⟩
    · have i2 := in_no hK
      rw [errO_size (by omega), okN_no (by omega)]
      go_enter Try.func55, Try.ntmps55
      go_wp2_with (go_at_call 54; refine (in_any _ _ _ _).mono ?_; (first | rw [i1] | rw [i2]); rintro e w1 ⟨rfl, rfl⟩)
      go_ret2
      exact ⟨rfl, rfl⟩
  · have i1 := in_no hN
    rw [errO_size (by omega), okN_no (by omega)]
    go_enter Try.func55, Try.ntmps55
    go_wp2_with (go_at_call 54; refine (in_any _ _ _ _).mono ?_; (first | rw [i1]); rintro e w1 ⟨rfl, rfl⟩)
    go_ret2
    exact ⟨rfl, rfl⟩

set_option maxHeartbeats 1000000 in
set_option maxRecDepth 100000 in
theorem mineOf_any (a n k : Int) (w : World) (hk : -9223372036854775808 ≤ k ∧ k ≤ 9223372036854775807) :
    Calls Try.prog 30 #[.int .i64 a, .int .i64 n, .int .i64 k] w fun e w' => ∃ v', e = .returned (.tuple #[v', .int .i64 (errO a k n k)]) ∧
      w'.ownsRow w.heap.size 3 1 v' (okL (errO a k n k) (mineL a.toNat n.toNat k.toNat)).length ((okL (errO a k n k) (mineL a.toNat n.toNat k.toNat)).flatMap encI) ∧ Below w.heap.size w w' := by
  by_cases hN : 0 ≤ n ∧ n ≤ 200
  · have i1 := in_yes hN
    by_cases hK : 1 ≤ k ∧ k ≤ 8
    · have i2 := in_yes hK
      have hw1 : IntKind.i64.wrap (k - 1) = k - 1 := wrap_id64 (by omega) (by omega)
      by_cases hA : 0 ≤ a ∧ a ≤ k - 1
      · have i3 := in_yes hA
        rw [errO_ok (by omega) (by omega), okL_yes]
        obtain ⟨K, rfl⟩ : ∃ m : Nat, k = m := ⟨k.toNat, by omega⟩
        obtain ⟨A, rfl⟩ : ∃ m : Nat, a = m := ⟨a.toNat, by omega⟩
        obtain ⟨N, rfl⟩ : ∃ m : Nat, n = m := ⟨n.toNat, by omega⟩
        rw [Int.toNat_natCast, Int.toNat_natCast, Int.toNat_natCast]
        have hk8 : 1 ≤ K ∧ K ≤ 8 := by omega
        have haK : A < K := by omega
        have HO : Hid (∀ (j : Nat) X, j < N → Calls Try.prog 55 #[.int .i64 j, .int .i64 N, .int .i64 K] X fun e w' => e = .returned (.tuple #[.int .i64 ((j % K : Nat) : Int), .int .i64 0]) ∧ w' = X) := fun j X hj => by
          have := ownerOf_any j N K X (by omega)
          rwa [errO_ok (by omega) (by omega), okN_yes, ← Int.natCast_emod] at this
        have HH : Hid (∀ j, j % K = A → mineL A (j + 1) K = mineL A j K ++ [(j : Int)]) := fun j hj => mine_hit hk8 hj
        have HM : Hid (∀ j, j % K ≠ A → mineL A (j + 1) K = mineL A j K) := fun j hj => mine_miss hk8 haK hj
        have H0 : Hid (mineL A 0 K = []) := mine_none hk8
        have HLn : Hid (∀ j, (mineL A j K).length ≤ j) := fun j => by rw [mineL_len]; exact cnt_le hk8
        go_enter Try.func30, Try.ntmps30
        go_wp2_with (go_at_call 54; refine (in_any _ _ _ _).mono ?_; (first | rw [i1] | rw [i2] | rw [i3]); rintro e w1 ⟨rfl, hw⟩; replace hw := hw.symm; subst hw)
        clear i1 i2 i3
        go_loopw [8, 9] (fun u i wr => ∃ j : Nat, j ≤ N ∧ i = .int .i64 j ∧ wr.ownsRow w.heap.size 3 1 u (mineL A j K).length ((mineL A j K).flatMap encI) ∧ Below w.heap.size w wr) (fun _ i _ => N - (intOf i).toNat)
        case atStart => exact ⟨0, by omega, rfl, by rw [H0.out]; exact World.ownsRow_nil _ _ _ _, Below.refl _ _⟩
        case round =>
          obtain ⟨j, hj, rfl, hown, hbel⟩ := hrel
          have OW : Hid (wr.ownsRow w.heap.size 3 1 u8 (mineL A j K).length ((mineL A j K).flatMap encI)) := hown
          have HB : Hid (Below w.heap.size w wr) := hbel
          have hsr := hbel.size
          have hll := HLn.out j
          have HHj : Hid (j % K = A → mineL A (j + 1) K = mineL A j K ++ [(j : Int)]) := HH.out j
          have HMj : Hid (j % K ≠ A → mineL A (j + 1) K = mineL A j K) := HM.out j
          clear hown hbel
          by_cases hlt : j < N
          · have HOj : Hid (Calls Try.prog 55 #[.int .i64 j, .int .i64 N, .int .i64 K] wr fun e w' => e = .returned (.tuple #[.int .i64 ((j % K : Nat) : Int), .int .i64 0]) ∧ w' = wr) := HO.out j wr hlt
            by_cases hz : j % K = A
            · have HN2 : Hid (mineL A (j + 1) K = mineL A j K ++ [(j : Int)]) := HHj.out hz
              have hz2 : (((j % K : Nat) : Int) == (A : Int)) = true := by simp; omega
              clear hz HHj HMj HH HM HO
              generalize mineL A j K = f at *
              generalize j % K = r at *
              go_wp2_with fail
              refine HOj.out.mono ?_
              rintro e w2 ⟨rfl, hw⟩
              replace hw := hw.symm
              subst hw
              go_wp2_with (at_builtin; refine wpList_append_newK kI rfl _ _ rfl w.heap.size _ f rfl (OW.out.alloc _) _ (j : Int) rfl #[.int .i64 j] rfl (0, 0) (heap_alloc_new _ _) (by simp [kI]; omega) (by unfold maxLen; omega) (by simp; omega) ?_)
              intro g c w3 hown3 hb3 _
              have O3 : Hid (w3.ownsRow w.heap.size 3 1 (.slice (some ⟨g, 0, none⟩) (f.length + 1) c) (mineL A (j + 1) K).length ((mineL A (j + 1) K).flatMap encI)) := by
                show World.ownsRow _ _ _ _ _ _ _
                rw [HN2.out, flat_snoc, List.length_append]; exact hown3
              have B3 : Hid (Below w.heap.size w w3) := (HB.out.alloc hsr _).trans hb3
              clear hown3 hb3
              go_wp2_with fail
              go_roundw
              case rel => exact ⟨j + 1, by omega, by go_num, O3.out, B3.out⟩
              case measure => simp [intOf]; omega
            · have HN2 : Hid (mineL A (j + 1) K = mineL A j K) := HMj.out hz
              have hz2 : (((j % K : Nat) : Int) == (A : Int)) = false := by simp; omega
              clear hz HHj HMj HH HM HO
              generalize j % K = r at *
              go_wp2_with fail
              refine HOj.out.mono ?_
              rintro e w2 ⟨rfl, hw⟩
              replace hw := hw.symm
              subst hw
              go_wp2_with fail
              go_roundw
              case rel => exact ⟨j + 1, by omega, by go_num, by rw [HN2.out]; exact OW.out, HB.out⟩
              case measure => simp [intOf]; omega
          · obtain rfl : j = N := by omega
            clear HHj HMj HH HM HO
            go_wp2_with fail
            go_ret2
            exact ⟨_, rfl, OW.out, HB.out⟩
      · have i3 := in_no hA
        rw [errO_range (by omega) (by omega), okL_no (by omega)]
        go_enter Try.func30, Try.ntmps30
        go_wp2_with (go_at_call 54; refine (in_any _ _ _ _).mono ?_; (first | rw [i1] | rw [i2] | rw [i3]); rintro e w1 ⟨rfl, rfl⟩)
        go_ret2
        exact ⟨_, rfl, World.ownsRow_nil _ _ _ _, Below.refl _ _⟩
    · have i2 := in_no hK
      rw [errO_size (by omega), okL_no (by omega)]
      go_enter Try.func30, Try.ntmps30
      go_wp2_with (go_at_call 54; refine (in_any _ _ _ _).mono ?_; (first | rw [i1] | rw [i2]); rintro e w1 ⟨rfl, rfl⟩)
      go_ret2
      exact ⟨_, rfl, World.ownsRow_nil _ _ _ _, Below.refl _ _⟩
  · have i1 := in_no hN
    rw [errO_size (by omega), okL_no (by omega)]
    go_enter Try.func30, Try.ntmps30
    go_wp2_with (go_at_call 54; refine (in_any _ _ _ _).mono ?_; (first | rw [i1]); rintro e w1 ⟨rfl, rfl⟩)
    go_ret2
    exact ⟨_, rfl, World.ownsRow_nil _ _ _ _, Below.refl _ _⟩
end Go.Proofs.Ytacpicnihgggaaa
