/-
  Contract of the document's own PlaceOf.
-/
import Derived.Test.YtpibgogfnphceaaRefOwner
namespace Go.Proofs.Ytpibgogfnphceaa
open Go.ChangeShapes Go.WideShapes Go.ChangeAt Go.RowKit

set_option maxHeartbeats 1000000 in
set_option maxRecDepth 100000 in
theorem placeOf_any (v n k : Int) (w : World) (hn : -9223372036854775808 ≤ n ∧ n ≤ 9223372036854775807) (hk : -9223372036854775808 ≤ k ∧ k ≤ 9223372036854775807) :
    Calls Try.prog 14 #[.int .i64 v, .int .i64 n, .int .i64 k] w fun e w' => e = .returned (.tuple #[.int .i64 (okN (errO v n n k) (v / k)), .int .i64 (errO v n n k)]) ∧ Below w.heap.size w w' := by
  have HO : Hid (Calls Try.prog 9 #[.int .i64 v, .int .i64 n, .int .i64 k] w fun e w' => e = .returned (.tuple #[.int .i64 (okN (errO v n n k) (v % k)), .int .i64 (errO v n n k)]) ∧ w' = w) := ownerOf_any v n k w hn
  by_cases hf : errO v n n k = 0
  · obtain ⟨⟨hn0, hn1, hk0, hk1⟩, ha0, ha1⟩ := errO_inv hf
    rw [hf, okN_yes] at HO
    rw [hf, okN_yes]
    obtain ⟨K, rfl⟩ : ∃ m : Nat, k = m := ⟨k.toNat, by omega⟩
    obtain ⟨V, rfl⟩ : ∃ m : Nat, v = m := ⟨v.toNat, by omega⟩
    obtain ⟨N, rfl⟩ : ∃ m : Nat, n = m := ⟨n.toNat, by omega⟩
    have hk8 : 1 ≤ K ∧ K ≤ 8 := by omega
    rw [← Int.natCast_emod] at HO
    rw [← Int.natCast_ediv]
    have HM : Hid (Calls Try.prog 11 #[.int .i64 ((V % K : Nat) : Int), .int .i64 N, .int .i64 K] w fun e w' => ∃ v', e = .returned (.tuple #[v', .int .i64 0]) ∧ InR w' v' (mineL (V % K) N K) ∧ Below w.heap.size w w') := by
      have hlt : V % K < K := Nat.mod_lt _ (by omega)
      have := mineOf_any ((V % K : Nat) : Int) N K w (by omega)
      rw [errO_ok (by omega) (by omega), okL_yes, Int.toNat_natCast, Int.toNat_natCast, Int.toNat_natCast] at this
      refine this.mono ?_
      rintro e w' ⟨v', he, ho, hb⟩
      exact ⟨v', he, RowK.own encI_len ho, hb⟩
    have hpl : V / K < (mineL (V % K) N K).length := by rw [mineL_len]; exact place_lt hk8 (by omega)
    have HAT : Hid (∀ j, j ≤ V / K → ∃ x : Int, (mineL (V % K) N K)[j]? = some x ∧ (x = (V : Int) ↔ V / K = j)) := fun j hj => by
      refine ⟨_, mineL_at (by rw [mineL_len] at hpl; omega), ?_⟩
      have := at_place (v := V) (i := j) hk8 (Nat.mod_lt V (show 0 < K by omega))
      constructor
      · intro h
        exact (this.1 (by omega)).2
      · intro h
        have := this.2 ⟨rfl, h⟩
        omega
    have hLl : (mineL (V % K) N K).length ≤ 200 := by rw [mineL_len]; have := cnt_le (a := V % K) (n := N) hk8; omega
    clear hf
    generalize mineL (V % K) N K = L at *
    generalize V % K = r at *
    obtain ⟨d, hd⟩ : ∃ d, V / K = d := ⟨_, rfl⟩
    rw [hd] at hpl HAT ⊢
    clear hd
    go_enter Try.func14, Try.ntmps14
    go_wp2_with fail
    refine HO.out.mono ?_
    rintro e w1 ⟨rfl, hw⟩
    replace hw := hw.symm
    subst hw
    go_wp2_with fail
    refine HM.out.mono ?_
    rintro e w2 ⟨v', rfl, hr, hb⟩
    have HB : Hid (Below w.heap.size w w2) := hb
    have HR : Hid (InR w2 v' L) := hr
    obtain ⟨b, off, cap, rfl, hcap, hmax, hlt, hv⟩ := InR.at hr (by omega)
    have HV : Hid (∀ i x, L[i]? = some x → w2.cell? ⟨b, off + i, none⟩ = some (.int .i64 x)) := hv
    clear hb hr hv HO HM
    go_wp2_with fail
    go_loopw [12] (fun i wr => ∃ j : Nat, j ≤ d ∧ i = .int .i64 j ∧ wr = w2) (fun i _ => L.length - (intOf i).toNat)
    case atStart => exact ⟨0, by omega, rfl, rfl⟩
    case round =>
      obtain ⟨j, hj, rfl, rfl⟩ := hrel
      obtain ⟨x, hx, hxv⟩ := HAT.out j hj
      have c1 := HV.out j x hx
      have p0 : (0 : Int) ≤ (j : Int) := by omega
      have p1 : (j : Int) < (L.length : Int) := by omega
      clear hx
      by_cases hjd : j < d
      · have hz : (x == (V : Int)) = false := by
          simp
          intro h
          have := hxv.1 h
          omega
        clear hxv
        go_wp2_with fail
        go_roundw
        case rel => exact ⟨j + 1, by omega, by go_num, trivial⟩
        case measure => simp [intOf]; omega
      · obtain rfl : j = d := by omega
        have hz : (x == (V : Int)) = true := by
          simp
          exact hxv.2 rfl
        clear hxv
        go_wp2_with fail
        go_ret2
        exact ⟨rfl, HB.out⟩
  · have hne : (errO v n n k != 0) = true := by simpa using hf
    rw [okN_no hf] at HO ⊢
    generalize errO v n n k = fe at *
    clear hf
    go_enter Try.func14, Try.ntmps14
    go_wp2_with fail
    refine HO.out.mono ?_
    rintro e w1 ⟨rfl, rfl⟩
    go_wp2_with fail
    go_ret2
    exact ⟨rfl, Below.refl _ _⟩
end Go.Proofs.Ytpibgogfnphceaa
