/-
  For every three numbers each vertex stands in one worker's list, at its place, of as many vertices and workers as the numbers tell (the law OwnerOne returns true); no condition.
-/
import Derived.Test.YtpibgogfnphceaaMineWalk
import Derived.Test.YtpibgogfnphceaaPicked
import Derived.WalkKit
import Derived.ProofKit
import Derived.OpenShut
import Derived.ShutString
import Derived.SizedLaws
import Derived.ChangeOld
import Derived.Below
namespace Go.Proofs.Ytpibgogfnphceaa.ownerOne
open Go.ChangeShapes Go.WideShapes Go.ChangeAt Go.RowKit

theorem own : ownKnob Try.prog.godebug = none := by kernel_rfl
theorem laidOut : laidOutB Try.prog = true := by kernel_rfl

set_option maxHeartbeats 1000000 in
set_option maxRecDepth 100000 in
theorem walk (n0 : Int) (n1 : Int) (n2 : Int) (w : World) (hI0 : -9223372036854775808 ≤ n0 ∧ n0 ≤ 9223372036854775807) (hI1 : -9223372036854775808 ≤ n1 ∧ n1 ≤ 9223372036854775807) (hI2 : -9223372036854775808 ≤ n2 ∧ n2 ≤ 9223372036854775807) :
    Calls Try.prog 6 #[.int .i64 n0, .int .i64 n1, .int .i64 n2] w fun e w' => e = .returned (.bool true) ∧ Below w.heap.size w w' := by
  have _u := hI0
  clear _u
  have _u := hI1
  clear _u
  have _u := hI2
  clear _u
  have hp0 := pickF_bd n0 200 (by omega)
  have hp1 := pickF_bd n1 8 (by omega)
  have C0 : Hid (∀ X, Calls Try.prog 15 #[.int .i64 n0, .int .i64 200] X fun e w' => e = .returned (.int .i64 (pickF n0 200)) ∧ w' = X) := fun X => picked_any n0 200 X hI0.1 hI0.2 (by omega) (by omega)
  have C1 : Hid (∀ X, Calls Try.prog 15 #[.int .i64 n1, .int .i64 8] X fun e w' => e = .returned (.int .i64 (pickF n1 8)) ∧ w' = X) := fun X => picked_any n1 8 X hI1.1 hI1.2 (by omega) (by omega)
  obtain ⟨N, hN⟩ : ∃ m : Nat, pickF n0 200 + 1 = m := ⟨(pickF n0 200 + 1).toNat, by omega⟩
  obtain ⟨K, hK⟩ : ∃ m : Nat, pickF n1 8 + 1 = m := ⟨(pickF n1 8 + 1).toNat, by omega⟩
  have hp2 := pickF_bd n2 N (by omega)
  have C2 : Hid (∀ X, Calls Try.prog 15 #[.int .i64 n2, .int .i64 N] X fun e w' => e = .returned (.int .i64 (pickF n2 N)) ∧ w' = X) := fun X => picked_any n2 N X hI2.1 hI2.2 (by omega) (by omega)
  obtain ⟨V, hV⟩ : ∃ m : Nat, pickF n2 N = m := ⟨(pickF n2 N).toNat, by omega⟩
  rw [hV] at C2 hp2
  have hk8 : 1 ≤ K ∧ K ≤ 8 := by omega
  have hN2 : N ≤ 200 := by omega
  have hVN : V < N := by omega
  have hw0 : IntKind.i64.wrap (1 + pickF n0 200) = (N : Int) := by rw [wrap_id64 (by omega) (by omega)]; omega
  have hw1 : IntKind.i64.wrap (1 + pickF n1 8) = (K : Int) := by rw [wrap_id64 (by omega) (by omega)]; omega
  have HM : Hid (∀ (j : Nat) X, j < K → Calls Try.prog 10 #[.int .i64 j, .int .i64 N, .int .i64 K] X fun e w' => ∃ v', e = .returned (.tuple #[v', .int .i64 0]) ∧ InR w' v' (mineL j N K) ∧ Below X.heap.size X w') := fun j X hj => by
    have := mine_any j N K X
    rw [errO_ok (by omega) (by omega), okL_yes, Int.toNat_natCast, Int.toNat_natCast, Int.toNat_natCast] at this
    refine this.mono ?_
    rintro e w' ⟨v', he, ho, hb⟩
    exact ⟨v', he, RowK.own encI_len ho, hb⟩
  have CO : Hid (∀ X, Calls Try.prog 8 #[.int .i64 V, .int .i64 N, .int .i64 K] X fun e w' => e = .returned (.tuple #[.int .i64 ((V % K : Nat) : Int), .int .i64 0]) ∧ w' = X) := fun X => by
    have := of_any V N K X
    rwa [errO_ok (by omega) (by omega), okN_yes, ← Int.natCast_emod] at this
  have CP : Hid (∀ X, Calls Try.prog 13 #[.int .i64 V, .int .i64 N, .int .i64 K] X fun e w' => e = .returned (.tuple #[.int .i64 ((V / K : Nat) : Int), .int .i64 0]) ∧ w' = X) := fun X => by
    have := place_any V N K X
    rwa [errO_ok (by omega) (by omega), okN_yes, ← Int.natCast_ediv] at this
  have HAT : Hid (∀ j i, j < K → i < (mineL j N K).length → ∃ x : Int, (mineL j N K)[i]? = some x ∧ (x = (V : Int) ↔ (V % K = j ∧ V / K = i))) := fun j i hj hi => by
    refine ⟨_, mineL_at (by rw [mineL_len] at hi; exact hi), ?_⟩
    have := at_place (v := V) (i := i) hk8 hj
    exact ⟨fun h => this.1 (by omega), fun h => by have := this.2 h; omega⟩
  have HLn : Hid (∀ j, (mineL j N K).length ≤ 200) := fun j => by
    have := cnt_le (a := j) (n := N) hk8
    rw [mineL_len]; omega
  have HPL : Hid (V / K < (mineL (V % K) N K).length) := by
    show _ < _
    rw [mineL_len]; exact place_lt hk8 hVN
  have hrK : V % K < K := Nat.mod_lt _ (by omega)
  have hdN : V / K ≤ V := Nat.div_le_self _ _
  obtain ⟨mF, hmF⟩ : ∃ f : Nat → List Int, ∀ j, mineL j N K = f j := ⟨fun j => mineL j N K, fun _ => rfl⟩
  simp only [hmF] at HM HAT HLn HPL
  generalize V % K = r at *
  generalize V / K = d at *
  clear hmF hI0 hI1 hI2 hN hK hV
  go_enter Try.func6, Try.ntmps6
  go_wp2_with fail
  refine (C0.out _).mono ?_
  rintro e w1 ⟨rfl, hw⟩
  replace hw := hw.symm
  subst hw
  go_wp2_with fail
  refine (C1.out _).mono ?_
  rintro e w1 ⟨rfl, hw⟩
  replace hw := hw.symm
  subst hw
  go_wp2_with fail
  refine (C2.out _).mono ?_
  rintro e w1 ⟨rfl, hw⟩
  replace hw := hw.symm
  subst hw
  clear C0 C1 C2
  go_wp2_with fail
  go_loopw [10, 11] (fun m i wr => ∃ (j t : Nat), j ≤ K ∧ i = .int .i64 j ∧ m = .int .i64 t ∧ t = (if r < j then 1 else 0) ∧ Below w.heap.size w wr) (fun _ i _ => K - (intOf i).toNat)
  case atStart => exact ⟨0, 0, by omega, rfl, rfl, by rw [if_neg (by omega)], Below.refl _ _⟩
  case round =>
    obtain ⟨j, t, hj, rfl, rfl, ht, hbel⟩ := hrel
    have HB : Hid (Below w.heap.size w wr) := hbel
    have HT : Hid (t = (if r < j then 1 else 0)) := ht
    have ht1 : t ≤ 1 := by split at ht <;> omega
    clear hbel ht
    by_cases hlt : j < K
    · have HMj : Hid (∀ X, Calls Try.prog 10 #[.int .i64 j, .int .i64 N, .int .i64 K] X fun e w' => ∃ v', e = .returned (.tuple #[v', .int .i64 0]) ∧ InR w' v' (mF j) ∧ Below X.heap.size X w') := fun X => HM.out j X hlt
      have HAj : Hid (∀ i, i < (mF j).length → ∃ x : Int, (mF j)[i]? = some x ∧ (x = (V : Int) ↔ (r = j ∧ d = i))) := fun i hi => HAT.out j i hlt hi
      have hLl := HLn.out j
      have HPj : Hid (r = j → d < (mF j).length) := fun h => by have := HPL.out; rwa [h] at this
      go_wp2_with fail
      refine (HMj.out _).mono ?_
      rintro e w2 ⟨v', rfl, hr2, hb2⟩
      have R2 : Hid (InR w2 v' (mF j)) := hr2
      have B2 : Hid (Below w.heap.size w w2) := HB.out.trans (hb2.mono HB.out.size)
      obtain ⟨la, lc, e1, hlc, hlm, _⟩ := hr2
      subst e1
      unfold maxLen at hlm
      have HW : Hid (∃ x, x = wr) := ⟨wr, rfl⟩
      clear hb2 HB HMj
      generalize mF j = L at *
      clear HW
      go_wp2_with fail
      clear wr
      go_loopw [10, 14] (fun m i wr => ∃ (z s : Nat), z ≤ L.length ∧ i = .int .i64 z ∧ m = .int .i64 s ∧ s = t + (if r = j ∧ d < z then 1 else 0) ∧ wr = w2) (fun _ i _ => L.length - (intOf i).toNat)
      case atStart => exact ⟨0, t, by omega, rfl, rfl, by rw [if_neg (by omega)]; rfl, rfl⟩
      case round =>
        obtain ⟨z, s, hz, rfl, rfl, hs, rfl⟩ := hrel
        have HZ : Hid (s = t + (if r = j ∧ d < z then 1 else 0)) := hs
        have hs1 : s ≤ 2 := by split at hs <;> omega
        clear hs
        by_cases hlz : z < L.length
        · obtain ⟨x, hx, hxv⟩ := HAj.out z hlz
          obtain ⟨b, off, cap, e1, _, _, _, hv⟩ := InR.at R2.out (by omega)
          injection e1 with e1 _ e3
          subst e1 e3
          have c1 := hv z x hx
          have p0 : (0 : Int) ≤ (z : Int) := by omega
          have p1 : (z : Int) < (L.length : Int) := by omega
          clear hx hv
          by_cases hxe : x = (V : Int)
          · obtain ⟨e1, e2⟩ := hxv.1 hxe
            have HZ2 : Hid (s + 1 = t + (if r = j ∧ d < z + 1 then 1 else 0)) := by
              show _ = _
              have := HZ.out
              rw [if_neg (by omega)] at this
              rw [if_pos ⟨e1, by omega⟩]; omega
            have hne : (x != (V : Int)) = false := by simpa using hxe
            have q1 : ((r : Int) != (j : Int)) = false := by simp; omega
            have q2 : ((d : Int) != (z : Int)) = false := by simp; omega
            clear hxv hxe e1 e2
            go_wp2_with fail
            refine (CO.out _).mono ?_
            rintro e w3 ⟨rfl, hw⟩
            replace hw := hw.symm
            subst hw
            go_wp2_with fail
            refine (CP.out _).mono ?_
            rintro e w3 ⟨rfl, hw⟩
            replace hw := hw.symm
            subst hw
            go_wp2_with fail
            go_roundw
            case rel => exact ⟨z + 1, s + 1, by omega, by go_num, by go_num, HZ2.out, trivial⟩
            case measure => simp [intOf]; omega
          · have HZ2 : Hid (s = t + (if r = j ∧ d < z + 1 then 1 else 0)) := by
              show _ = _
              have := HZ.out
              by_cases hd : r = j ∧ d < z
              · rw [if_pos hd] at this
                rw [if_pos ⟨hd.1, by omega⟩]; exact this
              · rw [if_neg hd] at this
                rw [if_neg (fun h => hxe (hxv.2 ⟨h.1, by omega⟩))]; exact this
            have hne : (x != (V : Int)) = true := by simpa using hxe
            clear hxv hxe
            go_wp2_with fail
            go_roundw
            case rel => exact ⟨z + 1, s, by omega, by go_num, rfl, HZ2.out, trivial⟩
            case measure => simp [intOf]; omega
        · have HS2 : Hid (s = (if r < j + 1 then 1 else 0)) := by
            show _ = _
            have h1 := HZ.out
            have h2 := HT.out
            have h3 := HPj.out
            by_cases hrj : r = j
            · have := h3 hrj
              rw [if_pos ⟨hrj, by omega⟩] at h1
              rw [if_neg (by omega)] at h2
              rw [if_pos (by omega)]; omega
            · rw [if_neg (by omega)] at h1
              by_cases hr2 : r < j
              · rw [if_pos hr2] at h2
                rw [if_pos (by omega)]; omega
              · rw [if_neg hr2] at h2
                rw [if_neg (by omega)]; omega
          go_wp2_with fail
          go_roundw
          case rel => exact ⟨j + 1, s, by omega, by go_num, rfl, HS2.out, B2.out⟩
          case measure => simp [intOf]; omega
    · have ht2 : t = 1 := by
        have := HT.out
        rw [if_pos (by omega)] at this
        exact this
      subst ht2
      go_wp2_with fail
      go_ret
      exact ⟨ret_bool (by simp), HB.out⟩

set_option maxHeartbeats 400000 in
set_option maxRecDepth 100000 in
theorem lifted (os : Os) (started : os.Started) (H : Type) (enc : TypeId × Value → H) :
    ReturnsInHanded {} Try.checked os 6 .any (Rows.ownerOneSpec.pre6 enc Try.prog Try.f6 Rows.ownerOneRow.domain false) (Rows.ownerOneSpec.post enc Try.prog Try.f6 false true false false) := by
  refine returnsInHanded_of_change_sized (C := Try.checked) own started (by kernel_rfl) Try.func6
    (ChangeSpec.witness6 (enc := enc) (C := Try.checked) false ⟨#[], #[.int .i64 0, .int .i64 0, .int .i64 0], []⟩ 8 (by kernel_rfl) (by kernel_rfl) (by kernel_rfl) (by kernel_rfl)) ?_
  intro W base args ds gs before hval0 hW _ hsz0 _
  have hval : ∀ (j : Nat) t v, Try.f6.params[j]? = some t → args[j]? = some v → Value.okWide Try.prog W .any base t v := hval0
  have hW' := hW
  obtain ⟨p, q, hA0, hV, rfl, hfz, hnd⟩ := hW
  have hA : DataW.TrodAll enc Try.prog W 0 (fun _ => true) true Try.f6.params.toList args.toList ds p := hA0
  have hsz : (DataW.weightsEach Try.prog (Try.f6.params.toList ++ Rows.ownerOneSpec.plain.varTypes Try.prog) (ds ++ gs)).all (fun x => decide (x ≤ reachBytes)) = true := hsz0
  rw [Try.params6] at hA hval hsz
  obtain ⟨v0, vs0, d0, ds0, p0, q0, hargs, rfl, rfl, h0, r0⟩ := trodAll_cons hA
  obtain ⟨v1, vs1, d1, ds1, p1, q1, rfl, rfl, rfl, h1, r1⟩ := trodAll_cons r0
  obtain ⟨v2, vs2, d2, ds2, p2, q2, rfl, rfl, rfl, h2, r2⟩ := trodAll_cons r1
  obtain ⟨rfl, rfl, rfl⟩ := trodAll_nil r2
  obtain rfl : args = #[v0, v1, v2] := by cases args; simp_all
  obtain ⟨rfl, rfl⟩ := trodVars_none hV
  have k0 := h0
  have lt0 : ∀ x ∈ p0, x.block < W.heap.size := by obtain ⟨m, hm⟩ := k0; exact DataW.trod_lt m _ _ _ hm
  have k1 := h1
  have lt1 : ∀ x ∈ p1, x.block < W.heap.size := by obtain ⟨m, hm⟩ := k1; exact DataW.trod_lt m _ _ _ hm
  have k2 := h2
  have lt2 : ∀ x ∈ p2, x.block < W.heap.size := by obtain ⟨m, hm⟩ := k2; exact DataW.trod_lt m _ _ _ hm
  obtain ⟨n0, rfl, _, _, wf0⟩ := open_int Try.underlying3 (hval 0 3 v0 rfl rfl) h0
  have hI0 := bounds_i64 wf0
  obtain ⟨n1, rfl, _, _, wf1⟩ := open_int Try.underlying3 (hval 1 3 v1 rfl rfl) h1
  have hI1 := bounds_i64 wf1
  obtain ⟨n2, rfl, _, _, wf2⟩ := open_int Try.underlying3 (hval 2 3 v2 rfl rfl) h2
  have hI2 := bounds_i64 wf2
  clear hA0 hval0
  refine (walk n0 n1 n2 W hI0 hI1 hI2).mono fun e W' ⟨he, bel⟩ => ?_
  subst he
  exact ⟨_, rfl, _, _, _, [], _, [], hW', trodAll_mk1 (shut_bool Try.underlying4 _), (trodAll_cons_mk (Below.trod laidOut (by kernel_rfl) (of_decide_eq_true (by kernel_rfl)) k0 bel lt0) (trodAll_cons_mk (Below.trod laidOut (by kernel_rfl) (of_decide_eq_true (by kernel_rfl)) k1 bel lt1) (trodAll_cons_mk (Below.trod laidOut (by kernel_rfl) (of_decide_eq_true (by kernel_rfl)) k2 bel lt2) trodAll_mk0))), rfl, bel.frame _, fun h => by cases h⟩

theorem over : Rows.ownerOneRow.holds Try.pinned (OpenSpec.ofChange Rows.ownerOneSpec) :=
  OpenClaim.holds_of_wide 6 Try.f6 rfl rfl rfl rfl rfl rfl rfl ⟨rfl, rfl, rfl, rfl, rfl⟩ rfl rfl rfl rfl rfl (by kernel_rfl) Try.func6 (by kernel_rfl)
    (of_decide_eq_true (by kernel_rfl)) (by unfold Func.isWrapper; first | (rw [if_pos (by decide +kernel)]; kernel_rfl) | (rw [if_neg (by decide +kernel)]; exact ⟨rfl, rfl⟩))
    (fun os started H enc _ => lifted os started H enc)

/-- The statement. -/
theorem proved : Rows.OwnerOneSaid := over
#print axioms proved
end Go.Proofs.Ytpibgogfnphceaa.ownerOne
