/-
  For every two numbers no worker has two vertices more than another, and all together have all, of as many vertices and workers as the two tell (the law OwnerEven returns true); no condition.
-/
import Derived.Test.YtpibgogfnphceaaMineWalk
import Derived.Test.YtpibgogfnphceaaPicked
import Derived.WalkKit
import Derived.ProofKit
import Derived.OpenShut
import Derived.ShutString
import Derived.SizedLaws
import Derived.ChangeOld
import Derived.Below
namespace Go.Proofs.Ytpibgogfnphceaa.ownerEven
open Go.ChangeShapes Go.WideShapes Go.ChangeAt Go.RowKit

theorem own : ownKnob Try.prog.godebug = none := by kernel_rfl
theorem laidOut : laidOutB Try.prog = true := by kernel_rfl

set_option maxHeartbeats 1000000 in
set_option maxRecDepth 100000 in
theorem walk (n0 : Int) (n1 : Int) (w : World) (hI0 : -9223372036854775808 ≤ n0 ∧ n0 ≤ 9223372036854775807) (hI1 : -9223372036854775808 ≤ n1 ∧ n1 ≤ 9223372036854775807) :
    Calls Try.prog 7 #[.int .i64 n0, .int .i64 n1] w fun e w' => e = .returned (.bool true) ∧ Below w.heap.size w w' := by
  have _u := hI0
  clear _u
  have _u := hI1
  clear _u
  have hp0 := pickF_bd n0 201 (by omega)
  have hp1 := pickF_bd n1 8 (by omega)
  have C0 : Hid (∀ X, Calls Try.prog 15 #[.int .i64 n0, .int .i64 201] X fun e w' => e = .returned (.int .i64 (pickF n0 201)) ∧ w' = X) := fun X => picked_any n0 201 X hI0.1 hI0.2 (by omega) (by omega)
  have C1 : Hid (∀ X, Calls Try.prog 15 #[.int .i64 n1, .int .i64 8] X fun e w' => e = .returned (.int .i64 (pickF n1 8)) ∧ w' = X) := fun X => picked_any n1 8 X hI1.1 hI1.2 (by omega) (by omega)
  obtain ⟨N, hN⟩ : ∃ m : Nat, pickF n0 201 = m := ⟨(pickF n0 201).toNat, by omega⟩
  obtain ⟨P, hP⟩ : ∃ m : Nat, pickF n1 8 = m := ⟨(pickF n1 8).toNat, by omega⟩
  rw [hN] at C0 hp0
  rw [hP] at C1 hp1
  have hk8 : 1 ≤ P + 1 ∧ P + 1 ≤ 8 := by omega
  have HM : Hid (∀ (j : Nat) X, j < P + 1 → Calls Try.prog 10 #[.int .i64 j, .int .i64 N, .int .i64 (P + 1 : Nat)] X fun e w' => ∃ a c, e = .returned (.tuple #[.slice a (cntO j N (P + 1)) c, .int .i64 0]) ∧ cntO j N (P + 1) ≤ c ∧ c ≤ maxLen ∧ Below X.heap.size X w') := fun j X hj => by
    have := mine_any j N (P + 1 : Nat) X
    rw [errO_ok (by omega) (by omega), okL_yes, Int.toNat_natCast, Int.toNat_natCast, Int.toNat_natCast] at this
    refine this.mono ?_
    rintro e w' ⟨v', he, ho, hb⟩
    obtain ⟨a, c, hv, hc, hm, _⟩ := RowK.own encI_len ho
    rw [mineL_len] at hv hc
    exact ⟨a, c, by rw [he, hv], hc, hm, hb⟩
  have HC : Hid (∀ j, j < P + 1 → N / (P + 1) ≤ cntO j N (P + 1) ∧ cntO j N (P + 1) ≤ N / (P + 1) + 1) := fun j hj => cnt_even hk8 hj
  have HCN : Hid (∀ j, cntO j N (P + 1) ≤ N) := fun j => cnt_le hk8
  have HS : Hid (sumO N (P + 1) (P + 1) = N) := sum_all hk8 N
  have HSL : Hid (∀ j, sumO N (P + 1) j ≤ j * N) := fun j => sum_le hk8 j
  have HSS : Hid (∀ j, sumO N (P + 1) (j + 1) = sumO N (P + 1) j + cntO j N (P + 1)) := fun j => rfl
  have hqn : N / (P + 1) ≤ N := Nat.div_le_self _ _
  have HE : Hid ((1 : Int) + (P : Int) = ((P + 1 : Nat) : Int)) := by show _ = _; omega
  have hw1 : IntKind.i64.wrap (1 + (P : Int)) = ((P + 1 : Nat) : Int) := by rw [wrap_id64 (by omega) (by omega)]; omega
  clear hN hP hI0 hI1
  generalize N / (P + 1) = q at *
  obtain ⟨sumF, hsF⟩ : ∃ f : Nat → Nat, f = sumO N (P + 1) := ⟨_, rfl⟩
  obtain ⟨cntF, hcF⟩ : ∃ f : Nat → Nat, ∀ j, cntO j N (P + 1) = f j := ⟨fun j => cntO j N (P + 1), fun _ => rfl⟩
  simp only [hcF] at HM HC HCN HSS
  rw [← hsF] at HS HSL HSS
  clear hsF hcF
  have h0 : sumF 0 = 0 := by have := HSL.out 0; omega
  have HS0 : Hid (sumF 0 = 0) := h0
  clear h0
  generalize P + 1 = K at *
  have hK8 : K ≤ 8 := hk8.2
  clear hk8
  go_enter Try.func7, Try.ntmps7
  go_wp2_with fail
  refine (C0.out _).mono ?_
  rintro e w1 ⟨rfl, hw⟩
  replace hw := hw.symm
  subst hw
  go_wp2_with fail
  refine (C1.out _).mono ?_
  rintro e w1 ⟨rfl, hw⟩
  replace hw := hw.symm
  subst hw
  go_wp2_with fail
  go_loopw [7, 8, 9, 10] (fun s l m i wr => ∃ (j lo hi : Nat), j ≤ K ∧ i = .int .i64 j ∧ s = .int .i64 (sumF j) ∧ l = .int .i64 lo ∧ m = .int .i64 hi ∧ q ≤ lo ∧ lo ≤ N ∧ hi ≤ q + 1 ∧ Below w.heap.size w wr) (fun _ _ _ i _ => K - (intOf i).toNat)
  case atStart => exact ⟨0, N, 0, by omega, rfl, by rw [HS0.out]; rfl, rfl, rfl, hqn, Nat.le_refl _, by omega, Below.refl _ _⟩
  case round =>
    obtain ⟨j, lo, hi, hj, rfl, rfl, rfl, rfl, hl0, hl1, hh, hbel⟩ := hrel
    have HB : Hid (Below w.heap.size w wr) := hbel
    clear hbel
    by_cases hlt : j < K
    · obtain ⟨c0, c1⟩ := HC.out j hlt
      have c2 := HCN.out j
      have s0 := HSL.out j
      have HSj : Hid (sumF (j + 1) = sumF j + cntF j) := HSS.out j
      have HMj : Hid (∀ X, Calls Try.prog 10 #[.int .i64 j, .int .i64 N, .int .i64 K] X fun e w' => ∃ a c, e = .returned (.tuple #[.slice a (cntF j) c, .int .i64 0]) ∧ cntF j ≤ c ∧ c ≤ maxLen ∧ Below X.heap.size X w') := fun X => HM.out j X hlt
      have s1 : sumF j ≤ 1600 := by
        have : j * N ≤ 8 * 200 := Nat.mul_le_mul (by omega) (by omega)
        omega
      clear HM HSS HSL HC HCN s0
      generalize cntF j = c at *
      generalize sumF j = sj at *
      obtain ⟨lo2, hlo2⟩ : ∃ m : Nat, (if (c : Int) < (lo : Int) then (c : Int) else (lo : Int)) = m := ⟨min c lo, by split <;> omega⟩
      obtain ⟨hi2, hhi2⟩ : ∃ m : Nat, (if (c : Int) > (hi : Int) then (c : Int) else (hi : Int)) = m := ⟨max c hi, by split <;> omega⟩
      have a0 : q ≤ lo2 := by split at hlo2 <;> omega
      have a1 : lo2 ≤ N := by split at hlo2 <;> omega
      have a2 : hi2 ≤ q + 1 := by split at hhi2 <;> omega
      have hmin : ∀ (w : World) (ats : Array TypeId) (ty : TypeId), (Builtin.min_ ats ty #[.int .i64 lo, .int .i64 c]).run Try.prog w = .ok (.int .i64 lo2) w := fun w ats ty => by rw [run_min_int2, hlo2]
      have hmax : ∀ (w : World) (ats : Array TypeId) (ty : TypeId), (Builtin.max_ ats ty #[.int .i64 hi, .int .i64 c]).run Try.prog w = .ok (.int .i64 hi2) w := fun w ats ty => by rw [run_max_int2, hhi2]
      clear hlo2 hhi2
      go_wp2_with fail
      refine (HMj.out _).mono ?_
      rintro e w2 ⟨ra, rc, rfl, hc1, hc2, hb2⟩
      have B2 : Hid (Below w.heap.size w w2) := HB.out.trans (hb2.mono HB.out.size)
      unfold maxLen at hc2
      clear hb2
      go_wp2_with fail
      go_roundw
      case rel => exact ⟨j + 1, lo2, hi2, by omega, by go_num, by rw [HSj.out]; go_num, rfl, rfl, a0, a1, a2, B2.out⟩
      case measure => simp [intOf]; omega
    · obtain rfl : j = K := by omega
      have HSK := HS.out
      rw [HSK]
      have hz : ((N : Int) == (N : Int)) = true := by simp
      clear HM HSS HSL HC HCN HSK
      go_wp2_with fail
      go_ret
      exact ⟨ret_bool (by simp; omega), HB.out⟩

set_option maxHeartbeats 400000 in
set_option maxRecDepth 100000 in
theorem lifted (os : Os) (started : os.Started) (H : Type) (enc : TypeId × Value → H) :
    ReturnsInHanded {} Try.checked os 7 .any (Rows.ownerEvenSpec.pre6 enc Try.prog Try.f7 Rows.ownerEvenRow.domain false) (Rows.ownerEvenSpec.post enc Try.prog Try.f7 false true false false) := by
  refine returnsInHanded_of_change_sized (C := Try.checked) own started (by kernel_rfl) Try.func7
    (ChangeSpec.witness6 (enc := enc) (C := Try.checked) false ⟨#[], #[.int .i64 0, .int .i64 0], []⟩ 8 (by kernel_rfl) (by kernel_rfl) (by kernel_rfl) (by kernel_rfl)) ?_
  intro W base args ds gs before hval0 hW _ hsz0 _
  have hval : ∀ (j : Nat) t v, Try.f7.params[j]? = some t → args[j]? = some v → Value.okWide Try.prog W .any base t v := hval0
  have hW' := hW
  obtain ⟨p, q, hA0, hV, rfl, hfz, hnd⟩ := hW
  have hA : DataW.TrodAll enc Try.prog W 0 (fun _ => true) true Try.f7.params.toList args.toList ds p := hA0
  have hsz : (DataW.weightsEach Try.prog (Try.f7.params.toList ++ Rows.ownerEvenSpec.plain.varTypes Try.prog) (ds ++ gs)).all (fun x => decide (x ≤ reachBytes)) = true := hsz0
  rw [Try.params7] at hA hval hsz
  obtain ⟨v0, vs0, d0, ds0, p0, q0, hargs, rfl, rfl, h0, r0⟩ := trodAll_cons hA
  obtain ⟨v1, vs1, d1, ds1, p1, q1, rfl, rfl, rfl, h1, r1⟩ := trodAll_cons r0
  obtain ⟨rfl, rfl, rfl⟩ := trodAll_nil r1
  obtain rfl : args = #[v0, v1] := by cases args; simp_all
  obtain ⟨rfl, rfl⟩ := trodVars_none hV
  have k0 := h0
  have lt0 : ∀ x ∈ p0, x.block < W.heap.size := by obtain ⟨m, hm⟩ := k0; exact DataW.trod_lt m _ _ _ hm
  have k1 := h1
  have lt1 : ∀ x ∈ p1, x.block < W.heap.size := by obtain ⟨m, hm⟩ := k1; exact DataW.trod_lt m _ _ _ hm
  obtain ⟨n0, rfl, _, _, wf0⟩ := open_int Try.underlying3 (hval 0 3 v0 rfl rfl) h0
  have hI0 := bounds_i64 wf0
  obtain ⟨n1, rfl, _, _, wf1⟩ := open_int Try.underlying3 (hval 1 3 v1 rfl rfl) h1
  have hI1 := bounds_i64 wf1
  clear hA0 hval0
  refine (walk n0 n1 W hI0 hI1).mono fun e W' ⟨he, bel⟩ => ?_
  subst he
  exact ⟨_, rfl, _, _, _, [], _, [], hW', trodAll_mk1 (shut_bool Try.underlying4 _), (trodAll_cons_mk (Below.trod laidOut (by kernel_rfl) (of_decide_eq_true (by kernel_rfl)) k0 bel lt0) (trodAll_cons_mk (Below.trod laidOut (by kernel_rfl) (of_decide_eq_true (by kernel_rfl)) k1 bel lt1) trodAll_mk0)), rfl, bel.frame _, fun h => by cases h⟩

theorem over : Rows.ownerEvenRow.holds Try.pinned (OpenSpec.ofChange Rows.ownerEvenSpec) :=
  OpenClaim.holds_of_wide 7 Try.f7 rfl rfl rfl rfl rfl rfl rfl ⟨rfl, rfl, rfl, rfl, rfl⟩ rfl rfl rfl rfl rfl (by kernel_rfl) Try.func7 (by kernel_rfl)
    (of_decide_eq_true (by kernel_rfl)) (by unfold Func.isWrapper; first | (rw [if_pos (by decide +kernel)]; kernel_rfl) | (rw [if_neg (by decide +kernel)]; exact ⟨rfl, rfl⟩))
    (fun os started H enc _ => lifted os started H enc)

/-- The statement. -/
theorem proved : Rows.OwnerEvenSaid := over
#print axioms proved
end Go.Proofs.Ytpibgogfnphceaa.ownerEven
