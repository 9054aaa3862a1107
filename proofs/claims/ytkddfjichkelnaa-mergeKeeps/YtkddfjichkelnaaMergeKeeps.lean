/-
  For every list of raw numbers: put in order by merge.Sort it is the same mail, each piece as often, and in order (the law MergeKeeps returns true, and its argument reads as before); no condition.
-/
import Derived.Test.YtkddfjichkelnaaKeepMail
import Derived.Test.YtkddfjichkelnaaKeepTimes
import Derived.WalkKit
import Derived.ProofKit
import Derived.OpenShut
import Derived.ShutString
import Derived.SizedLaws
import Derived.ChangeOld
import Derived.Below
import Derived.Deep.QuietTactic
import Derived.BigQuiet
import Derived.Lib.QuietBelow
namespace Go.Proofs.Ytkddfjichkelnaa.mergeKeeps
set_option maxRecDepth 100000
open Go.ChangeShapes Go.WideShapes Go.ChangeAt Go.RowKit

theorem own : ownKnob Try.prog.godebug = none := by kernel_rfl
theorem laidOut : laidOutB Try.prog = true := by kernel_rfl
open Go.Sort
theorem lt_no {x y : Ml} (h : leM x y = true) : ¬ y.1 < x.1 ∧ (y.1 = x.1 → ¬ y.2 < x.2) := by
  rw [leM_iff] at h
  unfold ltM at h
  omega
set_option maxHeartbeats 1000000 in
set_option maxRecDepth 100000 in
theorem walk (v0 : Value) (es0 : List Ml) (w : World) (hR0 : MlR w v0 es0) (hB0 : ∀ x ∈ es0, mlB x) (hL0 : es0.length * 16 ≤ 140737488351232) :
    Calls Try.prog 6 #[v0] w fun e w' => e = .returned (.bool true) ∧ Below w.heap.size w w' := by
  have _u := hR0
  clear _u
  have _u := hB0
  clear _u
  have _u := hL0
  clear _u
  have HR : Hid (MlR w v0 es0) := hR0
  have HPB : Hid (∀ x ∈ es0, mlB x) := hB0
  obtain ⟨a, cap, rfl⟩ := hR0.shape
  clear hR0 hB0
  go_enter Try.func6, Try.ntmps6
  go_wp2_with fail
  refine (posts_any _ es0 _ HR.out HPB.out).mono ?_
  rintro e w1 ⟨c, rfl, ho1, hb1⟩
  have C1 : Hid (MlR w1 c (postL es0)) := MlR.ownd ho1
  have B1 : Hid (Below w.heap.size w w1) := hb1
  have hl40 := postL_len es0
  obtain ⟨ca, cc, rfl⟩ := C1.out.shape
  have hs1 := hb1.size
  clear ho1 hb1
  generalize postL es0 = l at *
  go_wp2_with fail
  refine (sortedK_any _ l _ C1.out (by omega)).mono ?_
  rintro e w2 ⟨sa, sc, rfl, ho2, hb2⟩
  have S2 : Hid (MlR w2 (.slice sa (sortM l).length sc) (sortM l)) := MlR.ownd ho2
  have C2 : Hid (MlR w2 (.slice ca l.length cc) l) := C1.out.below hb2 (Nat.le_refl _)
  have B2 : Hid (Below w.heap.size w w2) := B1.out.trans (hb2.mono hs1)
  have HPM : Hid ((sortM l).Perm l) := sortM_perm l
  have HSS : Hid (InM (sortM l)) := sortM_sorted l
  have hlen : (sortM l).length = l.length := sortM_len l
  rw [hlen] at S2 ⊢
  have HLN : Hid ((sortM l).length = l.length) := hlen
  have hs2 := B2.out.size
  have z0 : ((l.length : Int) != (l.length : Int)) = false := by simp
  clear ho2 hb2 C1 B1 hlen
  generalize sortM l = s at *
  go_wp2_with fail
  go_loopw [6] (fun i wr => ∃ k : Nat, k ≤ l.length ∧ i = .int .i64 k ∧ Below w2.heap.size w2 wr) (fun i _ => l.length - (intOf i).toNat)
  case atStart => exact ⟨0, by omega, rfl, Below.refl _ _⟩
  case round =>
    obtain ⟨k, hk, rfl, hbel⟩ := hrel
    have HB : Hid (Below w2.heap.size w2 wr) := hbel
    have hsr := hbel.size
    clear hbel
    by_cases hlt : k < l.length
    · have CR : Hid (MlR wr (.slice ca l.length cc) l) := C2.out.below HB.out (Nat.le_refl _)
      have SR : Hid (MlR wr (.slice sa l.length sc) s) := S2.out.below HB.out (Nat.le_refl _)
      obtain ⟨b, off, cap', e1, _, _, lb, hv⟩ := MlR.at CR.out (by omega)
      injection e1 with e1 _ e3
      subst e1 e3
      obtain ⟨b2, off2, cap2, e1, _, _, lb2, hv2⟩ := MlR.at SR.out (by have := HLN.out; omega)
      injection e1 with e1 e9 e3
      subst e1 e3
      clear e9
      obtain ⟨x, hx⟩ := getX hlt
      obtain ⟨y, hy⟩ := getX (es := s) (i := k) (by have := HLN.out; omega)
      obtain ⟨c1, c2⟩ := hv k x hx
      obtain ⟨d1, d2⟩ := hv2 k y hy
      have g1 := cell_regrown c1
      have g2 := cell_regrown c2
      have HTT : timesM s x = timesM l x := timesM_perm HPM.out x
      have EE : ∀ v, (v = Value.slice (some ⟨b2, off2, none⟩) l.length sc ∨ v = Value.slice (some ⟨b, off, none⟩) l.length cc) → ∀ d os, Calls Try.prog 21 #[v, .agg #[.int .i64 x.1, .int .i64 x.2]] (grow (redrawn wr d) os) fun e w'' => e = .returned (.int .i64 (timesM l x : Nat)) ∧ ∃ p : Regrown, w'' = grow (redrawn wr p.d) p.os := fun v hv d os => by
        rcases hv with rfl | rfl
        · rw [← HTT]
          exact Calls.regrown_of (times_any _ s x _ (SR.out.below (below_regrown wr d os) (Nat.le_refl _)))
        · exact Calls.regrown_of (times_any _ l x _ (CR.out.below (below_regrown wr d os) (Nat.le_refl _)))
      have HD : Hid (∀ V, Below w2.heap.size w2 V → MlR V (.slice (some ⟨b2, off2, none⟩) l.length sc) s) := fun V hV => S2.out.below hV (Nat.le_refl _)
      clear HTT
      generalize timesM l x = t at *
      have z1 : (((t : Nat) : Int) != ((t : Nat) : Int)) = false := by simp
      have p0 : (0 : Int) ≤ (k : Int) := by omega
      have p1 : (k : Int) < (l.length : Int) := by omega
      have HYS : Hid (s[k]? = some y) := hy
      clear hv hv2 hx hy c1 c2 d1 d2
      go_wp2_with fail
      refine wp_region_quiet_below (by kernel_rfl) (by kernel_rfl) ?_
      repeat (quiet_step (exact EE _ (by first | exact Or.inl rfl | exact Or.inr rfl) _ _))
      refine wpQuiet_nil ?_
      intro _ hw'
      obtain ⟨⟨dq, osq⟩, hw''⟩ := hw'
      have HB9 : Hid (Below w2.heap.size w2 (grow (redrawn wr dq) osq)) := HB.out.trans ((below_regrown wr dq osq).mono hsr)
      subst hw''
      generalize grow (redrawn wr dq) osq = W9 at HB9 ⊢
      clear g1 g2 EE
      obtain ⟨b3, off3, cap3, e1, _, _, _, hv3⟩ := MlR.at (HD.out W9 HB9.out) (by have := HLN.out; omega)
      injection e1 with e1 e9 e3
      clear e9
      injection e1 with e1
      injection e1 with e1 e1'
      subst e1 e1' e3
      obtain ⟨d1, d2⟩ := hv3 k y HYS.out
      cases k with
      | zero =>
        have z2 : ¬ ((0 : Nat) : Int) > 0 := by simp
        clear hv3 d1 d2
        go_wp2_with fail
        go_quiet (fail)
        go_wp2_with fail
        go_roundw
        case rel => exact ⟨1, by omega, by go_num, below_drewN HB9.out _⟩
        case measure => simp [intOf]; omega
      | succ j =>
        obtain ⟨z, hz⟩ := getX (es := s) (i := j) (by have := HLN.out; omega)
        obtain ⟨f1, f2⟩ := hv3 j z hz
        have hzy : leM z y = true := (leM_iff _ _).2 (in_srtM HSS.out j z y hz HYS.out)
        obtain ⟨n1, n2⟩ := lt_no hzy
        have q0 : (0 : Int) ≤ (j : Int) := by omega
        have q1 : (j : Int) < (l.length : Int) := by omega
        have q2 : (0 : Int) ≤ (j : Int) + 1 := by omega
        have q3 : (j : Int) + 1 < (l.length : Int) := by omega
        have q4 : (j : Int) + 1 > 0 := by omega
        have q5 : IntKind.i64.wrap ((j : Int) + 1 - 1) = (j : Int) := by rw [Int.add_sub_cancel]; exact wrap_id64 (by omega) (by omega)
        have q8 : (j : Int) + 1 - 1 = (j : Int) := by omega
        have q9 : IntKind.i64.wrap (j : Int) = (j : Int) := wrap_id64 (by omega) (by omega)
        clear hv3 hz hzy
        by_cases hyz : y.1 = z.1
        · have n3 := n2 hyz
          have q6 : (y.1 == z.1) = true := by simpa using hyz
          clear n2 hyz
          go_wp2_with fail
          go_quiet (fail)
          go_wp2_with fail
          go_roundw
          case rel => exact ⟨j + 1 + 1, by omega, by go_num, below_drewN HB9.out _⟩
          case measure => simp [intOf]; omega
        · have q6 : (y.1 == z.1) = false := by simpa using hyz
          have n4 : decide (y.1 < z.1) = false := decide_eq_false n1
          clear n2 hyz n1
          go_wp2_with fail
          go_quiet (fail)
          go_wp2_with fail
          go_roundw
          case rel => exact ⟨j + 1 + 1, by omega, by go_num, below_drewN HB9.out _⟩
          case measure => simp [intOf]; omega
    · go_wp2_with fail
      go_ret
      exact ⟨rfl, B2.out.trans (HB.out.mono hs2)⟩

set_option maxHeartbeats 400000 in
set_option maxRecDepth 100000 in
theorem lifted (os : Os) (started : os.Started) (H : Type) (enc : TypeId × Value → H) :
    ReturnsInHanded {} Try.checked os 6 .any (Rows.mergeKeepsSpec.pre6 enc Try.prog Try.f6 Rows.mergeKeepsRow.domain false) (Rows.mergeKeepsSpec.post enc Try.prog Try.f6 false true false false) := by
  refine returnsInHanded_of_change_sized (C := Try.checked) own started (by kernel_rfl) Try.func6
    (ChangeSpec.witness6 (enc := enc) (C := Try.checked) false ⟨#[], #[.slice none 0 0], []⟩ 8 (by kernel_rfl) (by kernel_rfl) (by kernel_rfl) (by kernel_rfl)) ?_
  intro W base args ds gs before hval0 hW _ hsz0 _
  have hval : ∀ (j : Nat) t v, Try.f6.params[j]? = some t → args[j]? = some v → Value.okWide Try.prog W .any base t v := hval0
  have hW' := hW
  obtain ⟨p, q, hA0, hV, rfl, hfz, hnd⟩ := hW
  have hA : DataW.TrodAll enc Try.prog W 0 (fun _ => true) true Try.f6.params.toList args.toList ds p := hA0
  have hsz : (DataW.weightsEach Try.prog (Try.f6.params.toList ++ Rows.mergeKeepsSpec.plain.varTypes Try.prog) (ds ++ gs)).all (fun x => decide (x ≤ reachBytes)) = true := hsz0
  rw [Try.params6] at hA hval hsz
  obtain ⟨v0, vs0, d0, ds0, p0, q0, hargs, rfl, rfl, h0, r0⟩ := trodAll_cons hA
  obtain ⟨rfl, rfl, rfl⟩ := trodAll_nil r0
  obtain rfl : args = #[v0] := by cases args; simp_all
  obtain ⟨rfl, rfl⟩ := trodVars_none hV
  have k0 := h0
  have lt0 : ∀ x ∈ p0, x.block < W.heap.size := by obtain ⟨m, hm⟩ := k0; exact DataW.trod_lt m _ _ _ hm
  have hw0 : ∀ m ∈ d0.weights Try.prog 34, m ≤ reachBytes := fun m hm => by simpa using List.all_eq_true.1 hsz _ (DataW.weights_mem_each (j := 0) (t := 34) rfl rfl m hm)
  obtain ⟨es0, hR0, hB0, hL0⟩ := open_posts (okWide_slice Try.underlying34 (hval 0 34 v0 rfl rfl)) h0 hw0
  clear hA0 hval0
  refine (walk v0 es0 W hR0 hB0 hL0).mono fun e W' ⟨he, bel⟩ => ?_
  subst he
  exact ⟨_, rfl, _, _, _, [], _, [], hW', trodAll_mk1 (shut_bool Try.underlying4 _), (trodAll_cons_mk (Below.trod laidOut (by kernel_rfl) (of_decide_eq_true (by kernel_rfl)) k0 bel lt0) trodAll_mk0), rfl, bel.frame _, fun h => by cases h⟩

theorem over : Rows.mergeKeepsRow.holds Try.pinned (OpenSpec.ofChange Rows.mergeKeepsSpec) :=
  OpenClaim.holds_of_wide 6 Try.f6 rfl rfl rfl rfl rfl rfl rfl ⟨rfl, rfl, rfl, rfl, rfl⟩ rfl rfl rfl rfl rfl (by kernel_rfl) Try.func6 (by kernel_rfl)
    (of_decide_eq_true (by kernel_rfl)) (by unfold Func.isWrapper; first | (rw [if_pos (by decide +kernel)]; kernel_rfl) | (rw [if_neg (by decide +kernel)]; exact ⟨rfl, rfl⟩))
    (fun os started H enc _ => lifted os started H enc)

/-- The statement. -/
theorem proved : Rows.MergeKeepsSaid := over
#print axioms proved
end Go.Proofs.Ytkddfjichkelnaa.mergeKeeps
