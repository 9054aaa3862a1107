/-
  For every list of raw numbers and every list of cuts: mail that is put in order in pieces, and merged by merge.Lists, is the same as what is put in order at once (the law MergeSplits returns true, and its arguments read as before); no condition.
-/
import Derived.Test.YtkddfjichkelnaaSplitMath
import Derived.Test.YtkddfjichkelnaaKeepTimes
import Derived.WalkKit
import Derived.ProofKit
import Derived.OpenShut
import Derived.ShutString
import Derived.SizedLaws
import Derived.ChangeOld
import Derived.Below
namespace Go.Proofs.Ytkddfjichkelnaa.mergeSplits
set_option maxRecDepth 100000
open Go.ChangeShapes Go.WideShapes Go.ChangeAt Go.RowKit

theorem own : ownKnob Try.prog.godebug = none := by kernel_rfl
theorem laidOut : laidOutB Try.prog = true := by kernel_rfl

set_option maxHeartbeats 4000000 in
set_option maxRecDepth 100000 in
theorem walk (v0 : Value) (es0 : List Ml) (v1 : Value) (ns1 : List Int) (w : World) (hR0 : MlR w v0 es0) (hB0 : ∀ x ∈ es0, mlB x) (hL0 : es0.length * 16 ≤ 140737488351232) (hR1 : InR w v1 ns1) (hB1 : ∀ x ∈ ns1, i64B x) (hL1 : ns1.length * 8 ≤ 140737488351232) :
    Calls Try.prog 7 #[v0, v1] w fun e w' => e = .returned (.bool true) ∧ Below w.heap.size w w' := by
  have _u := hR0
  clear _u
  have _u := hB0
  clear _u
  have _u := hL0
  clear _u
  have _u := hR1
  clear _u
  have _u := hB1
  clear _u
  have _u := hL1
  clear _u
  have HR : Hid (MlR w v0 es0) := hR0
  have HPB : Hid (∀ x ∈ es0, mlB x) := hB0
  have HI : Hid (InR w v1 ns1) := hR1
  have HIB : Hid (∀ x ∈ ns1, i64B x) := hB1
  obtain ⟨a, cap, rfl⟩ := hR0.shape
  obtain ⟨ia, icap, rfl, hic, him, _, _⟩ := hR1
  unfold maxLen at him
  clear hR0 hB0 hB1
  go_enter Try.func7, Try.ntmps7
  go_wp2_with fail
  refine (posts_any _ es0 _ HR.out HPB.out).mono ?_
  rintro e w1 ⟨c, rfl, ho1, hb1⟩
  have C1 : Hid (MlR w1 c (postL es0)) := MlR.ownd ho1
  have B1 : Hid (Below w.heap.size w w1) := hb1
  have hl40 := postL_len es0
  obtain ⟨ca, cc, rfl⟩ := C1.out.shape
  have hs1 := hb1.size
  clear ho1 hb1
  generalize postL es0 = l at *
  go_wp2_with fail
  refine (sortedK_any _ l _ C1.out (by omega)).mono ?_
  rintro e w2 ⟨sa, sc, rfl, ho2, hb2⟩
  have S2 : Hid (MlR w2 (.slice sa (sortM l).length sc) (sortM l)) := MlR.ownd ho2
  have C2 : Hid (MlR w2 (.slice ca l.length cc) l) := C1.out.below hb2 (Nat.le_refl _)
  have B2 : Hid (Below w.heap.size w w2) := B1.out.trans (hb2.mono hs1)
  have hcc : l.length ≤ cc ∧ cc ≤ maxLen := by
    obtain ⟨_, _, e, h1, h2, _⟩ := C2.out
    injection e with _ _ e
    rw [e]; exact ⟨h1, h2⟩
  unfold maxLen at hcc
  have hcc1 := hcc.1
  have hcc2 := hcc.2
  have hslen : (sortM l).length ≤ 40 := by rw [sortM_len]; exact hl40
  have HSL : Hid ((sortM l).length = l.length) := sortM_len l
  have hs2 := B2.out.size
  have HI2 : Hid (InR w2 (.slice ia ns1.length icap) ns1) := HI.out.below B2.out (Nat.le_refl _)
  clear ho2 hb2 C1 B1 hcc
  generalize hS : sortM l = s at *
  have HSE : Hid (sortM l = s) := hS
  clear hS
  go_wp2_with fail
  go_loopw [7, 8, 9, 10] (fun ok u at_ i wr => ∃ (k A : Nat) (ps : List (List Ml)), ok = .bool true ∧ at_ = .int .i64 A ∧ i = .int .i64 k ∧ k ≤ 6 ∧ k ≤ ns1.length ∧ A ≤ l.length ∧ ps.length ≤ k ∧ OwnLm wr w2.heap.size u ps ∧ Pcs l A ps ∧ Below w2.heap.size w2 wr) (fun _ _ _ i _ => ns1.length - (intOf i).toNat)
  case atStart => exact ⟨0, 0, [], rfl, rfl, rfl, by omega, by omega, by omega, Nat.le_refl _, OwnLm.nil _ _, Pcs.nil l, Below.refl _ _⟩
  case round =>
    obtain ⟨k, A, ps, rfl, rfl, rfl, hk6, hk, hA, hpl, hown, hpc, hbel⟩ := hrel
    have OW : Hid (OwnLm wr w2.heap.size u8 ps) := hown
    have HP : Hid (Pcs l A ps) := hpc
    have HB : Hid (Below w2.heap.size w2 wr) := hbel
    have hsr := hbel.size
    have CR : Hid (MlR wr (.slice ca l.length cc) l) := C2.out.below hbel (Nat.le_refl _)
    clear hown hpc hbel
    by_cases hlt : k < ns1.length ∧ k < 6
    · obtain ⟨hlt1, hlt2⟩ := hlt
      obtain ⟨b, off, cap', e1, _, _, lb, hv⟩ := InR.at (HI2.out.below HB.out (Nat.le_refl _)) (by omega)
      injection e1 with e1 _ e3
      subst e1 e3
      obtain ⟨x, hx⟩ := getX hlt1
      have c1 := hv k x hx
      obtain ⟨x0, x1⟩ := HIB.out x (List.mem_of_getElem? hx)
      have hpb := pickF_bd x ((l.length : Int) - A + 1) (by omega)
      obtain ⟨T, hT1, hT2⟩ : ∃ T : Nat, (A : Int) + pickF x ((l.length : Int) - A + 1) ≤ T ∧ (T : Int) ≤ (A : Int) + pickF x ((l.length : Int) - A + 1) := ⟨(A + pickF x ((l.length : Int) - A + 1)).toNat, by omega, by omega⟩
      have HPK : Hid (∀ X, Calls Try.prog 22 #[.int .i64 x, .int .i64 ((l.length : Int) - A + 1)] X fun e w' => e = .returned (.int .i64 (pickF x ((l.length : Int) - A + 1))) ∧ w' = X) := fun X => picked_any _ _ X x0 x1 (by omega) (by omega)
      have a1 : IntKind.i64.wrap ((l.length : Int) - A) = (l.length : Int) - A := wrap_id64 (by omega) (by omega)
      have a2 : IntKind.i64.wrap ((l.length : Int) - A + 1) = (l.length : Int) - A + 1 := wrap_id64 (by omega) (by omega)
      have a3 : IntKind.i64.wrap ((A : Int) + pickF x ((l.length : Int) - A + 1)) = (T : Int) := by rw [wrap_id64 (by omega) (by omega)]; omega
      have hAT : A ≤ T := by omega
      have hTl : T ≤ l.length := by omega
      generalize pickF x ((l.length : Int) - A + 1) = p at *
      have rc := run_cutP ca l.length cc A T hAT (by omega)
      have HRD : Hid (MlR wr (cutP ca A T T) ((l.drop A).take (T - A))) := reads_cutP CR.out hAT hTl (Nat.le_refl _) (by omega)
      have HST : Hid (∀ X, MlR X (cutP ca A T T) ((l.drop A).take (T - A)) → Calls Try.prog 20 #[cutP ca A T T] X fun e w' => ∃ a c, e = .returned (.tuple #[.slice a (sortM ((l.drop A).take (T - A))).length c, .bool true]) ∧ w'.ownsRow X.heap.size 40 2 (.slice a (sortM ((l.drop A).take (T - A))).length c) (sortM ((l.drop A).take (T - A))).length ((sortM ((l.drop A).take (T - A))).flatMap encM) ∧ Below X.heap.size X w') := fun X hX => sortedK_any _ _ X hX (by rw [List.length_take, List.length_drop]; omega)
      have HNX : Hid (Pcs l T (ps ++ [sortM ((l.drop A).take (T - A))])) := HP.out.next hAT
      have p0 : (0 : Int) ≤ (k : Int) := by omega
      have p1 : (k : Int) < (ns1.length : Int) := by omega
      have p2 : (k : Int) < 6 := by omega
      clear hv hx hpb hT1 hT2
      generalize (l.drop A).take (T - A) = q at *
      generalize sortM q = sq at *
      generalize cutP ca A T T = cv at *
      go_wp2_with fail
      refine (HPK.out _).mono ?_
      rintro e w3 ⟨rfl, rfl⟩
      clear HPK
      go_wp2_with fail
      refine (HST.out _ HRD.out).mono ?_
      rintro e w4 ⟨pa, pc, rfl, ho4, hb4⟩
      have O4 : Hid (w4.ownsRow w2.heap.size 40 2 (.slice pa sq.length pc) sq.length (sq.flatMap encM)) := own_lower ho4 hsr
      have L4 : Hid (OwnLm w4 w2.heap.size u8 ps) := OW.out.kept (Kept.of (S := fun _ => False) hb4) (fun _ _ h => h)
      have B4 : Hid (Below w2.heap.size w2 w4) := HB.out.trans (hb4.mono hsr)
      have hs4 := B4.out.size
      clear ho4 hb4 HST HRD
      go_wp2_with (at_builtin; refine wpList_append_lm rfl _ _ rfl w2.heap.size _ ps rfl (L4.out.kept (Kept.of (S := fun _ => False) (below_alloc w4 _)) (fun _ _ h => h)) w4.heap.size (.slice pa sq.length pc) sq rfl (0, 0) (heap_alloc_new _ _) (O4.out.alloc _) ?d1 ?d2 ?_)
      case d1 => omega
      case d2 => simp; omega
      intro g gc w5 hown5 hg5 _
      have O5 : Hid (OwnLm w5 w2.heap.size (.slice (some ⟨g, 0, none⟩) (ps.length + 1) gc) (ps ++ [sq])) := hown5
      have B5 : Hid (Below w2.heap.size w2 w5) := ((B4.out.alloc hs4 _)).grown hg5 (by simp; omega) (fun j hj => by
        obtain ⟨vs, hrow⟩ := L4.out.row
        exact (own_geM hrow hj).1)
      have hl5 : (ps ++ [sq]).length ≤ k + 1 := by simp; omega
      clear hown5 hg5
      generalize ps ++ [sq] = ps2 at *
      go_wp2_with fail
      go_roundw
      case rel => exact ⟨k + 1, T, ps2, rfl, rfl, by go_num, by omega, by omega, hTl, hl5, O5.out, HNX.out, B5.out⟩
      case measure => simp [intOf]; omega
    · have rc := run_cutF ca l.length cc A hA
      have HRD : Hid (MlR wr (cutP ca A l.length cc) ((l.drop A).take (l.length - A))) := reads_cutP CR.out hA (Nat.le_refl _) hcc1 (Nat.le_refl _)
      have HST : Hid (∀ X, MlR X (cutP ca A l.length cc) ((l.drop A).take (l.length - A)) → Calls Try.prog 20 #[cutP ca A l.length cc] X fun e w' => ∃ a c, e = .returned (.tuple #[.slice a (sortM ((l.drop A).take (l.length - A))).length c, .bool true]) ∧ w'.ownsRow X.heap.size 40 2 (.slice a (sortM ((l.drop A).take (l.length - A))).length c) (sortM ((l.drop A).take (l.length - A))).length ((sortM ((l.drop A).take (l.length - A))).flatMap encM) ∧ Below X.heap.size X w') := fun X hX => sortedK_any _ _ X hX (by rw [List.length_take, List.length_drop]; omega)
      have HNX : Hid (Pcs l l.length (ps ++ [sortM ((l.drop A).take (l.length - A))])) := HP.out.next hA
      generalize (l.drop A).take (l.length - A) = q at *
      generalize sortM q = sq at *
      generalize cutP ca A l.length cc = cv at *
      have HLM : Hid (∀ X v, LmR X v (ps ++ [sq]) → Calls Try.prog 14 #[v] X (RefP X 0 s)) := fun X v hX => by
        obtain ⟨h1, h2⟩ := HNX.out.all (by omega) (by simp; omega)
        have := lists_merge v (ps ++ [sq]) X hX (HNX.out.small (by omega))
        rwa [h1, h2, HSE.out] at this
      have hgo : (k : Int) < (ns1.length : Int) → ¬ (k : Int) < 6 := fun h1 h2 => hlt ⟨by omega, by omega⟩
      by_cases hk1 : (k : Int) < (ns1.length : Int)
      · have hk2 := hgo hk1
        clear hgo hlt
        go_wp2_with fail
        refine (HST.out _ HRD.out).mono ?_
        rintro e w4 ⟨pa, pc, rfl, ho4, hb4⟩
        have O4 : Hid (w4.ownsRow w2.heap.size 40 2 (.slice pa sq.length pc) sq.length (sq.flatMap encM)) := own_lower ho4 hsr
        have L4 : Hid (OwnLm w4 w2.heap.size u8 ps) := OW.out.kept (Kept.of (S := fun _ => False) hb4) (fun _ _ h => h)
        have B4 : Hid (Below w2.heap.size w2 w4) := HB.out.trans (hb4.mono hsr)
        have hs4 := B4.out.size
        clear ho4 hb4 HST HRD
        go_wp2_with (at_builtin; refine wpList_append_lm rfl _ _ rfl w2.heap.size _ ps rfl (L4.out.kept (Kept.of (S := fun _ => False) (below_alloc w4 _)) (fun _ _ h => h)) w4.heap.size (.slice pa sq.length pc) sq rfl (0, 0) (heap_alloc_new _ _) (O4.out.alloc _) ?d1 ?d2 ?_)
        case d1 => omega
        case d2 => simp; omega
        intro g gc w5 hown5 hg5 _
        have R5 : Hid (LmR w5 (.slice (some ⟨g, 0, none⟩) (ps.length + 1) gc) (ps ++ [sq])) := OwnLm.reads hown5
        have B5 : Hid (Below w2.heap.size w2 w5) := ((B4.out.alloc hs4 _)).grown hg5 (by simp; omega) (fun j hj => by
          obtain ⟨vs, hrow⟩ := L4.out.row
          exact (own_geM hrow hj).1)
        have hs5 := B5.out.size
        clear hown5 hg5
        go_wp2_with fail
        refine (HLM.out _ _ R5.out).mono ?_
        rintro e w6 h6
        obtain ⟨ga, gn, gcc, rfl, hr6, _, hb6⟩ := h6.reads
        rw [okL_yes] at hr6
        have G6 : Hid (MlR w6 (.slice ga gn gcc) s) := hr6
        have B6 : Hid (Below w2.heap.size w2 w6) := B5.out.trans (hb6.mono hs5)
        have S6 : Hid (MlR w6 (.slice sa s.length sc) s) := S2.out.below B6.out (Nat.le_refl _)
        have hs6 := B6.out.size
        have z0 : ((s.length : Int) == (l.length : Int)) = true := by rw [HSL.out]; simp
        clear h6 hr6 hb6 HLM
        go_wp2_with fail
        refine (sameMailK_yes _ _ s _ G6.out S6.out).mono ?_
        rintro e w7 ⟨rfl, hb7⟩
        have B7 : Hid (Below w.heap.size w w7) := B2.out.trans ((B6.out.trans (hb7.mono hs6)).mono hs2)
        clear hb7
        go_wp2_with fail
        go_ret
        exact ⟨ret_bool (by simp), B7.out⟩
      · clear hgo hlt
        go_wp2_with fail
        refine (HST.out _ HRD.out).mono ?_
        rintro e w4 ⟨pa, pc, rfl, ho4, hb4⟩
        have O4 : Hid (w4.ownsRow w2.heap.size 40 2 (.slice pa sq.length pc) sq.length (sq.flatMap encM)) := own_lower ho4 hsr
        have L4 : Hid (OwnLm w4 w2.heap.size u8 ps) := OW.out.kept (Kept.of (S := fun _ => False) hb4) (fun _ _ h => h)
        have B4 : Hid (Below w2.heap.size w2 w4) := HB.out.trans (hb4.mono hsr)
        have hs4 := B4.out.size
        clear ho4 hb4 HST HRD
        go_wp2_with (at_builtin; refine wpList_append_lm rfl _ _ rfl w2.heap.size _ ps rfl (L4.out.kept (Kept.of (S := fun _ => False) (below_alloc w4 _)) (fun _ _ h => h)) w4.heap.size (.slice pa sq.length pc) sq rfl (0, 0) (heap_alloc_new _ _) (O4.out.alloc _) ?d1 ?d2 ?_)
        case d1 => omega
        case d2 => simp; omega
        intro g gc w5 hown5 hg5 _
        have R5 : Hid (LmR w5 (.slice (some ⟨g, 0, none⟩) (ps.length + 1) gc) (ps ++ [sq])) := OwnLm.reads hown5
        have B5 : Hid (Below w2.heap.size w2 w5) := ((B4.out.alloc hs4 _)).grown hg5 (by simp; omega) (fun j hj => by
          obtain ⟨vs, hrow⟩ := L4.out.row
          exact (own_geM hrow hj).1)
        have hs5 := B5.out.size
        clear hown5 hg5
        go_wp2_with fail
        refine (HLM.out _ _ R5.out).mono ?_
        rintro e w6 h6
        obtain ⟨ga, gn, gcc, rfl, hr6, _, hb6⟩ := h6.reads
        rw [okL_yes] at hr6
        have G6 : Hid (MlR w6 (.slice ga gn gcc) s) := hr6
        have B6 : Hid (Below w2.heap.size w2 w6) := B5.out.trans (hb6.mono hs5)
        have S6 : Hid (MlR w6 (.slice sa s.length sc) s) := S2.out.below B6.out (Nat.le_refl _)
        have hs6 := B6.out.size
        have z0 : ((s.length : Int) == (l.length : Int)) = true := by rw [HSL.out]; simp
        clear h6 hr6 hb6 HLM
        go_wp2_with fail
        refine (sameMailK_yes _ _ s _ G6.out S6.out).mono ?_
        rintro e w7 ⟨rfl, hb7⟩
        have B7 : Hid (Below w.heap.size w w7) := B2.out.trans ((B6.out.trans (hb7.mono hs6)).mono hs2)
        clear hb7
        go_wp2_with fail
        go_ret
        exact ⟨ret_bool (by simp), B7.out⟩

set_option maxHeartbeats 400000 in
set_option maxRecDepth 100000 in
theorem lifted (os : Os) (started : os.Started) (H : Type) (enc : TypeId × Value → H) :
    ReturnsInHanded {} Try.checked os 7 .any (Rows.mergeSplitsSpec.pre6 enc Try.prog Try.f7 Rows.mergeSplitsRow.domain false) (Rows.mergeSplitsSpec.post enc Try.prog Try.f7 false true false false) := by
  refine returnsInHanded_of_change_sized (C := Try.checked) own started (by kernel_rfl) Try.func7
    (ChangeSpec.witness6 (enc := enc) (C := Try.checked) false ⟨#[], #[.slice none 0 0, .slice none 0 0], []⟩ 8 (by kernel_rfl) (by kernel_rfl) (by kernel_rfl) (by kernel_rfl)) ?_
  intro W base args ds gs before hval0 hW _ hsz0 _
  have hval : ∀ (j : Nat) t v, Try.f7.params[j]? = some t → args[j]? = some v → Value.okWide Try.prog W .any base t v := hval0
  have hW' := hW
  obtain ⟨p, q, hA0, hV, rfl, hfz, hnd⟩ := hW
  have hA : DataW.TrodAll enc Try.prog W 0 (fun _ => true) true Try.f7.params.toList args.toList ds p := hA0
  have hsz : (DataW.weightsEach Try.prog (Try.f7.params.toList ++ Rows.mergeSplitsSpec.plain.varTypes Try.prog) (ds ++ gs)).all (fun x => decide (x ≤ reachBytes)) = true := hsz0
  rw [Try.params7] at hA hval hsz
  obtain ⟨v0, vs0, d0, ds0, p0, q0, hargs, rfl, rfl, h0, r0⟩ := trodAll_cons hA
  obtain ⟨v1, vs1, d1, ds1, p1, q1, rfl, rfl, rfl, h1, r1⟩ := trodAll_cons r0
  obtain ⟨rfl, rfl, rfl⟩ := trodAll_nil r1
  obtain rfl : args = #[v0, v1] := by cases args; simp_all
  obtain ⟨rfl, rfl⟩ := trodVars_none hV
  have k0 := h0
  have lt0 : ∀ x ∈ p0, x.block < W.heap.size := by obtain ⟨m, hm⟩ := k0; exact DataW.trod_lt m _ _ _ hm
  have hw0 : ∀ m ∈ d0.weights Try.prog 34, m ≤ reachBytes := fun m hm => by simpa using List.all_eq_true.1 hsz _ (DataW.weights_mem_each (j := 0) (t := 34) rfl rfl m hm)
  have k1 := h1
  have lt1 : ∀ x ∈ p1, x.block < W.heap.size := by obtain ⟨m, hm⟩ := k1; exact DataW.trod_lt m _ _ _ hm
  have hw1 : ∀ m ∈ d1.weights Try.prog 42, m ≤ reachBytes := fun m hm => by simpa using List.all_eq_true.1 hsz _ (DataW.weights_mem_each (j := 1) (t := 42) rfl rfl m hm)
  obtain ⟨es0, hR0, hB0, hL0⟩ := open_posts (okWide_slice Try.underlying34 (hval 0 34 v0 rfl rfl)) h0 hw0
  obtain ⟨ns1, hR1, hB1, hL1⟩ := open_intsR (okWide_slice Try.underlying42 (hval 1 42 v1 rfl rfl)) h1 hw1
  clear hA0 hval0
  refine (walk v0 es0 v1 ns1 W hR0 hB0 hL0 hR1 hB1 hL1).mono fun e W' ⟨he, bel⟩ => ?_
  subst he
  exact ⟨_, rfl, _, _, _, [], _, [], hW', trodAll_mk1 (shut_bool Try.underlying4 _), (trodAll_cons_mk (Below.trod laidOut (by kernel_rfl) (of_decide_eq_true (by kernel_rfl)) k0 bel lt0) (trodAll_cons_mk (Below.trod laidOut (by kernel_rfl) (of_decide_eq_true (by kernel_rfl)) k1 bel lt1) trodAll_mk0)), rfl, bel.frame _, fun h => by cases h⟩

theorem over : Rows.mergeSplitsRow.holds Try.pinned (OpenSpec.ofChange Rows.mergeSplitsSpec) :=
  OpenClaim.holds_of_wide 7 Try.f7 rfl rfl rfl rfl rfl rfl rfl ⟨rfl, rfl, rfl, rfl, rfl⟩ rfl rfl rfl rfl rfl (by kernel_rfl) Try.func7 (by kernel_rfl)
    (of_decide_eq_true (by kernel_rfl)) (by unfold Func.isWrapper; first | (rw [if_pos (by decide +kernel)]; kernel_rfl) | (rw [if_neg (by decide +kernel)]; exact ⟨rfl, rfl⟩))
    (fun os started H enc _ => lifted os started H enc)

/-- The statement. -/
theorem proved : Rows.MergeSplitsSaid := over
#print axioms proved
end Go.Proofs.Ytkddfjichkelnaa.mergeSplits
