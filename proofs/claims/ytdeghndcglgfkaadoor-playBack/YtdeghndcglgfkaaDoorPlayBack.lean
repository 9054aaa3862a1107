/-
  For all trips and every number: the moves that pacelinekeep's MoveOf makes of them are shown by play.Show, and play.Read reads the same moves out of the text (the law PlayBack returns true, and its arguments read as before). The package variables that the row lists read as their initialisers lay them, which the card ties to the text; no other condition.
-/
import Derived.Test.YtdeghndcglgfkaaDoorPlayRdoor
import Derived.Test.YtdeghndcglgfkaaDoorPlayRead
import Derived.Test.YtdeghndcglgfkaaDoorPlayShow
import Derived.Test.YtdeghndcglgfkaaDoorPlayTrip
import Derived.Test.YtdeghndcglgfkaaDoorTie
import Derived.Test.YtdeghndcglgfkaaDoorCards
import Derived.WalkKit
import Derived.ProofKit
import Derived.OpenShut
import Derived.ShutString
import Derived.SizedLaws
import Derived.ChangeOld
import Derived.Below
import Derived.SevenTiedAt
namespace Go.Proofs.YtdeghndcglgfkaaDoor.playBack
set_option maxRecDepth 100000
open Go.ChangeShapes Go.WideShapes Go.ChangeAt Go.RowKit

theorem own : ownKnob Tryd.prog.godebug = none := by kernel_rfl
theorem laidOut : laidOutB Tryd.prog = true := by kernel_rfl
theorem mvs_show {l : List Mv} (h : ∀ m ∈ l, plE m = 0) (hl : l.length ≤ 100) : shwE l = 0 ∧ shwW l = l.flatMap plW ∧ ∀ (q : List Mv) (f : Int), RdS (l.flatMap plW) q f → q = l ∧ f = 0 := by
  have e1 : shwE l = 0 := by rw [shwE, if_neg (by omega)]; exact fir_all h
  refine ⟨e1, by rw [shwW, if_pos e1], fun q f hq => ?_⟩
  have h1 := plL_len l h
  have h2 : RdS (l.flatMap plW) l 0 := .inr ⟨by omega, .inl ⟨l, h, rfl, .inr ⟨by omega, rfl, rfl⟩⟩⟩
  exact hq.uniq h2
set_option maxHeartbeats 4000000 in
set_option maxRecDepth 100000 in
theorem walk (v0 : Value) (es0 : List Ml) (n1 : Int) (w : World) (hR0 : MlR w v0 es0) (hB0 : ∀ x ∈ es0, mlB x) (hL0 : es0.length * 16 ≤ 140737488351232) (hI1 : -9223372036854775808 ≤ n1 ∧ n1 ≤ 9223372036854775807) (hF : RedF w) :
    Calls Tryd.prog 5 #[v0, .int .i64 n1] w fun e w' => e = .returned (.bool true) ∧ Below w.heap.size w w' := by
  have _u := hR0
  clear _u
  have _u := hB0
  clear _u
  have _u := hL0
  clear _u
  have _u := hI1
  clear _u
  have HR : Hid (MlR w v0 es0) := hR0
  have HF : Hid (RedF w) := hF
  have HE : Hid (∀ x ∈ es0, mlB x) := hB0
  have HI : Hid (i64B n1) := hI1
  obtain ⟨a, cap, rfl, hcap, hmx, _, _⟩ := hR0
  unfold maxLen at hmx
  have HMV : Hid (∀ t : Ml, mlB t → ∀ X, Calls Tryd.prog 13 #[.agg #[.int .i64 t.1, .int .i64 t.2], .int .i64 n1] X fun e w' => e = .returned (.agg #[.int .i64 (mvT t n1).1, .int .i64 (mvT t n1).2.1, .int .i64 (mvT t n1).2.2]) ∧ Below X.heap.size X w') := fun t ht X => moveOfK_any t n1 ht HI.out X
  clear hB0 hF hI1
  go_enter Tryd.func5, Tryd.ntmps5
  go_wp2_with fail
  go_loopw [5, 6] (fun u i wr => ∃ k : Nat, k ≤ es0.length ∧ k ≤ 100 ∧ i = .int .i64 k ∧ wr.ownsRow w.heap.size 34 3 u ((es0.take k).map fun t => mvT t n1).length (((es0.take k).map fun t => mvT t n1).flatMap encE) ∧ Below w.heap.size w wr) (fun _ i _ => es0.length - (intOf i).toNat)
  case atStart => exact ⟨0, by omega, by omega, rfl, World.ownsRow_nil _ _ _ _, Below.refl _ _⟩
  case round =>
    obtain ⟨k, hk, hk100, rfl, hown, hbel⟩ := hrel
    have OW : Hid (wr.ownsRow w.heap.size 34 3 u5 ((es0.take k).map fun t => mvT t n1).length (((es0.take k).map fun t => mvT t n1).flatMap encE)) := hown
    have HB : Hid (Below w.heap.size w wr) := hbel
    have hsr := hbel.size
    obtain ⟨ua, uc, rfl⟩ := (RowK.own encE_len hown).shape
    have HLr : Hid (MlR wr (.slice a es0.length cap) es0) := HR.out.below hbel (Nat.le_refl _)
    clear hown hbel
    by_cases hgo : k < es0.length ∧ k < 100
    · obtain ⟨hlt, h100⟩ := hgo
      obtain ⟨b, off, cap', e1, _, _, lt, hv⟩ := MlR.at HLr.out (by omega)
      injection e1 with e1 _ e3
      subst e1 e3
      obtain ⟨x, hx⟩ : ∃ x, es0[k]? = some x := ⟨es0[k], List.getElem?_eq_getElem hlt⟩
      obtain ⟨c1, c2⟩ := hv k x hx
      have HMX := Lib.hid (HMV.out x (HE.out x (List.mem_of_getElem? hx)))
      have HN : Hid (((es0.take (k + 1)).map fun t => mvT t n1) = ((es0.take k).map fun t => mvT t n1) ++ [mvT x n1]) := by show _ = _; rw [take_snoc hx]; simp
      have hml : ((es0.take k).map fun t => mvT t n1).length ≤ 100 := by simp; omega
      obtain ⟨xk, xa⟩ := x
      simp only at c1 c2 HMX
      obtain ⟨m, hm⟩ : ∃ m, m = mvT (xk, xa) n1 := ⟨_, rfl⟩
      rw [← hm] at HN HMX
      clear hm hv hx
      generalize ((es0.take k).map fun t => mvT t n1) = ML at OW HN hml ⊢
      obtain ⟨mk, ma, mb⟩ := m
      simp only at HMX
      have p1 : (k : Int) < (es0.length : Int) := by omega
      have p2 : (k : Int) < 100 := by omega
      clear HMV
      go_wp2_with fail
      refine (HMX.out _).mono ?_
      rintro e w2 ⟨rfl, hb2⟩
      have O2 : Hid (w2.ownsRow w.heap.size 34 3 (.slice ua ML.length uc) ML.length (ML.flatMap encE)) := own_below OW.out hb2 (Nat.le_refl _)
      have HB2 : Hid (Below w.heap.size w w2) := HB.out.trans (hb2.mono hsr)
      have hs2 := HB2.out.size
      clear hb2 HMX c1 c2
      go_wp2_with (at_builtin; refine wpList_append_newK kMv rfl _ _ rfl w.heap.size _ ML rfl ((O2.out.alloc _).alloc _) _ (mk, ma, mb) rfl #[.int .i64 mk, .int .i64 ma, .int .i64 mb] rfl (0, 0) (heap_second _ _ _ _) (by simp [kMv]; omega) (by unfold maxLen; omega) (by simp; omega) ?_)
      intro g c w3 hown3 hb3 _
      have H3 : Hid (w3.ownsRow w.heap.size 34 3 (.slice (some ⟨g, 0, none⟩) (ML.length + 1) c) ((es0.take (k + 1)).map fun t => mvT t n1).length (((es0.take (k + 1)).map fun t => mvT t n1).flatMap encE) ∧ Below w.heap.size w w3) := by
        rw [HN.out]
        exact ⟨by simpa [kMv] using hown3, ((HB2.out.alloc hs2 _).alloc (by simp; omega) _).trans hb3⟩
      clear hown3 hb3
      go_wp2_with fail
      go_roundw
      case rel => exact ⟨k + 1, by omega, by omega, by go_num, H3.out⟩
      case measure => simp [intOf]; omega
    · have HOK : Hid (∀ m ∈ (es0.take k).map fun t => mvT t n1, plE m = 0) := by
        intro m hm
        obtain ⟨t, _, rfl⟩ := List.mem_map.1 hm
        exact mvT_ok t n1
      have hml : ((es0.take k).map fun t => mvT t n1).length ≤ 100 := by simp; omega
      have hgo2 : decide ((k : Int) < (es0.length : Int)) = true → decide ((k : Int) < 100) = false := by
        intro h
        have := of_decide_eq_true h
        simp; omega
      generalize ((es0.take k).map fun t => mvT t n1) = ML at OW HOK hml ⊢
      obtain ⟨e1, e2, e3⟩ := mvs_show HOK.out hml
      have HU : Hid (∀ (q : List Mv) (f : Int), RdS (ML.flatMap plW) q f → q = ML ∧ f = 0) := e3
      have GR : Hid (EdR wr (.slice ua ML.length uc) ML) := RowK.own encE_len OW.out
      have HSH := Lib.hid (show_any (.slice ua ML.length uc) ML wr GR.out ((HF.out.1.on HB.out).up hsr) ((HF.out.2.tb.on HB.out).up hsr))
      rw [e1, e2] at HSH
      have HRD : Hid (∀ X, FrmF X.heap.size X → VarF X.heap.size X → Calls Tryd.prog 11 #[.string ⟨(ML.flatMap plW).toArray⟩] X (RdP X (ML.flatMap plW))) := fun X h1 h2 => read_any ⟨(ML.flatMap plW).toArray⟩ X h1 h2
      generalize ML.flatMap plW = TX at HSH HRD HU
      clear e1 e2 e3 HOK HMV
      by_cases hkl : k < es0.length
      · have q1 : (k : Int) < (es0.length : Int) := by omega
        have q2 : ¬ (k : Int) < 100 := by omega
        clear hgo hgo2 hkl
        go_wp2_with fail
        refine HSH.out.mono ?_
        rintro e w2 ⟨rfl, hb2⟩
        have HB2 : Hid (Below w.heap.size w w2) := HB.out.trans (hb2.mono hsr)
        have hs2 := HB2.out.size
        have G2 : Hid (EdR w2 (.slice ua ML.length uc) ML) := GR.out.below hb2 (Nat.le_refl _)
        clear hb2 HSH
        go_wp2_with fail
        refine (HRD.out _ ((HF.out.1.on HB2.out).up hs2) ((HF.out.2.on HB2.out).up hs2)).mono ?_
        rintro e w3 ⟨v3, q, f, rfl, hrd, hown3, hb3⟩
        obtain ⟨rfl, rfl⟩ := HU.out q f hrd
        have HB3 : Hid (Below w.heap.size w w3) := HB2.out.trans (hb3.mono hs2)
        have G3 : Hid (EdR w3 (.slice ua q.length uc) q) := G2.out.below hb3 (Nat.le_refl _)
        have N3 : Hid (EdR w3 v3 q) := RowK.own encE_len hown3
        obtain ⟨na, nc, rfl, hnc, hnm, _, _⟩ := N3.out
        unfold maxLen at hnm
        have hll : ((q.length : Int) != (q.length : Int)) = false := by simp
        clear hb3 hown3 hrd HRD HU
        go_wp2_with fail
        go_loopw [12] (fun i wz => ∃ j : Nat, j ≤ q.length ∧ i = .int .i64 j ∧ Below w3.heap.size w3 wz) (fun i _ => q.length - (intOf i).toNat)
        case atStart => exact ⟨0, by omega, rfl, Below.refl _ _⟩
        case round =>
          obtain ⟨j, hj, rfl, hbz⟩ := hrel
          have HZ : Hid (Below w3.heap.size w3 wr) := hbz
          clear hbz
          by_cases hlt : j < q.length
          · obtain ⟨xa, oa, cap', e1, _, _, la, hva⟩ := EdR.at (N3.out.below HZ.out (Nat.le_refl _)) (by omega)
            injection e1 with e1 _ e3
            subst e1 e3
            obtain ⟨xb, ob, cap', e1, _, _, lb, hvb⟩ := EdR.at (G3.out.below HZ.out (Nat.le_refl _)) (by omega)
            injection e1 with e1 _ e3
            subst e1 e3
            obtain ⟨x, hx⟩ := getE hlt
            obtain ⟨c1, c2, c3⟩ := hva j x hx
            obtain ⟨d1, d2, d3⟩ := hvb j x hx
            obtain ⟨xf, xt, xc⟩ := x
            simp only at c1 c2 c3 d1 d2 d3
            have p0 : (0 : Int) ≤ (j : Int) := by omega
            have p1 : (j : Int) < (q.length : Int) := by omega
            clear hva hvb hx
            go_wp2_with fail
            go_quiet (fail)
            go_wp2_with fail
            go_roundw
            case rel => exact ⟨j + 1, by omega, by go_num, below_drewN HZ.out _⟩
            case measure => simp [intOf]; omega
          · go_wp2_with fail
            go_ret
            exact ⟨ret_bool (by simp), HB3.out.trans (HZ.out.mono HB3.out.size)⟩
      · have q1 : ¬ (k : Int) < (es0.length : Int) := by omega
        clear hgo hgo2 hkl
        go_wp2_with fail
        refine HSH.out.mono ?_
        rintro e w2 ⟨rfl, hb2⟩
        have HB2 : Hid (Below w.heap.size w w2) := HB.out.trans (hb2.mono hsr)
        have hs2 := HB2.out.size
        have G2 : Hid (EdR w2 (.slice ua ML.length uc) ML) := GR.out.below hb2 (Nat.le_refl _)
        clear hb2 HSH
        go_wp2_with fail
        refine (HRD.out _ ((HF.out.1.on HB2.out).up hs2) ((HF.out.2.on HB2.out).up hs2)).mono ?_
        rintro e w3 ⟨v3, q, f, rfl, hrd, hown3, hb3⟩
        obtain ⟨rfl, rfl⟩ := HU.out q f hrd
        have HB3 : Hid (Below w.heap.size w w3) := HB2.out.trans (hb3.mono hs2)
        have G3 : Hid (EdR w3 (.slice ua q.length uc) q) := G2.out.below hb3 (Nat.le_refl _)
        have N3 : Hid (EdR w3 v3 q) := RowK.own encE_len hown3
        obtain ⟨na, nc, rfl, hnc, hnm, _, _⟩ := N3.out
        unfold maxLen at hnm
        have hll : ((q.length : Int) != (q.length : Int)) = false := by simp
        clear hb3 hown3 hrd HRD HU
        go_wp2_with fail
        go_loopw [12] (fun i wz => ∃ j : Nat, j ≤ q.length ∧ i = .int .i64 j ∧ Below w3.heap.size w3 wz) (fun i _ => q.length - (intOf i).toNat)
        case atStart => exact ⟨0, by omega, rfl, Below.refl _ _⟩
        case round =>
          obtain ⟨j, hj, rfl, hbz⟩ := hrel
          have HZ : Hid (Below w3.heap.size w3 wr) := hbz
          clear hbz
          by_cases hlt : j < q.length
          · obtain ⟨xa, oa, cap', e1, _, _, la, hva⟩ := EdR.at (N3.out.below HZ.out (Nat.le_refl _)) (by omega)
            injection e1 with e1 _ e3
            subst e1 e3
            obtain ⟨xb, ob, cap', e1, _, _, lb, hvb⟩ := EdR.at (G3.out.below HZ.out (Nat.le_refl _)) (by omega)
            injection e1 with e1 _ e3
            subst e1 e3
            obtain ⟨x, hx⟩ := getE hlt
            obtain ⟨c1, c2, c3⟩ := hva j x hx
            obtain ⟨d1, d2, d3⟩ := hvb j x hx
            obtain ⟨xf, xt, xc⟩ := x
            simp only at c1 c2 c3 d1 d2 d3
            have p0 : (0 : Int) ≤ (j : Int) := by omega
            have p1 : (j : Int) < (q.length : Int) := by omega
            clear hva hvb hx
            go_wp2_with fail
            go_quiet (fail)
            go_wp2_with fail
            go_roundw
            case rel => exact ⟨j + 1, by omega, by go_num, below_drewN HZ.out _⟩
            case measure => simp [intOf]; omega
          · go_wp2_with fail
            go_ret
            exact ⟨ret_bool (by simp), HB3.out.trans (HZ.out.mono HB3.out.size)⟩

set_option maxHeartbeats 400000 in
set_option maxRecDepth 100000 in
theorem lifted (os : Os) (started : os.Started) (H : Type) (enc : TypeId × Value → H) :
    ReturnsInHanded {} Tryd.checked os 5 .any (fun w args => (Rows.playBackSpec.pre enc Tryd.prog Tryd.f5 Rows.playBackRow.domain false w args ∧ laidMetH Tryd.prog Rows.playBackRow.laid w) ∧ sizedMet enc Tryd.prog Tryd.f5 (OpenSpec.ofChange Rows.playBackSpec) false w args) (Rows.playBackSpec.post enc Tryd.prog Tryd.f5 false true false false) := by
  refine returns_laid (C := Tryd.checked) (X := fun w _ => laidMetH Tryd.prog Rows.playBackRow.laid w) (fun _ _ _ hh h => h.of_heap hh) own started (by kernel_rfl) Tryd.func5
    (ChangeSpec.witness_shaped (enc := enc) (C := Tryd.checked) (os := os) (X := fun w _ => laidMetH Tryd.prog Rows.playBackRow.laid w) false (World.doorLaid Tryd.prog 400 os) #[.slice none 0 0, .int .i64 0] 8 rfl (World.shaped_of_RefB (by kernel_rfl) (by kernel_rfl)) (by kernel_rfl) (by kernel_rfl) (by kernel_rfl) (playBack_met os _)) ?_
  intro W base args ds gs before hval0 hW _ hsz0 hsh hL _
  have hval : ∀ (j : Nat) t v, Tryd.f5.params[j]? = some t → args[j]? = some v → Value.okWide Tryd.prog W .any base t v := hval0
  have hW' := hW
  obtain ⟨p, q, hA0, hV, rfl, hfz, hnd⟩ := hW
  have hA : DataW.TrodAll enc Tryd.prog W 0 (fun _ => true) true Tryd.f5.params.toList args.toList ds p := hA0
  have hsz : (DataW.weightsEach Tryd.prog (Tryd.f5.params.toList ++ Rows.playBackSpec.plain.varTypes Tryd.prog) (ds ++ gs)).all (fun x => decide (x ≤ reachBytes)) = true := hsz0
  rw [Tryd.params5] at hA hval hsz
  obtain ⟨v0, vs0, d0, ds0, p0, q0, hargs, rfl, rfl, h0, r0⟩ := trodAll_cons hA
  obtain ⟨v1, vs1, d1, ds1, p1, q1, rfl, rfl, rfl, h1, r1⟩ := trodAll_cons r0
  obtain ⟨rfl, rfl, rfl⟩ := trodAll_nil r1
  obtain rfl : args = #[v0, v1] := by cases args; simp_all
  obtain ⟨rfl, rfl⟩ := trodVars_none hV
  have k0 := h0
  have lt0 : ∀ x ∈ p0, x.block < W.heap.size := by obtain ⟨m, hm⟩ := k0; exact DataW.trod_lt m _ _ _ hm
  have hw0 : ∀ m ∈ d0.weights Tryd.prog 32, m ≤ reachBytes := fun m hm => by simpa using List.all_eq_true.1 hsz _ (DataW.weights_mem_each (j := 0) (t := 32) rfl rfl m hm)
  have k1 := h1
  have lt1 : ∀ x ∈ p1, x.block < W.heap.size := by obtain ⟨m, hm⟩ := k1; exact DataW.trod_lt m _ _ _ hm
  obtain ⟨es0, hR0, hB0, hL0⟩ := open_tripsP (okWide_slice Tryd.underlying32 (hval 0 32 v0 rfl rfl)) h0 hw0
  obtain ⟨n1, rfl, _, _, wf1⟩ := open_int Tryd.underlying3 (hval 1 3 v1 rfl rfl) h1
  have hI1 := bounds_i64 wf1
  clear hA0 hval0
  refine (walk v0 es0 n1 W hR0 hB0 hL0 hI1 (playBack_facts hL hsh)).mono fun e W' ⟨he, bel⟩ => ?_
  subst he
  exact ⟨_, rfl, _, _, _, [], _, [], hW', trodAll_mk1 (shut_bool Tryd.underlying4 _), (trodAll_cons_mk (Below.trod laidOut (by kernel_rfl) (of_decide_eq_true (by kernel_rfl)) k0 bel lt0) (trodAll_cons_mk (Below.trod laidOut (by kernel_rfl) (of_decide_eq_true (by kernel_rfl)) k1 bel lt1) trodAll_mk0)), rfl, bel.frame _, fun h => by cases h⟩

theorem over : Rows.playBackRow.holds Tryd.pinned (OpenSpec.ofChange Rows.playBackSpec) :=
  OpenClaim.holds_of_wide 5 Tryd.f5 rfl rfl rfl rfl rfl rfl rfl ⟨rfl, rfl, rfl, rfl, rfl⟩ rfl rfl rfl rfl rfl (by kernel_rfl) Tryd.func5 (by kernel_rfl)
    (of_decide_eq_true (by kernel_rfl)) (by unfold Func.isWrapper; first | (rw [if_pos (by decide +kernel)]; kernel_rfl) | (rw [if_neg (by decide +kernel)]; exact ⟨rfl, rfl⟩))
    (fun os started H enc _ => lifted os started H enc)

/-- The card: what the row lists is tied to the program's text. -/
theorem proved : Rows.PlayBackCardSaid :=
  Claim7.holds_tied_plain_at .later [] [.data, .data, .data, .sentinel, .sentinel, .data] true (true, "9da3f975c75f78bd0e8649b96b949851ae4c815f2e60a7769ea6857a98adf4ba") true
    over (fun _ h => by cases h) (by kernel_rfl) (fun _ h => by cases h) playBack_row_tie rfl ⟨rfl, rfl⟩ (by kernel_rfl) rfl
    (fun f fn hf hfn => by
      obtain rfl : f = 5 := Option.some.inj ((show Tryd.prog.funcNamed Rows.playBackRow.func = some 5 by kernel_rfl).symm.trans hf) |>.symm
      obtain rfl : fn = Tryd.f5 := (Option.some.inj (Tryd.func5.symm.trans hfn)).symm
      exact ⟨by kernel_rfl, fun j t ht => by
        rw [Tryd.params5] at ht
        rcases j with _ | j
        · obtain rfl : t = 32 := by simpa using ht.symm
          exact (show Tryd.prog.wantsStandIn 32 = false by kernel_rfl)
        rcases j with _ | j
        · obtain rfl : t = 3 := by simpa using ht.symm
          exact (show Tryd.prog.wantsStandIn 3 = false by kernel_rfl)
        simp at ht⟩)
    (by kernel_rfl)
#print axioms proved
end Go.Proofs.YtdeghndcglgfkaaDoor.playBack
