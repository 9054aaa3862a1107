/-
  Contract of rounds.mayBe.
-/
import Derived.Test.YtbmkgnlfccigpabRndWake
import Derived.Test.YtbmkgnlfccigpabIntsRise
import Derived.Test.YtbmkgnlfccigpabRoundMay
import Derived.Test.YtbmkgnlfccigpabProgOpen
namespace Go.Proofs.Ytbmkgnlfccigpab
set_option maxRecDepth 100000
open Go.ChangeShapes Go.WideShapes Go.ChangeAt Go.RowKit

/-- As far as it was looked at. -/
def PreI (j : Jb) (vs : List Ml) (ms : List (List Int)) (c : Nat) : Prop := ∀ (a : Nat) (x : Ml) (l : List Int), a < c → vs[a]? = some x → ms[a]? = some l → valB j x = true ∧ mailB j l = true ∧ risB l = true
theorem PreI.next {j : Jb} {vs : List Ml} {ms : List (List Int)} {c : Nat} {x : Ml} {l : List Int} (h : PreI j vs ms c) (hx : vs[c]? = some x) (hl : ms[c]? = some l) (h1 : valB j x = true) (h2 : mailB j l = true) (h3 : risB l = true) : PreI j vs ms (c + 1) := fun a y k ha hy hk => by
  by_cases e : a = c
  · subst e
    rw [hx] at hy
    rw [hl] at hk
    injection hy with hy
    injection hk with hk
    subst hy hk
    exact ⟨h1, h2, h3⟩
  · exact h a y k (by omega) hy hk
theorem may_yes {m : Nat} {k step phase : Int} {fr dn : Bool} {vs : List Ml} {ms : List (List Int)} {j : Jb} {top : Nat} (hj : jobF k phase = some j) (hs : 0 ≤ step ∧ step ≤ 100000) (hf : ¬ (fr = true ∧ dn = true)) (h1 : vs.length = m) (h2 : ms.length = m) (hp : PreI j vs ms m) (ht : manyL ms ≤ top) (htop : top ≤ 5000 ∧ (fr = true ∨ dn = true → top = 0)) : mayR m k ⟨step, phase, fr, dn, vs, ms⟩ = true := by
  refine mayR_iff.2 ⟨j, hj, ⟨hs, h1, h2, fun x hx => ?_, fun l hl => ?_, hf, fun h0 => ?_, by show manyL ms ≤ 5000; omega⟩⟩
  · obtain ⟨a, ha, rfl⟩ := List.getElem_of_mem hx
    have ha' : a < vs.length := ha
    obtain ⟨l, hl⟩ := getX (show a < ms.length by omega)
    exact (hp a _ l (by omega) (List.getElem?_eq_getElem ha) hl).1
  · obtain ⟨a, ha, rfl⟩ := List.getElem_of_mem hl
    have ha' : a < ms.length := ha
    obtain ⟨x, hx⟩ := getX (show a < vs.length by omega)
    have := hp a x _ (by omega) hx (List.getElem?_eq_getElem ha)
    exact ⟨this.2.1, by have h3 := this.2.2; unfold risB at h3; exact of_decide_eq_true h3⟩
  · have h0' : 0 < manyL ms := h0
    refine ⟨?_, ?_⟩
    · cases hfr : fr
      · rfl
      · have := htop.2 (.inl hfr); omega
    · cases hdn : dn
      · rfl
      · have := htop.2 (.inr hdn); omega
theorem may_many {m : Nat} {k step phase : Int} {fr dn : Bool} {vs : List Ml} {ms : List (List Int)} {top c : Nat} {l : List Int} (hl : ms[c]? = some l) (hm : top < manyL (ms.take c) + l.length) (htop : (top = 5000 ∨ (top = 0 ∧ (fr = true ∨ dn = true)))) : mayR m k ⟨step, phase, fr, dn, vs, ms⟩ = false := by
  rw [Bool.eq_false_iff]
  intro g
  obtain ⟨j, hj, h⟩ := mayR_iff.1 g
  have h1 : manyL (ms.take c) + l.length ≤ manyL ms := by
    rw [← manyL_take hl]
    conv => rhs; rw [← List.take_append_drop (c + 1) ms]
    unfold manyL
    rw [List.map_append, List.sum_append]
    omega
  have h2 : manyL ms ≤ 5000 := h.few
  rcases htop with e | ⟨e, hf⟩
  · omega
  · have := h.no (show 0 < manyL ms by omega)
    simp only at this
    rcases hf with hf | hf
    · rw [this.1] at hf; cases hf
    · rw [this.2] at hf; cases hf
theorem may_ris {m : Nat} {k step phase : Int} {fr dn : Bool} {vs : List Ml} {ms : List (List Int)} {c : Nat} {l : List Int} (hl : ms[c]? = some l) (hr : risB l = false) : mayR m k ⟨step, phase, fr, dn, vs, ms⟩ = false := by
  rw [Bool.eq_false_iff]
  intro g
  obtain ⟨j, hj, h⟩ := mayR_iff.1 g
  have := (h.mls l (List.mem_of_getElem? hl)).2
  have h2 : risB l = true := decide_eq_true this
  rw [hr] at h2
  cases h2
theorem may_wake {m : Nat} {k s step phase : Int} {fr dn : Bool} {vs : List Ml} {ms : List (List Int)} {c : Nat} {x : Ml} {l : List Int} {j : Jb} (hj : jobF k phase = some j) (hc : c ≤ 199) (hx : vs[c]? = some x) (hl : ms[c]? = some l) :
    ((wakeF k (c : Int) s x phase fr l).f = 0 ∧ valB j x = true ∧ mailB j l = true) ∨ ((wakeF k (c : Int) s x phase fr l).f = 2 ∧ mayR m k ⟨step, phase, fr, dn, vs, ms⟩ = false) := by
  have e : wakeF k (c : Int) s x phase fr l = wakeJ j (c : Int) s x fr l := by unfold wakeF; rw [hj]
  rw [e]
  unfold wakeJ
  have hi : inB (c : Int) 0 199 = true := inB_iff.2 (by omega)
  rw [hi, Bool.true_and]
  by_cases h : (valB j x && mailB j l) = true
  · rw [if_pos h]
    rw [Bool.and_eq_true] at h
    exact .inl ⟨rfl, h.1, h.2⟩
  · rw [if_neg h]
    refine .inr ⟨rfl, ?_⟩
    rw [Bool.eq_false_iff]
    intro g
    obtain ⟨j', hj', h'⟩ := mayR_iff.1 g
    have ej : j' = j := by rw [show jobF k phase = _ from hj'] at hj; exact Option.some.inj hj
    subst ej
    exact h (by rw [Bool.and_eq_true]; exact ⟨h'.val x (List.mem_of_getElem? hx), (h'.mls l (List.mem_of_getElem? hl)).1⟩)

set_option maxHeartbeats 4000000 in
set_option maxRecDepth 100000 in
theorem rMay_any (ea : Option Addr) (el ec m : Nat) (k s : Int) (T : StS) (vv vm : Value) (w : World) (hv : MlR w vv T.vals) (hm : LiR w vm T.mail) (hn : m ≤ 200) :
    Calls Try.prog 25 #[.agg #[.int .i64 (m : Int), .slice ea el ec, .int .i64 k, .int .i64 s], .agg #[.int .i64 T.step, .int .i64 T.phase, .bool T.fresh, .bool T.done, vv, vm]] w fun e w' => e = .returned (.bool (mayR m k T)) ∧ Below w.heap.size w w' := by
  have HV : Hid (MlR w vv T.vals) := hv
  have HM : Hid (LiR w vm T.mail) := hm
  obtain ⟨va, vc, rfl, hvc, hvm, _, _⟩ := hv
  obtain ⟨ma, mc, rfl, hmc, hmm, _⟩ := hm
  unfold maxLen at hvm hmm
  obtain ⟨step, phase, fr, dn, vs, ms⟩ := T
  simp only at HV HM hvc hvm hmc hmm ⊢
  obtain ⟨W0, hW0⟩ : ∃ W0, W0 = (w.alloc (.cells #[.int .i64 (m : Int), .slice ea el ec, .int .i64 k, .int .i64 s] 27)).alloc (.cells #[.int .i64 step, .int .i64 phase, .bool fr, .bool dn, .slice va vs.length vc, .slice ma ms.length mc] 34) := ⟨_, rfl⟩
  obtain ⟨Q0, T0, B0, s1, s2⟩ := boxes2 w #[.int .i64 (m : Int), .slice ea el ec, .int .i64 k, .int .i64 s] #[.int .i64 step, .int .i64 phase, .bool fr, .bool dn, .slice va vs.length vc, .slice ma ms.length mc] 27 34 W0 hW0
  have BH : Hid (Below w.heap.size w W0) := B0
  have HK : Hid (∀ X, Below W0.heap.size W0 X → BX 27 X w.heap.size #[.int .i64 (m : Int), .slice ea el ec, .int .i64 k, .int .i64 s] ∧ BX 34 X (w.heap.size + 1) #[.int .i64 step, .int .i64 phase, .bool fr, .bool dn, .slice va vs.length vc, .slice ma ms.length mc] ∧ Below w.heap.size w X) := fun X hX => ⟨Q0.below hX (by omega), T0.below hX (by omega), BH.out.trans (hX.mono (by omega))⟩
  have HVX : Hid (∀ X, Below W0.heap.size W0 X → MlR X (.slice va vs.length vc) vs ∧ LiR X (.slice ma ms.length mc) ms) := fun X hX => ⟨HV.out.below (HK.out _ hX).2.2 (Nat.le_refl _), HM.out.below (HK.out _ hX).2.2 (Nat.le_refl _)⟩
  obtain ⟨q0, q1, q2, q3⟩ := Q0.all4
  obtain ⟨⟨c0, c1, c2, c3, c4, c5⟩, _⟩ := T0.all6
  clear Q0 T0 B0
  by_cases g1 : step < 0
  · have HE : Hid (mayR m k ⟨step, phase, fr, dn, vs, ms⟩ = false) := mayR_step (by rw [Bool.eq_false_iff]; intro g; have := inB_iff.1 g; simp only at this; omega)
    generalize mayR m k ⟨step, phase, fr, dn, vs, ms⟩ = R at *
    go_enter Try.func25, Try.ntmps25
    go_upto_region 1 with fail
    rw [← hW0]
    clear hW0
    go_wp2_with fail
    go_ret
    exact ⟨by rw [HE.out]; rfl, BH.out⟩
  by_cases g2 : 100000 < step
  · have HE : Hid (mayR m k ⟨step, phase, fr, dn, vs, ms⟩ = false) := mayR_step (by rw [Bool.eq_false_iff]; intro g; have := inB_iff.1 g; simp only at this; omega)
    generalize mayR m k ⟨step, phase, fr, dn, vs, ms⟩ = R at *
    go_enter Try.func25, Try.ntmps25
    go_upto_region 1 with fail
    rw [← hW0]
    clear hW0
    go_wp2_with fail
    go_ret
    exact ⟨by rw [HE.out]; rfl, BH.out⟩
  cases fr
  · cases dn
    · rcases jobF_cases k phase with hnone | ⟨j, hjk, hjp⟩
      · have HE : Hid (mayR m k ⟨step, phase, false, false, vs, ms⟩ = false) := mayR_none hnone.1
        have CW : Hid (∀ X, Calls Try.prog 12 #[.int .i64 k, .int .i64 phase] X fun e w' => e = .returned (.tuple #[.bool false, .bool false, .int .i64 3]) ∧ Below X.heap.size X w') := fun X => waysP_none hnone.2 X
        generalize mayR m k ⟨step, phase, false, false, vs, ms⟩ = R at *
        clear hnone
        go_enter Try.func25, Try.ntmps25
        go_upto_region 1 with fail
        rw [← hW0]
        clear hW0
        go_wp2_with fail
        refine (CW.out _).mono ?_
        rintro e w1 ⟨rfl, hb1⟩
        have B1 : Hid (Below w.heap.size w w1) := (HK.out _ hb1).2.2
        clear hb1
        go_wp2_with fail
        go_ret
        exact ⟨by rw [HE.out]; rfl, B1.out⟩
      · have HJ : Hid (jobF k phase = some j) := by show jobF k phase = some j; rw [hjk, hjp]; exact jobF_of j
        have CW : Hid (∀ X, Calls Try.prog 12 #[.int .i64 k, .int .i64 phase] X fun e w' => e = .returned (.tuple #[.bool (wayJ j).1, .bool (wayJ j).2, .int .i64 0]) ∧ Below X.heap.size X w') := fun X => by rw [hjk, hjp]; exact waysP_any j X
        clear hjk hjp
        by_cases hlv : vs.length = m
        · by_cases hlm : ms.length = m
          · have tv : ((vs.length : Int) != (m : Int)) = false := by rw [hlv]; simp
            have tm : ((ms.length : Int) != (m : Int)) = false := by rw [hlm]; simp
            have HLV : Hid (vs.length = m) := hlv
            have HLM : Hid (ms.length = m) := hlm
            have HSTP : Hid (0 ≤ step ∧ step ≤ 100000) := ⟨by omega, by omega⟩
            have lv1 : m ≤ vs.length := by omega
            have lm1 : m ≤ ms.length := by omega
            have lm2 : ms.length ≤ m := by omega
            have HMX : Hid (∀ (c : Nat) (l : List Int), ms[c]? = some l → 5000 < manyL (ms.take c) + l.length → mayR m k ⟨step, phase, false, false, vs, ms⟩ = false) := fun c l hl h => may_many hl h (.inl rfl)
            have HMR : Hid (∀ (c : Nat) (l : List Int), ms[c]? = some l → risB l = false → mayR m k ⟨step, phase, false, false, vs, ms⟩ = false) := fun c l hl h => may_ris hl h
            have HMW : Hid (∀ (c : Nat) (x : Ml) (l : List Int), c ≤ 199 → vs[c]? = some x → ms[c]? = some l → ((wakeF k (c : Int) s x phase false l).f = 0 ∧ valB j x = true ∧ mailB j l = true) ∨ ((wakeF k (c : Int) s x phase false l).f = 2 ∧ mayR m k ⟨step, phase, false, false, vs, ms⟩ = false)) := fun c x l hc hx hl => may_wake HJ.out hc hx hl
            have HMY : Hid (PreI j vs ms m → manyL ms ≤ 5000 → mayR m k ⟨step, phase, false, false, vs, ms⟩ = true) := fun h1 h2 => may_yes HJ.out HSTP.out (by simp) HLV.out HLM.out h1 h2 (by simp)
            have HWK : Hid (∀ X (c : Nat) (x : Ml) (l : List Int), Below W0.heap.size W0 X → vs[c]? = some x → ms[c]? = some l → Calls Try.prog 35 #[.agg #[.int .i64 (m : Int), .slice ea el ec, .int .i64 k, .int .i64 s], .agg #[.int .i64 step, .int .i64 phase, .bool false, .bool false, .slice va vs.length vc, .slice ma ms.length mc], .int .i64 (c : Int)] X (WakP X (wakeF k (c : Int) s x phase false l))) := fun X c x l hX hx hl => rWake_any (.slice ea el ec) (m : Int) k s ⟨step, phase, false, false, vs, ms⟩ _ _ c x l X ⟨_, _, _, rfl⟩ (HVX.out X hX).1 (HVX.out X hX).2 hx hl
            generalize mayR m k ⟨step, phase, false, false, vs, ms⟩ = R at *
            clear hlv hlm
            go_enter Try.func25, Try.ntmps25
            go_upto_region 1 with fail
            rw [← hW0]
            clear hW0
            go_wp2_with fail
            refine (CW.out _).mono ?_
            rintro e w1 ⟨rfl, hb1⟩
            have A1 : Hid (Below W0.heap.size W0 w1) := hb1
            obtain ⟨Q1, T1, _⟩ := HK.out _ hb1
            clear q0 q1 q2 q3 c0 c1 c2 c3 c4 c5 hb1 CW
            obtain ⟨q0, q1, q2, q3⟩ := Q1.all4
            obtain ⟨⟨c0, c1, c2, c3, c4, c5⟩, _⟩ := T1.all6
            clear Q1 T1
            go_wp2_with fail
            clear q0 q1 q2 q3 c0 c1 c2 c3 c4 c5
            go_loopw [8, 66] (fun t i wr => ∃ c : Nat, c ≤ ms.length ∧ i = .int .i64 c ∧ t = .int .i64 ((5000 : Int) - (manyL (ms.take c) : Nat)) ∧ manyL (ms.take c) ≤ 5000 ∧ PreI j vs ms c ∧ Below W0.heap.size W0 wr) (fun _ i _ => ms.length - (intOf i).toNat)
            case atStart => exact ⟨0, by omega, rfl, rfl, by simp [manyL], fun a x l h => by omega, A1.out⟩
            case round =>
              obtain ⟨c, hc, rfl, rfl, hmy, hpre, hbel⟩ := hrel
              have AB : Hid (Below W0.heap.size W0 wr) := hbel
              have PB : Hid (PreI j vs ms c) := hpre
              obtain ⟨Q1, T1, hbw⟩ := HK.out _ hbel
              obtain ⟨q0, q1, q2, q3⟩ := Q1.all4
              obtain ⟨⟨c0, c1, c2, c3, c4, c5⟩, _⟩ := T1.all6
              have BW : Hid (Below w.heap.size w wr) := hbw
              clear Q1 T1 hbw hpre hbel
              by_cases hlt : c < ms.length
              · obtain ⟨b1, o1, cap1, e1, lt1, hc1, hc2, hv1⟩ := (HVX.out _ AB.out).2.at (by omega)
                injection e1 with e1 _ e3
                subst e1 e3
                obtain ⟨l, hl⟩ := getX hlt
                obtain ⟨x, hx⟩ := getX (show c < vs.length by omega)
                obtain ⟨u, hu, hur⟩ := hv1 c l hl
                have UR : Hid (InR wr u l) := hur
                obtain ⟨ua, uc, rfl, huc, hum, _⟩ := hur
                unfold maxLen at hum
                have p0 : (0 : Int) ≤ (c : Int) := by omega
                have p1 : (c : Int) < (ms.length : Int) := by omega
                have HMT : Hid (manyL (ms.take (c + 1)) = manyL (ms.take c) + l.length) := manyL_take hl
                have HX1 : Hid (5000 < manyL (ms.take c) + l.length → R = false) := HMX.out c l hl
                have HX2 : Hid (risB l = false → R = false) := HMR.out c l hl
                have HX3 := HMW.out c x l (by omega) hx hl
                have HPN : Hid (valB j x = true → mailB j l = true → risB l = true → PreI j vs ms (c + 1)) := fun h1 h2 h3 => PB.out.next hx hl h1 h2 h3
                have HWC : Hid (∀ X, Below W0.heap.size W0 X → _) := fun X hX => HWK.out X c x l hX hx hl
                generalize wakeF k (c : Int) s x phase false l = r at *
                have HX4 : Hid ((r.f = 0 ∧ valB j x = true ∧ mailB j l = true) ∨ (r.f = 2 ∧ R = false)) := HX3
                have CS : Hid (∀ X, InR X (.slice ua l.length uc) l → Calls Try.prog 34 #[.slice ua l.length uc] X fun e w' => e = .returned (.bool (risB l)) ∧ Below X.heap.size X w') := fun X hX => isSortI_any _ l X hX
                generalize manyL (ms.take c) = my at *
                clear hv1 hl hx HX3
                obtain ⟨tt, htt⟩ : ∃ t : Int, (5000 : Int) - (my : Nat) - (l.length : Int) = t := ⟨_, rfl⟩
                have wn : IntKind.i64.wrap ((5000 : Int) - (my : Nat) - (l.length : Int)) = tt := by rw [htt]; exact wrap_id64 (by omega) (by omega)
                by_cases hneg : tt < 0
                · have HE : Hid (R = false) := HX1.out (by omega)
                  go_wp2_with fail
                  go_ret
                  exact ⟨by rw [HE.out]; rfl, BW.out⟩
                · go_wp2_with fail
                  refine (CS.out _ UR.out).mono ?_
                  rintro e w2 ⟨rfl, hb2⟩
                  have A2 : Hid (Below W0.heap.size W0 w2) := AB.out.trans (hb2.mono AB.out.size)
                  obtain ⟨Q1, T1, hbw⟩ := HK.out _ A2.out
                  clear q0 q1 q2 q3 c0 c1 c2 c3 c4 c5 hb2
                  obtain ⟨q0, q1, q2, q3⟩ := Q1.all4
                  obtain ⟨⟨c0, c1, c2, c3, c4, c5⟩, _⟩ := T1.all6
                  have BW2 : Hid (Below w.heap.size w w2) := hbw
                  clear Q1 T1 hbw
                  cases hrb : risB l
                  · have HE : Hid (R = false) := HX2.out hrb
                    clear hrb
                    go_wp2_with fail
                    go_ret
                    exact ⟨by rw [HE.out]; rfl, BW2.out⟩
                  · have HRB : Hid (risB l = true) := hrb
                    clear hrb
                    go_wp2_with fail
                    refine (HWC.out _ A2.out).mono ?_
                    rintro e w3 ⟨rfl, hb3⟩
                    have A3 : Hid (Below W0.heap.size W0 w3) := A2.out.trans (hb3.mono A2.out.size)
                    obtain ⟨_, _, hbw⟩ := HK.out _ A3.out
                    have BW3 : Hid (Below w.heap.size w w3) := hbw
                    have hs3 := hbw.size
                    clear q0 q1 q2 q3 c0 c1 c2 c3 c4 c5 hb3 hbw
                    obtain ⟨⟨rx1, rx2⟩, rb, rf⟩ := r
                    simp only at HX4 ⊢
                    rcases HX4.out with ⟨h1, h2, h3⟩ | ⟨h1, h2⟩
                    · subst h1
                      have HPR : Hid (PreI j vs ms (c + 1)) := HPN.out h2 h3 HRB.out
                      have A4 : Hid (Below W0.heap.size W0 (w3.alloc (.cells #[.int .i64 rx1, .int .i64 rx2] 44))) := A3.out.alloc A3.out.size _
                      clear h2 h3
                      go_wp2_with fail
                      go_roundw
                      case rel => exact ⟨c + 1, by omega, by go_num, by rw [HMT.out]; congr 1; omega, by rw [HMT.out]; omega, HPR.out, A4.out⟩
                      case measure => simp [intOf]; omega
                    · subst h1
                      have HE : Hid (R = false) := h2
                      have A4 : Hid (Below w.heap.size w (w3.alloc (.cells #[.int .i64 rx1, .int .i64 rx2] 44))) := BW3.out.alloc hs3 _
                      clear h2
                      go_wp2_with fail
                      go_ret
                      exact ⟨by rw [HE.out]; rfl, A4.out⟩
              · have HE : Hid (R = true) := by
                  have ec : ms.take c = ms := List.take_of_length_le (by omega)
                  rw [ec] at hmy
                  refine HMY.out (fun a x l ha hx hl => PB.out a x l (by have := (List.getElem?_eq_some_iff.1 hl).1; omega) hx hl) hmy
                clear hmy
                go_wp2_with fail
                go_ret
                exact ⟨by rw [HE.out]; rfl, BW.out⟩
          · have HE : Hid (mayR m k ⟨step, phase, false, false, vs, ms⟩ = false) := mayR_len fun g => hlm g.2
            have tv : ((vs.length : Int) != (m : Int)) = false := by rw [hlv]; simp
            have tm : ((ms.length : Int) != (m : Int)) = true := by simp; omega
            clear hlv
            generalize mayR m k ⟨step, phase, false, false, vs, ms⟩ = R at *
            go_enter Try.func25, Try.ntmps25
            go_upto_region 1 with fail
            rw [← hW0]
            clear hW0
            go_wp2_with fail
            refine (CW.out _).mono ?_
            rintro e w1 ⟨rfl, hb1⟩
            obtain ⟨Q1, T1, hbw⟩ := HK.out _ hb1
            have B1 : Hid (Below w.heap.size w w1) := hbw
            clear q0 q1 q2 q3 c0 c1 c2 c3 c4 c5 hb1 CW
            obtain ⟨q0, q1, q2, q3⟩ := Q1.all4
            obtain ⟨⟨c0, c1, c2, c3, c4, c5⟩, _⟩ := T1.all6
            clear Q1 T1 hbw
            go_wp2_with fail
            go_ret
            exact ⟨by rw [HE.out]; rfl, B1.out⟩
        · have HE : Hid (mayR m k ⟨step, phase, false, false, vs, ms⟩ = false) := mayR_len fun g => hlv g.1
          have tv : ((vs.length : Int) != (m : Int)) = true := by simp; omega
          generalize mayR m k ⟨step, phase, false, false, vs, ms⟩ = R at *
          go_enter Try.func25, Try.ntmps25
          go_upto_region 1 with fail
          rw [← hW0]
          clear hW0
          go_wp2_with fail
          refine (CW.out _).mono ?_
          rintro e w1 ⟨rfl, hb1⟩
          obtain ⟨Q1, T1, hbw⟩ := HK.out _ hb1
          have B1 : Hid (Below w.heap.size w w1) := hbw
          clear q0 q1 q2 q3 c0 c1 c2 c3 c4 c5 hb1 CW
          obtain ⟨q0, q1, q2, q3⟩ := Q1.all4
          obtain ⟨⟨c0, c1, c2, c3, c4, c5⟩, _⟩ := T1.all6
          clear Q1 T1 hbw
          go_wp2_with fail
          go_ret
          exact ⟨by rw [HE.out]; rfl, B1.out⟩
    · rcases jobF_cases k phase with hnone | ⟨j, hjk, hjp⟩
      · have HE : Hid (mayR m k ⟨step, phase, false, true, vs, ms⟩ = false) := mayR_none hnone.1
        have CW : Hid (∀ X, Calls Try.prog 12 #[.int .i64 k, .int .i64 phase] X fun e w' => e = .returned (.tuple #[.bool false, .bool false, .int .i64 3]) ∧ Below X.heap.size X w') := fun X => waysP_none hnone.2 X
        generalize mayR m k ⟨step, phase, false, true, vs, ms⟩ = R at *
        clear hnone
        go_enter Try.func25, Try.ntmps25
        go_upto_region 1 with fail
        rw [← hW0]
        clear hW0
        go_wp2_with fail
        refine (CW.out _).mono ?_
        rintro e w1 ⟨rfl, hb1⟩
        have B1 : Hid (Below w.heap.size w w1) := (HK.out _ hb1).2.2
        clear hb1
        go_wp2_with fail
        go_ret
        exact ⟨by rw [HE.out]; rfl, B1.out⟩
      · have HJ : Hid (jobF k phase = some j) := by show jobF k phase = some j; rw [hjk, hjp]; exact jobF_of j
        have CW : Hid (∀ X, Calls Try.prog 12 #[.int .i64 k, .int .i64 phase] X fun e w' => e = .returned (.tuple #[.bool (wayJ j).1, .bool (wayJ j).2, .int .i64 0]) ∧ Below X.heap.size X w') := fun X => by rw [hjk, hjp]; exact waysP_any j X
        clear hjk hjp
        by_cases hlv : vs.length = m
        · by_cases hlm : ms.length = m
          · have tv : ((vs.length : Int) != (m : Int)) = false := by rw [hlv]; simp
            have tm : ((ms.length : Int) != (m : Int)) = false := by rw [hlm]; simp
            have HLV : Hid (vs.length = m) := hlv
            have HLM : Hid (ms.length = m) := hlm
            have HSTP : Hid (0 ≤ step ∧ step ≤ 100000) := ⟨by omega, by omega⟩
            have lv1 : m ≤ vs.length := by omega
            have lm1 : m ≤ ms.length := by omega
            have lm2 : ms.length ≤ m := by omega
            have HMX : Hid (∀ (c : Nat) (l : List Int), ms[c]? = some l → 0 < manyL (ms.take c) + l.length → mayR m k ⟨step, phase, false, true, vs, ms⟩ = false) := fun c l hl h => may_many hl h (.inr ⟨rfl, .inr rfl⟩)
            have HMR : Hid (∀ (c : Nat) (l : List Int), ms[c]? = some l → risB l = false → mayR m k ⟨step, phase, false, true, vs, ms⟩ = false) := fun c l hl h => may_ris hl h
            have HMW : Hid (∀ (c : Nat) (x : Ml) (l : List Int), c ≤ 199 → vs[c]? = some x → ms[c]? = some l → ((wakeF k (c : Int) s x phase false l).f = 0 ∧ valB j x = true ∧ mailB j l = true) ∨ ((wakeF k (c : Int) s x phase false l).f = 2 ∧ mayR m k ⟨step, phase, false, true, vs, ms⟩ = false)) := fun c x l hc hx hl => may_wake HJ.out hc hx hl
            have HMY : Hid (PreI j vs ms m → manyL ms ≤ 0 → mayR m k ⟨step, phase, false, true, vs, ms⟩ = true) := fun h1 h2 => may_yes HJ.out HSTP.out (by simp) HLV.out HLM.out h1 h2 (by simp)
            have HWK : Hid (∀ X (c : Nat) (x : Ml) (l : List Int), Below W0.heap.size W0 X → vs[c]? = some x → ms[c]? = some l → Calls Try.prog 35 #[.agg #[.int .i64 (m : Int), .slice ea el ec, .int .i64 k, .int .i64 s], .agg #[.int .i64 step, .int .i64 phase, .bool false, .bool true, .slice va vs.length vc, .slice ma ms.length mc], .int .i64 (c : Int)] X (WakP X (wakeF k (c : Int) s x phase false l))) := fun X c x l hX hx hl => rWake_any (.slice ea el ec) (m : Int) k s ⟨step, phase, false, true, vs, ms⟩ _ _ c x l X ⟨_, _, _, rfl⟩ (HVX.out X hX).1 (HVX.out X hX).2 hx hl
            generalize mayR m k ⟨step, phase, false, true, vs, ms⟩ = R at *
            clear hlv hlm
            go_enter Try.func25, Try.ntmps25
            go_upto_region 1 with fail
            rw [← hW0]
            clear hW0
            go_wp2_with fail
            refine (CW.out _).mono ?_
            rintro e w1 ⟨rfl, hb1⟩
            have A1 : Hid (Below W0.heap.size W0 w1) := hb1
            obtain ⟨Q1, T1, _⟩ := HK.out _ hb1
            clear q0 q1 q2 q3 c0 c1 c2 c3 c4 c5 hb1 CW
            obtain ⟨q0, q1, q2, q3⟩ := Q1.all4
            obtain ⟨⟨c0, c1, c2, c3, c4, c5⟩, _⟩ := T1.all6
            clear Q1 T1
            go_wp2_with fail
            clear q0 q1 q2 q3 c0 c1 c2 c3 c4 c5
            go_loopw [8, 66] (fun t i wr => ∃ c : Nat, c ≤ ms.length ∧ i = .int .i64 c ∧ t = .int .i64 ((0 : Int) - (manyL (ms.take c) : Nat)) ∧ manyL (ms.take c) ≤ 0 ∧ PreI j vs ms c ∧ Below W0.heap.size W0 wr) (fun _ i _ => ms.length - (intOf i).toNat)
            case atStart => exact ⟨0, by omega, rfl, rfl, by simp [manyL], fun a x l h => by omega, A1.out⟩
            case round =>
              obtain ⟨c, hc, rfl, rfl, hmy, hpre, hbel⟩ := hrel
              have AB : Hid (Below W0.heap.size W0 wr) := hbel
              have PB : Hid (PreI j vs ms c) := hpre
              obtain ⟨Q1, T1, hbw⟩ := HK.out _ hbel
              obtain ⟨q0, q1, q2, q3⟩ := Q1.all4
              obtain ⟨⟨c0, c1, c2, c3, c4, c5⟩, _⟩ := T1.all6
              have BW : Hid (Below w.heap.size w wr) := hbw
              clear Q1 T1 hbw hpre hbel
              by_cases hlt : c < ms.length
              · obtain ⟨b1, o1, cap1, e1, lt1, hc1, hc2, hv1⟩ := (HVX.out _ AB.out).2.at (by omega)
                injection e1 with e1 _ e3
                subst e1 e3
                obtain ⟨l, hl⟩ := getX hlt
                obtain ⟨x, hx⟩ := getX (show c < vs.length by omega)
                obtain ⟨u, hu, hur⟩ := hv1 c l hl
                have UR : Hid (InR wr u l) := hur
                obtain ⟨ua, uc, rfl, huc, hum, _⟩ := hur
                unfold maxLen at hum
                have p0 : (0 : Int) ≤ (c : Int) := by omega
                have p1 : (c : Int) < (ms.length : Int) := by omega
                have HMT : Hid (manyL (ms.take (c + 1)) = manyL (ms.take c) + l.length) := manyL_take hl
                have HX1 : Hid (0 < manyL (ms.take c) + l.length → R = false) := HMX.out c l hl
                have HX2 : Hid (risB l = false → R = false) := HMR.out c l hl
                have HX3 := HMW.out c x l (by omega) hx hl
                have HPN : Hid (valB j x = true → mailB j l = true → risB l = true → PreI j vs ms (c + 1)) := fun h1 h2 h3 => PB.out.next hx hl h1 h2 h3
                have HWC : Hid (∀ X, Below W0.heap.size W0 X → _) := fun X hX => HWK.out X c x l hX hx hl
                generalize wakeF k (c : Int) s x phase false l = r at *
                have HX4 : Hid ((r.f = 0 ∧ valB j x = true ∧ mailB j l = true) ∨ (r.f = 2 ∧ R = false)) := HX3
                have CS : Hid (∀ X, InR X (.slice ua l.length uc) l → Calls Try.prog 34 #[.slice ua l.length uc] X fun e w' => e = .returned (.bool (risB l)) ∧ Below X.heap.size X w') := fun X hX => isSortI_any _ l X hX
                generalize manyL (ms.take c) = my at *
                clear hv1 hl hx HX3
                obtain ⟨tt, htt⟩ : ∃ t : Int, (0 : Int) - (my : Nat) - (l.length : Int) = t := ⟨_, rfl⟩
                have wn : IntKind.i64.wrap ((0 : Int) - (my : Nat) - (l.length : Int)) = tt := by rw [htt]; exact wrap_id64 (by omega) (by omega)
                by_cases hneg : tt < 0
                · have HE : Hid (R = false) := HX1.out (by omega)
                  go_wp2_with fail
                  go_ret
                  exact ⟨by rw [HE.out]; rfl, BW.out⟩
                · go_wp2_with fail
                  refine (CS.out _ UR.out).mono ?_
                  rintro e w2 ⟨rfl, hb2⟩
                  have A2 : Hid (Below W0.heap.size W0 w2) := AB.out.trans (hb2.mono AB.out.size)
                  obtain ⟨Q1, T1, hbw⟩ := HK.out _ A2.out
                  clear q0 q1 q2 q3 c0 c1 c2 c3 c4 c5 hb2
                  obtain ⟨q0, q1, q2, q3⟩ := Q1.all4
                  obtain ⟨⟨c0, c1, c2, c3, c4, c5⟩, _⟩ := T1.all6
                  have BW2 : Hid (Below w.heap.size w w2) := hbw
                  clear Q1 T1 hbw
                  cases hrb : risB l
                  · have HE : Hid (R = false) := HX2.out hrb
                    clear hrb
                    go_wp2_with fail
                    go_ret
                    exact ⟨by rw [HE.out]; rfl, BW2.out⟩
                  · have HRB : Hid (risB l = true) := hrb
                    clear hrb
                    go_wp2_with fail
                    refine (HWC.out _ A2.out).mono ?_
                    rintro e w3 ⟨rfl, hb3⟩
                    have A3 : Hid (Below W0.heap.size W0 w3) := A2.out.trans (hb3.mono A2.out.size)
                    obtain ⟨_, _, hbw⟩ := HK.out _ A3.out
                    have BW3 : Hid (Below w.heap.size w w3) := hbw
                    have hs3 := hbw.size
                    clear q0 q1 q2 q3 c0 c1 c2 c3 c4 c5 hb3 hbw
                    obtain ⟨⟨rx1, rx2⟩, rb, rf⟩ := r
                    simp only at HX4 ⊢
                    rcases HX4.out with ⟨h1, h2, h3⟩ | ⟨h1, h2⟩
                    · subst h1
                      have HPR : Hid (PreI j vs ms (c + 1)) := HPN.out h2 h3 HRB.out
                      have A4 : Hid (Below W0.heap.size W0 (w3.alloc (.cells #[.int .i64 rx1, .int .i64 rx2] 44))) := A3.out.alloc A3.out.size _
                      clear h2 h3
                      go_wp2_with fail
                      go_roundw
                      case rel => exact ⟨c + 1, by omega, by go_num, by rw [HMT.out]; congr 1; omega, by rw [HMT.out]; omega, HPR.out, A4.out⟩
                      case measure => simp [intOf]; omega
                    · subst h1
                      have HE : Hid (R = false) := h2
                      have A4 : Hid (Below w.heap.size w (w3.alloc (.cells #[.int .i64 rx1, .int .i64 rx2] 44))) := BW3.out.alloc hs3 _
                      clear h2
                      go_wp2_with fail
                      go_ret
                      exact ⟨by rw [HE.out]; rfl, A4.out⟩
              · have HE : Hid (R = true) := by
                  have ec : ms.take c = ms := List.take_of_length_le (by omega)
                  rw [ec] at hmy
                  refine HMY.out (fun a x l ha hx hl => PB.out a x l (by have := (List.getElem?_eq_some_iff.1 hl).1; omega) hx hl) hmy
                clear hmy
                go_wp2_with fail
                go_ret
                exact ⟨by rw [HE.out]; rfl, BW.out⟩
          · have HE : Hid (mayR m k ⟨step, phase, false, true, vs, ms⟩ = false) := mayR_len fun g => hlm g.2
            have tv : ((vs.length : Int) != (m : Int)) = false := by rw [hlv]; simp
            have tm : ((ms.length : Int) != (m : Int)) = true := by simp; omega
            clear hlv
            generalize mayR m k ⟨step, phase, false, true, vs, ms⟩ = R at *
            go_enter Try.func25, Try.ntmps25
            go_upto_region 1 with fail
            rw [← hW0]
            clear hW0
            go_wp2_with fail
            refine (CW.out _).mono ?_
            rintro e w1 ⟨rfl, hb1⟩
            obtain ⟨Q1, T1, hbw⟩ := HK.out _ hb1
            have B1 : Hid (Below w.heap.size w w1) := hbw
            clear q0 q1 q2 q3 c0 c1 c2 c3 c4 c5 hb1 CW
            obtain ⟨q0, q1, q2, q3⟩ := Q1.all4
            obtain ⟨⟨c0, c1, c2, c3, c4, c5⟩, _⟩ := T1.all6
            clear Q1 T1 hbw
            go_wp2_with fail
            go_ret
            exact ⟨by rw [HE.out]; rfl, B1.out⟩
        · have HE : Hid (mayR m k ⟨step, phase, false, true, vs, ms⟩ = false) := mayR_len fun g => hlv g.1
          have tv : ((vs.length : Int) != (m : Int)) = true := by simp; omega
          generalize mayR m k ⟨step, phase, false, true, vs, ms⟩ = R at *
          go_enter Try.func25, Try.ntmps25
          go_upto_region 1 with fail
          rw [← hW0]
          clear hW0
          go_wp2_with fail
          refine (CW.out _).mono ?_
          rintro e w1 ⟨rfl, hb1⟩
          obtain ⟨Q1, T1, hbw⟩ := HK.out _ hb1
          have B1 : Hid (Below w.heap.size w w1) := hbw
          clear q0 q1 q2 q3 c0 c1 c2 c3 c4 c5 hb1 CW
          obtain ⟨q0, q1, q2, q3⟩ := Q1.all4
          obtain ⟨⟨c0, c1, c2, c3, c4, c5⟩, _⟩ := T1.all6
          clear Q1 T1 hbw
          go_wp2_with fail
          go_ret
          exact ⟨by rw [HE.out]; rfl, B1.out⟩
  · cases dn
    · rcases jobF_cases k phase with hnone | ⟨j, hjk, hjp⟩
      · have HE : Hid (mayR m k ⟨step, phase, true, false, vs, ms⟩ = false) := mayR_none hnone.1
        have CW : Hid (∀ X, Calls Try.prog 12 #[.int .i64 k, .int .i64 phase] X fun e w' => e = .returned (.tuple #[.bool false, .bool false, .int .i64 3]) ∧ Below X.heap.size X w') := fun X => waysP_none hnone.2 X
        generalize mayR m k ⟨step, phase, true, false, vs, ms⟩ = R at *
        clear hnone
        go_enter Try.func25, Try.ntmps25
        go_upto_region 1 with fail
        rw [← hW0]
        clear hW0
        go_wp2_with fail
        refine (CW.out _).mono ?_
        rintro e w1 ⟨rfl, hb1⟩
        have B1 : Hid (Below w.heap.size w w1) := (HK.out _ hb1).2.2
        clear hb1
        go_wp2_with fail
        go_ret
        exact ⟨by rw [HE.out]; rfl, B1.out⟩
      · have HJ : Hid (jobF k phase = some j) := by show jobF k phase = some j; rw [hjk, hjp]; exact jobF_of j
        have CW : Hid (∀ X, Calls Try.prog 12 #[.int .i64 k, .int .i64 phase] X fun e w' => e = .returned (.tuple #[.bool (wayJ j).1, .bool (wayJ j).2, .int .i64 0]) ∧ Below X.heap.size X w') := fun X => by rw [hjk, hjp]; exact waysP_any j X
        clear hjk hjp
        by_cases hlv : vs.length = m
        · by_cases hlm : ms.length = m
          · have tv : ((vs.length : Int) != (m : Int)) = false := by rw [hlv]; simp
            have tm : ((ms.length : Int) != (m : Int)) = false := by rw [hlm]; simp
            have HLV : Hid (vs.length = m) := hlv
            have HLM : Hid (ms.length = m) := hlm
            have HSTP : Hid (0 ≤ step ∧ step ≤ 100000) := ⟨by omega, by omega⟩
            have lv1 : m ≤ vs.length := by omega
            have lm1 : m ≤ ms.length := by omega
            have lm2 : ms.length ≤ m := by omega
            have HMX : Hid (∀ (c : Nat) (l : List Int), ms[c]? = some l → 0 < manyL (ms.take c) + l.length → mayR m k ⟨step, phase, true, false, vs, ms⟩ = false) := fun c l hl h => may_many hl h (.inr ⟨rfl, .inl rfl⟩)
            have HMR : Hid (∀ (c : Nat) (l : List Int), ms[c]? = some l → risB l = false → mayR m k ⟨step, phase, true, false, vs, ms⟩ = false) := fun c l hl h => may_ris hl h
            have HMW : Hid (∀ (c : Nat) (x : Ml) (l : List Int), c ≤ 199 → vs[c]? = some x → ms[c]? = some l → ((wakeF k (c : Int) s x phase true l).f = 0 ∧ valB j x = true ∧ mailB j l = true) ∨ ((wakeF k (c : Int) s x phase true l).f = 2 ∧ mayR m k ⟨step, phase, true, false, vs, ms⟩ = false)) := fun c x l hc hx hl => may_wake HJ.out hc hx hl
            have HMY : Hid (PreI j vs ms m → manyL ms ≤ 0 → mayR m k ⟨step, phase, true, false, vs, ms⟩ = true) := fun h1 h2 => may_yes HJ.out HSTP.out (by simp) HLV.out HLM.out h1 h2 (by simp)
            have HWK : Hid (∀ X (c : Nat) (x : Ml) (l : List Int), Below W0.heap.size W0 X → vs[c]? = some x → ms[c]? = some l → Calls Try.prog 35 #[.agg #[.int .i64 (m : Int), .slice ea el ec, .int .i64 k, .int .i64 s], .agg #[.int .i64 step, .int .i64 phase, .bool true, .bool false, .slice va vs.length vc, .slice ma ms.length mc], .int .i64 (c : Int)] X (WakP X (wakeF k (c : Int) s x phase true l))) := fun X c x l hX hx hl => rWake_any (.slice ea el ec) (m : Int) k s ⟨step, phase, true, false, vs, ms⟩ _ _ c x l X ⟨_, _, _, rfl⟩ (HVX.out X hX).1 (HVX.out X hX).2 hx hl
            generalize mayR m k ⟨step, phase, true, false, vs, ms⟩ = R at *
            clear hlv hlm
            go_enter Try.func25, Try.ntmps25
            go_upto_region 1 with fail
            rw [← hW0]
            clear hW0
            go_wp2_with fail
            refine (CW.out _).mono ?_
            rintro e w1 ⟨rfl, hb1⟩
            have A1 : Hid (Below W0.heap.size W0 w1) := hb1
            obtain ⟨Q1, T1, _⟩ := HK.out _ hb1
            clear q0 q1 q2 q3 c0 c1 c2 c3 c4 c5 hb1 CW
            obtain ⟨q0, q1, q2, q3⟩ := Q1.all4
            obtain ⟨⟨c0, c1, c2, c3, c4, c5⟩, _⟩ := T1.all6
            clear Q1 T1
            go_wp2_with fail
            clear q0 q1 q2 q3 c0 c1 c2 c3 c4 c5
            go_loopw [8, 66] (fun t i wr => ∃ c : Nat, c ≤ ms.length ∧ i = .int .i64 c ∧ t = .int .i64 ((0 : Int) - (manyL (ms.take c) : Nat)) ∧ manyL (ms.take c) ≤ 0 ∧ PreI j vs ms c ∧ Below W0.heap.size W0 wr) (fun _ i _ => ms.length - (intOf i).toNat)
            case atStart => exact ⟨0, by omega, rfl, rfl, by simp [manyL], fun a x l h => by omega, A1.out⟩
            case round =>
              obtain ⟨c, hc, rfl, rfl, hmy, hpre, hbel⟩ := hrel
              have AB : Hid (Below W0.heap.size W0 wr) := hbel
              have PB : Hid (PreI j vs ms c) := hpre
              obtain ⟨Q1, T1, hbw⟩ := HK.out _ hbel
              obtain ⟨q0, q1, q2, q3⟩ := Q1.all4
              obtain ⟨⟨c0, c1, c2, c3, c4, c5⟩, _⟩ := T1.all6
              have BW : Hid (Below w.heap.size w wr) := hbw
              clear Q1 T1 hbw hpre hbel
              by_cases hlt : c < ms.length
              · obtain ⟨b1, o1, cap1, e1, lt1, hc1, hc2, hv1⟩ := (HVX.out _ AB.out).2.at (by omega)
                injection e1 with e1 _ e3
                subst e1 e3
                obtain ⟨l, hl⟩ := getX hlt
                obtain ⟨x, hx⟩ := getX (show c < vs.length by omega)
                obtain ⟨u, hu, hur⟩ := hv1 c l hl
                have UR : Hid (InR wr u l) := hur
                obtain ⟨ua, uc, rfl, huc, hum, _⟩ := hur
                unfold maxLen at hum
                have p0 : (0 : Int) ≤ (c : Int) := by omega
                have p1 : (c : Int) < (ms.length : Int) := by omega
                have HMT : Hid (manyL (ms.take (c + 1)) = manyL (ms.take c) + l.length) := manyL_take hl
                have HX1 : Hid (0 < manyL (ms.take c) + l.length → R = false) := HMX.out c l hl
                have HX2 : Hid (risB l = false → R = false) := HMR.out c l hl
                have HX3 := HMW.out c x l (by omega) hx hl
                have HPN : Hid (valB j x = true → mailB j l = true → risB l = true → PreI j vs ms (c + 1)) := fun h1 h2 h3 => PB.out.next hx hl h1 h2 h3
                have HWC : Hid (∀ X, Below W0.heap.size W0 X → _) := fun X hX => HWK.out X c x l hX hx hl
                generalize wakeF k (c : Int) s x phase true l = r at *
                have HX4 : Hid ((r.f = 0 ∧ valB j x = true ∧ mailB j l = true) ∨ (r.f = 2 ∧ R = false)) := HX3
                have CS : Hid (∀ X, InR X (.slice ua l.length uc) l → Calls Try.prog 34 #[.slice ua l.length uc] X fun e w' => e = .returned (.bool (risB l)) ∧ Below X.heap.size X w') := fun X hX => isSortI_any _ l X hX
                generalize manyL (ms.take c) = my at *
                clear hv1 hl hx HX3
                obtain ⟨tt, htt⟩ : ∃ t : Int, (0 : Int) - (my : Nat) - (l.length : Int) = t := ⟨_, rfl⟩
                have wn : IntKind.i64.wrap ((0 : Int) - (my : Nat) - (l.length : Int)) = tt := by rw [htt]; exact wrap_id64 (by omega) (by omega)
                by_cases hneg : tt < 0
                · have HE : Hid (R = false) := HX1.out (by omega)
                  go_wp2_with fail
                  go_ret
                  exact ⟨by rw [HE.out]; rfl, BW.out⟩
                · go_wp2_with fail
                  refine (CS.out _ UR.out).mono ?_
                  rintro e w2 ⟨rfl, hb2⟩
                  have A2 : Hid (Below W0.heap.size W0 w2) := AB.out.trans (hb2.mono AB.out.size)
                  obtain ⟨Q1, T1, hbw⟩ := HK.out _ A2.out
                  clear q0 q1 q2 q3 c0 c1 c2 c3 c4 c5 hb2
                  obtain ⟨q0, q1, q2, q3⟩ := Q1.all4
                  obtain ⟨⟨c0, c1, c2, c3, c4, c5⟩, _⟩ := T1.all6
                  have BW2 : Hid (Below w.heap.size w w2) := hbw
                  clear Q1 T1 hbw
                  cases hrb : risB l
                  · have HE : Hid (R = false) := HX2.out hrb
                    clear hrb
                    go_wp2_with fail
                    go_ret
                    exact ⟨by rw [HE.out]; rfl, BW2.out⟩
                  · have HRB : Hid (risB l = true) := hrb
                    clear hrb
                    go_wp2_with fail
                    refine (HWC.out _ A2.out).mono ?_
                    rintro e w3 ⟨rfl, hb3⟩
                    have A3 : Hid (Below W0.heap.size W0 w3) := A2.out.trans (hb3.mono A2.out.size)
                    obtain ⟨_, _, hbw⟩ := HK.out _ A3.out
                    have BW3 : Hid (Below w.heap.size w w3) := hbw
                    have hs3 := hbw.size
                    clear q0 q1 q2 q3 c0 c1 c2 c3 c4 c5 hb3 hbw
                    obtain ⟨⟨rx1, rx2⟩, rb, rf⟩ := r
                    simp only at HX4 ⊢
                    rcases HX4.out with ⟨h1, h2, h3⟩ | ⟨h1, h2⟩
                    · subst h1
                      have HPR : Hid (PreI j vs ms (c + 1)) := HPN.out h2 h3 HRB.out
                      have A4 : Hid (Below W0.heap.size W0 (w3.alloc (.cells #[.int .i64 rx1, .int .i64 rx2] 44))) := A3.out.alloc A3.out.size _
                      clear h2 h3
                      go_wp2_with fail
                      go_roundw
                      case rel => exact ⟨c + 1, by omega, by go_num, by rw [HMT.out]; congr 1; omega, by rw [HMT.out]; omega, HPR.out, A4.out⟩
                      case measure => simp [intOf]; omega
                    · subst h1
                      have HE : Hid (R = false) := h2
                      have A4 : Hid (Below w.heap.size w (w3.alloc (.cells #[.int .i64 rx1, .int .i64 rx2] 44))) := BW3.out.alloc hs3 _
                      clear h2
                      go_wp2_with fail
                      go_ret
                      exact ⟨by rw [HE.out]; rfl, A4.out⟩
              · have HE : Hid (R = true) := by
                  have ec : ms.take c = ms := List.take_of_length_le (by omega)
                  rw [ec] at hmy
                  refine HMY.out (fun a x l ha hx hl => PB.out a x l (by have := (List.getElem?_eq_some_iff.1 hl).1; omega) hx hl) hmy
                clear hmy
                go_wp2_with fail
                go_ret
                exact ⟨by rw [HE.out]; rfl, BW.out⟩
          · have HE : Hid (mayR m k ⟨step, phase, true, false, vs, ms⟩ = false) := mayR_len fun g => hlm g.2
            have tv : ((vs.length : Int) != (m : Int)) = false := by rw [hlv]; simp
            have tm : ((ms.length : Int) != (m : Int)) = true := by simp; omega
            clear hlv
            generalize mayR m k ⟨step, phase, true, false, vs, ms⟩ = R at *
            go_enter Try.func25, Try.ntmps25
            go_upto_region 1 with fail
            rw [← hW0]
            clear hW0
            go_wp2_with fail
            refine (CW.out _).mono ?_
            rintro e w1 ⟨rfl, hb1⟩
            obtain ⟨Q1, T1, hbw⟩ := HK.out _ hb1
            have B1 : Hid (Below w.heap.size w w1) := hbw
            clear q0 q1 q2 q3 c0 c1 c2 c3 c4 c5 hb1 CW
            obtain ⟨q0, q1, q2, q3⟩ := Q1.all4
            obtain ⟨⟨c0, c1, c2, c3, c4, c5⟩, _⟩ := T1.all6
            clear Q1 T1 hbw
            go_wp2_with fail
            go_ret
            exact ⟨by rw [HE.out]; rfl, B1.out⟩
        · have HE : Hid (mayR m k ⟨step, phase, true, false, vs, ms⟩ = false) := mayR_len fun g => hlv g.1
          have tv : ((vs.length : Int) != (m : Int)) = true := by simp; omega
          generalize mayR m k ⟨step, phase, true, false, vs, ms⟩ = R at *
          go_enter Try.func25, Try.ntmps25
          go_upto_region 1 with fail
          rw [← hW0]
          clear hW0
          go_wp2_with fail
          refine (CW.out _).mono ?_
          rintro e w1 ⟨rfl, hb1⟩
          obtain ⟨Q1, T1, hbw⟩ := HK.out _ hb1
          have B1 : Hid (Below w.heap.size w w1) := hbw
          clear q0 q1 q2 q3 c0 c1 c2 c3 c4 c5 hb1 CW
          obtain ⟨q0, q1, q2, q3⟩ := Q1.all4
          obtain ⟨⟨c0, c1, c2, c3, c4, c5⟩, _⟩ := T1.all6
          clear Q1 T1 hbw
          go_wp2_with fail
          go_ret
          exact ⟨by rw [HE.out]; rfl, B1.out⟩
    · have HE : Hid (mayR m k ⟨step, phase, true, true, vs, ms⟩ = false) := by
        rw [show (mayR m k ⟨step, phase, true, true, vs, ms⟩ = false) ↔ ¬ mayR m k ⟨step, phase, true, true, vs, ms⟩ = true from by simp]
        intro g
        obtain ⟨j, hj, h⟩ := mayR_iff.1 g
        exact h.fd ⟨rfl, rfl⟩
      generalize mayR m k ⟨step, phase, true, true, vs, ms⟩ = R at *
      go_enter Try.func25, Try.ntmps25
      go_upto_region 1 with fail
      rw [← hW0]
      clear hW0
      go_wp2_with fail
      go_ret
      exact ⟨by rw [HE.out]; rfl, BH.out⟩
end Go.Proofs.Ytbmkgnlfccigpab
