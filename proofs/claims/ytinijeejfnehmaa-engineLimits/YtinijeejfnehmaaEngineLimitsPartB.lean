/-
  Contract of rounds.mayBe.
  Contract of rounds.check: a job, then a state of it.
  Contract of rounds.Next.
  Contract of rounds.Begin.
  Contract of engine.Limit.
  Contracts of the document's own GraphFault.
  Contract of the document's own JobFault.
  Contract of pacelineref.TaskFault.
  Contracts of the document's own KindMay, Top, ValueMay, leastMail and WaysOf.
  Contract of the document's own StateMay.
  Contract of the document's own StateCopy.
  The document's own Followed, where no round is made: jobs that are refused, states that may not be, that are done, that are full.
  Strong, Back: is the vertex's colour among the mail; what becomes of its value.
  Contract of the document's own Woken.
  Contract of the document's own Said.
  A number put where it belongs among others that rise; contract of the document's own numberIn.
  Mail that is put in order piece by piece.
  What a vertex does, what comes behind a round, rows of other types: small laws that both sides use.
-/
import Derived.Test.YtinijeejfnehmaaEngineLimitsPartA
import Derived.Test.YtinijeejfnehmaaRoundMay
import Derived.Test.YtinijeejfnehmaaProgOpen
import Derived.Test.YtinijeejfnehmaaRndCheck
import Derived.Test.YtinijeejfnehmaaRoundTell
import Derived.Test.YtinijeejfnehmaaTaskCheck
import Derived.Deep.LoopGhost
import Derived.Deep.CutRange
import Derived.Test.YtinijeejfnehmaaCheckFace
import Derived.Test.YtinijeejfnehmaaInWalk
import Derived.Test.YtinijeejfnehmaaRefJob0
import Derived.Test.YtinijeejfnehmaaBoxMem
import Derived.Test.YtinijeejfnehmaaTaskMath
import Derived.Test.YtinijeejfnehmaaProgLower
import Derived.Lib.QuietBelow
import Derived.Test.YtinijeejfnehmaaStaMem
import Derived.Test.YtinijeejfnehmaaMayMath
import Derived.Test.YtinijeejfnehmaaRowMem
import Derived.BigQuiet
import Derived.Test.YtinijeejfnehmaaProgMath
import Derived.Test.YtinijeejfnehmaaRoundMath
import Derived.Test.YtinijeejfnehmaaKeptMem

namespace Go.Proofs.Ytinijeejfnehmaa
set_option maxRecDepth 100000
open Go.ChangeShapes Go.WideShapes Go.ChangeAt Go.RowKit

/-- As far as it was looked at. -/
def PreI (j : Jb) (vs : List Ml) (ms : List (List Int)) (c : Nat) : Prop := ∀ (a : Nat) (x : Ml) (l : List Int), a < c → vs[a]? = some x → ms[a]? = some l → valB j x = true ∧ mailB j l = true ∧ risB l = true
theorem PreI.next {j : Jb} {vs : List Ml} {ms : List (List Int)} {c : Nat} {x : Ml} {l : List Int} (h : PreI j vs ms c) (hx : vs[c]? = some x) (hl : ms[c]? = some l) (h1 : valB j x = true) (h2 : mailB j l = true) (h3 : risB l = true) : PreI j vs ms (c + 1) := fun a y k ha hy hk => by
  by_cases e : a = c
  · subst e
    rw [hx] at hy
    rw [hl] at hk
    injection hy with hy
    injection hk with hk
    subst hy hk
    exact ⟨h1, h2, h3⟩
  · exact h a y k (by omega) hy hk
theorem may_yes {m : Nat} {k step phase : Int} {fr dn : Bool} {vs : List Ml} {ms : List (List Int)} {j : Jb} {top : Nat} (hj : jobF k phase = some j) (hs : 0 ≤ step ∧ step ≤ 100000) (hf : ¬ (fr = true ∧ dn = true)) (h1 : vs.length = m) (h2 : ms.length = m) (hp : PreI j vs ms m) (ht : manyL ms ≤ top) (htop : top ≤ 5000 ∧ (fr = true ∨ dn = true → top = 0)) : mayR m k ⟨step, phase, fr, dn, vs, ms⟩ = true := by
  refine mayR_iff.2 ⟨j, hj, ⟨hs, h1, h2, fun x hx => ?_, fun l hl => ?_, hf, fun h0 => ?_, by show manyL ms ≤ 5000; omega⟩⟩
  · obtain ⟨a, ha, rfl⟩ := List.getElem_of_mem hx
    have ha' : a < vs.length := ha
    obtain ⟨l, hl⟩ := getX (show a < ms.length by omega)
    exact (hp a _ l (by omega) (List.getElem?_eq_getElem ha) hl).1
  · obtain ⟨a, ha, rfl⟩ := List.getElem_of_mem hl
    have ha' : a < ms.length := ha
    obtain ⟨x, hx⟩ := getX (show a < vs.length by omega)
    have := hp a x _ (by omega) hx (List.getElem?_eq_getElem ha)
    exact ⟨this.2.1, by have h3 := this.2.2; unfold risB at h3; exact of_decide_eq_true h3⟩
  · have h0' : 0 < manyL ms := h0
    refine ⟨?_, ?_⟩
    · cases hfr : fr
      · rfl
      · have := htop.2 (.inl hfr); omega
    · cases hdn : dn
      · rfl
      · have := htop.2 (.inr hdn); omega
theorem may_many {m : Nat} {k step phase : Int} {fr dn : Bool} {vs : List Ml} {ms : List (List Int)} {top c : Nat} {l : List Int} (hl : ms[c]? = some l) (hm : top < manyL (ms.take c) + l.length) (htop : (top = 5000 ∨ (top = 0 ∧ (fr = true ∨ dn = true)))) : mayR m k ⟨step, phase, fr, dn, vs, ms⟩ = false := by
  rw [Bool.eq_false_iff]
  intro g
  obtain ⟨j, hj, h⟩ := mayR_iff.1 g
  have h1 : manyL (ms.take c) + l.length ≤ manyL ms := by
    rw [← manyL_take hl]
    conv => rhs; rw [← List.take_append_drop (c + 1) ms]
    unfold manyL
    rw [List.map_append, List.sum_append]
    omega
  have h2 : manyL ms ≤ 5000 := h.few
  rcases htop with e | ⟨e, hf⟩
  · omega
  · have := h.no (show 0 < manyL ms by omega)
    simp only at this
    rcases hf with hf | hf
    · rw [this.1] at hf; cases hf
    · rw [this.2] at hf; cases hf
theorem may_ris {m : Nat} {k step phase : Int} {fr dn : Bool} {vs : List Ml} {ms : List (List Int)} {c : Nat} {l : List Int} (hl : ms[c]? = some l) (hr : risB l = false) : mayR m k ⟨step, phase, fr, dn, vs, ms⟩ = false := by
  rw [Bool.eq_false_iff]
  intro g
  obtain ⟨j, hj, h⟩ := mayR_iff.1 g
  have := (h.mls l (List.mem_of_getElem? hl)).2
  have h2 : risB l = true := decide_eq_true this
  rw [hr] at h2
  cases h2
theorem may_wake {m : Nat} {k s step phase : Int} {fr dn : Bool} {vs : List Ml} {ms : List (List Int)} {c : Nat} {x : Ml} {l : List Int} {j : Jb} (hj : jobF k phase = some j) (hc : c ≤ 199) (hx : vs[c]? = some x) (hl : ms[c]? = some l) :
    ((wakeF k (c : Int) s x phase fr l).f = 0 ∧ valB j x = true ∧ mailB j l = true) ∨ ((wakeF k (c : Int) s x phase fr l).f = 2 ∧ mayR m k ⟨step, phase, fr, dn, vs, ms⟩ = false) := by
  have e : wakeF k (c : Int) s x phase fr l = wakeJ j (c : Int) s x fr l := by unfold wakeF; rw [hj]
  rw [e]
  unfold wakeJ
  have hi : inB (c : Int) 0 199 = true := inB_iff.2 (by omega)
  rw [hi, Bool.true_and]
  by_cases h : (valB j x && mailB j l) = true
  · rw [if_pos h]
    rw [Bool.and_eq_true] at h
    exact .inl ⟨rfl, h.1, h.2⟩
  · rw [if_neg h]
    refine .inr ⟨rfl, ?_⟩
    rw [Bool.eq_false_iff]
    intro g
    obtain ⟨j', hj', h'⟩ := mayR_iff.1 g
    have ej : j' = j := by rw [show jobF k phase = _ from hj'] at hj; exact Option.some.inj hj
    subst ej
    exact h (by rw [Bool.and_eq_true]; exact ⟨h'.val x (List.mem_of_getElem? hx), (h'.mls l (List.mem_of_getElem? hl)).1⟩)

set_option maxHeartbeats 4000000 in
set_option maxRecDepth 100000 in
theorem rMay_any (ea : Option Addr) (el ec m : Nat) (k s : Int) (T : StS) (vv vm : Value) (w : World) (hv : MlR w vv T.vals) (hm : LiR w vm T.mail) (hn : m ≤ 200) :
    Calls Try.prog 36 #[.agg #[.int .i64 (m : Int), .slice ea el ec, .int .i64 k, .int .i64 s], .agg #[.int .i64 T.step, .int .i64 T.phase, .bool T.fresh, .bool T.done, vv, vm]] w fun e w' => e = .returned (.bool (mayR m k T)) ∧ Below w.heap.size w w' := by
  have HV : Hid (MlR w vv T.vals) := hv
  have HM : Hid (LiR w vm T.mail) := hm
  obtain ⟨va, vc, rfl, hvc, hvm, _, _⟩ := hv
  obtain ⟨ma, mc, rfl, hmc, hmm, _⟩ := hm
  unfold maxLen at hvm hmm
  obtain ⟨step, phase, fr, dn, vs, ms⟩ := T
  simp only at HV HM hvc hvm hmc hmm ⊢
  obtain ⟨W0, hW0⟩ : ∃ W0, W0 = (w.alloc (.cells #[.int .i64 (m : Int), .slice ea el ec, .int .i64 k, .int .i64 s] 26)).alloc (.cells #[.int .i64 step, .int .i64 phase, .bool fr, .bool dn, .slice va vs.length vc, .slice ma ms.length mc] 42) := ⟨_, rfl⟩
  obtain ⟨Q0, T0, B0, s1, s2⟩ := boxes2 w #[.int .i64 (m : Int), .slice ea el ec, .int .i64 k, .int .i64 s] #[.int .i64 step, .int .i64 phase, .bool fr, .bool dn, .slice va vs.length vc, .slice ma ms.length mc] 26 42 W0 hW0
  have BH : Hid (Below w.heap.size w W0) := B0
  have HK : Hid (∀ X, Below W0.heap.size W0 X → BX 26 X w.heap.size #[.int .i64 (m : Int), .slice ea el ec, .int .i64 k, .int .i64 s] ∧ BX 42 X (w.heap.size + 1) #[.int .i64 step, .int .i64 phase, .bool fr, .bool dn, .slice va vs.length vc, .slice ma ms.length mc] ∧ Below w.heap.size w X) := fun X hX => ⟨Q0.below hX (by omega), T0.below hX (by omega), BH.out.trans (hX.mono (by omega))⟩
  have HVX : Hid (∀ X, Below W0.heap.size W0 X → MlR X (.slice va vs.length vc) vs ∧ LiR X (.slice ma ms.length mc) ms) := fun X hX => ⟨HV.out.below (HK.out _ hX).2.2 (Nat.le_refl _), HM.out.below (HK.out _ hX).2.2 (Nat.le_refl _)⟩
  obtain ⟨q0, q1, q2, q3⟩ := Q0.all4
  obtain ⟨⟨c0, c1, c2, c3, c4, c5⟩, _⟩ := T0.all6
  clear Q0 T0 B0
  by_cases g1 : step < 0
  · have HE : Hid (mayR m k ⟨step, phase, fr, dn, vs, ms⟩ = false) := mayR_step (by rw [Bool.eq_false_iff]; intro g; have := inB_iff.1 g; simp only at this; omega)
    generalize mayR m k ⟨step, phase, fr, dn, vs, ms⟩ = R at *
    go_enter Try.func36, Try.ntmps36
    go_upto_region 1 with fail
    rw [← hW0]
    clear hW0
    go_wp2_with fail
    go_ret
    exact ⟨by rw [HE.out]; rfl, BH.out⟩
  by_cases g2 : 100000 < step
  · have HE : Hid (mayR m k ⟨step, phase, fr, dn, vs, ms⟩ = false) := mayR_step (by rw [Bool.eq_false_iff]; intro g; have := inB_iff.1 g; simp only at this; omega)
    generalize mayR m k ⟨step, phase, fr, dn, vs, ms⟩ = R at *
    go_enter Try.func36, Try.ntmps36
    go_upto_region 1 with fail
    rw [← hW0]
    clear hW0
    go_wp2_with fail
    go_ret
    exact ⟨by rw [HE.out]; rfl, BH.out⟩
  cases fr
  · cases dn
    · rcases jobF_cases k phase with hnone | ⟨j, hjk, hjp⟩
      · have HE : Hid (mayR m k ⟨step, phase, false, false, vs, ms⟩ = false) := mayR_none hnone.1
        have CW : Hid (∀ X, Calls Try.prog 20 #[.int .i64 k, .int .i64 phase] X fun e w' => e = .returned (.tuple #[.bool false, .bool false, .int .i64 3]) ∧ Below X.heap.size X w') := fun X => waysP_none hnone.2 X
        generalize mayR m k ⟨step, phase, false, false, vs, ms⟩ = R at *
        clear hnone
        go_enter Try.func36, Try.ntmps36
        go_upto_region 1 with fail
        rw [← hW0]
        clear hW0
        go_wp2_with fail
        refine (CW.out _).mono ?_
        rintro e w1 ⟨rfl, hb1⟩
        have B1 : Hid (Below w.heap.size w w1) := (HK.out _ hb1).2.2
        clear hb1
        go_wp2_with fail
        go_ret
        exact ⟨by rw [HE.out]; rfl, B1.out⟩
      · have HJ : Hid (jobF k phase = some j) := by show jobF k phase = some j; rw [hjk, hjp]; exact jobF_of j
        have CW : Hid (∀ X, Calls Try.prog 20 #[.int .i64 k, .int .i64 phase] X fun e w' => e = .returned (.tuple #[.bool (wayJ j).1, .bool (wayJ j).2, .int .i64 0]) ∧ Below X.heap.size X w') := fun X => by rw [hjk, hjp]; exact waysP_any j X
        clear hjk hjp
        by_cases hlv : vs.length = m
        · by_cases hlm : ms.length = m
          · have tv : ((vs.length : Int) != (m : Int)) = false := by rw [hlv]; simp
            have tm : ((ms.length : Int) != (m : Int)) = false := by rw [hlm]; simp
            have HLV : Hid (vs.length = m) := hlv
            have HLM : Hid (ms.length = m) := hlm
            have HSTP : Hid (0 ≤ step ∧ step ≤ 100000) := ⟨by omega, by omega⟩
            have lv1 : m ≤ vs.length := by omega
            have lm1 : m ≤ ms.length := by omega
            have lm2 : ms.length ≤ m := by omega
            have HMX : Hid (∀ (c : Nat) (l : List Int), ms[c]? = some l → 5000 < manyL (ms.take c) + l.length → mayR m k ⟨step, phase, false, false, vs, ms⟩ = false) := fun c l hl h => may_many hl h (.inl rfl)
            have HMR : Hid (∀ (c : Nat) (l : List Int), ms[c]? = some l → risB l = false → mayR m k ⟨step, phase, false, false, vs, ms⟩ = false) := fun c l hl h => may_ris hl h
            have HMW : Hid (∀ (c : Nat) (x : Ml) (l : List Int), c ≤ 199 → vs[c]? = some x → ms[c]? = some l → ((wakeF k (c : Int) s x phase false l).f = 0 ∧ valB j x = true ∧ mailB j l = true) ∨ ((wakeF k (c : Int) s x phase false l).f = 2 ∧ mayR m k ⟨step, phase, false, false, vs, ms⟩ = false)) := fun c x l hc hx hl => may_wake HJ.out hc hx hl
            have HMY : Hid (PreI j vs ms m → manyL ms ≤ 5000 → mayR m k ⟨step, phase, false, false, vs, ms⟩ = true) := fun h1 h2 => may_yes HJ.out HSTP.out (by simp) HLV.out HLM.out h1 h2 (by simp)
            have HWK : Hid (∀ X (c : Nat) (x : Ml) (l : List Int), Below W0.heap.size W0 X → vs[c]? = some x → ms[c]? = some l → Calls Try.prog 48 #[.agg #[.int .i64 (m : Int), .slice ea el ec, .int .i64 k, .int .i64 s], .agg #[.int .i64 step, .int .i64 phase, .bool false, .bool false, .slice va vs.length vc, .slice ma ms.length mc], .int .i64 (c : Int)] X (WakP X (wakeF k (c : Int) s x phase false l))) := fun X c x l hX hx hl => rWake_any (.slice ea el ec) (m : Int) k s ⟨step, phase, false, false, vs, ms⟩ _ _ c x l X ⟨_, _, _, rfl⟩ (HVX.out X hX).1 (HVX.out X hX).2 hx hl
            generalize mayR m k ⟨step, phase, false, false, vs, ms⟩ = R at *
            clear hlv hlm
            go_enter Try.func36, Try.ntmps36
            go_upto_region 1 with fail
            rw [← hW0]
            clear hW0
            go_wp2_with fail
            refine (CW.out _).mono ?_
            rintro e w1 ⟨rfl, hb1⟩
            have A1 : Hid (Below W0.heap.size W0 w1) := hb1
            obtain ⟨Q1, T1, _⟩ := HK.out _ hb1
            clear q0 q1 q2 q3 c0 c1 c2 c3 c4 c5 hb1 CW
            obtain ⟨q0, q1, q2, q3⟩ := Q1.all4
            obtain ⟨⟨c0, c1, c2, c3, c4, c5⟩, _⟩ := T1.all6
            clear Q1 T1
            go_wp2_with fail
            clear q0 q1 q2 q3 c0 c1 c2 c3 c4 c5
            go_loopw [8, 66] (fun t i wr => ∃ c : Nat, c ≤ ms.length ∧ i = .int .i64 c ∧ t = .int .i64 ((5000 : Int) - (manyL (ms.take c) : Nat)) ∧ manyL (ms.take c) ≤ 5000 ∧ PreI j vs ms c ∧ Below W0.heap.size W0 wr) (fun _ i _ => ms.length - (intOf i).toNat)
            case atStart => exact ⟨0, by omega, rfl, rfl, by simp [manyL], fun a x l h => by omega, A1.out⟩
            case round =>
              obtain ⟨c, hc, rfl, rfl, hmy, hpre, hbel⟩ := hrel
              have AB : Hid (Below W0.heap.size W0 wr) := hbel
              have PB : Hid (PreI j vs ms c) := hpre
              obtain ⟨Q1, T1, hbw⟩ := HK.out _ hbel
              obtain ⟨q0, q1, q2, q3⟩ := Q1.all4
              obtain ⟨⟨c0, c1, c2, c3, c4, c5⟩, _⟩ := T1.all6
              have BW : Hid (Below w.heap.size w wr) := hbw
              clear Q1 T1 hbw hpre hbel
              by_cases hlt : c < ms.length
              · obtain ⟨b1, o1, cap1, e1, lt1, hc1, hc2, hv1⟩ := (HVX.out _ AB.out).2.at (by omega)
                injection e1 with e1 _ e3
                subst e1 e3
                obtain ⟨l, hl⟩ := getX hlt
                obtain ⟨x, hx⟩ := getX (show c < vs.length by omega)
                obtain ⟨u, hu, hur⟩ := hv1 c l hl
                have UR : Hid (InR wr u l) := hur
                obtain ⟨ua, uc, rfl, huc, hum, _⟩ := hur
                unfold maxLen at hum
                have p0 : (0 : Int) ≤ (c : Int) := by omega
                have p1 : (c : Int) < (ms.length : Int) := by omega
                have HMT : Hid (manyL (ms.take (c + 1)) = manyL (ms.take c) + l.length) := manyL_take hl
                have HX1 : Hid (5000 < manyL (ms.take c) + l.length → R = false) := HMX.out c l hl
                have HX2 : Hid (risB l = false → R = false) := HMR.out c l hl
                have HX3 := HMW.out c x l (by omega) hx hl
                have HPN : Hid (valB j x = true → mailB j l = true → risB l = true → PreI j vs ms (c + 1)) := fun h1 h2 h3 => PB.out.next hx hl h1 h2 h3
                have HWC : Hid (∀ X, Below W0.heap.size W0 X → _) := fun X hX => HWK.out X c x l hX hx hl
                generalize wakeF k (c : Int) s x phase false l = r at *
                have HX4 : Hid ((r.f = 0 ∧ valB j x = true ∧ mailB j l = true) ∨ (r.f = 2 ∧ R = false)) := HX3
                have CS : Hid (∀ X, InR X (.slice ua l.length uc) l → Calls Try.prog 47 #[.slice ua l.length uc] X fun e w' => e = .returned (.bool (risB l)) ∧ Below X.heap.size X w') := fun X hX => isSortI_any _ l X hX
                generalize manyL (ms.take c) = my at *
                clear hv1 hl hx HX3
                obtain ⟨tt, htt⟩ : ∃ t : Int, (5000 : Int) - (my : Nat) - (l.length : Int) = t := ⟨_, rfl⟩
                have wn : IntKind.i64.wrap ((5000 : Int) - (my : Nat) - (l.length : Int)) = tt := by rw [htt]; exact wrap_id64 (by omega) (by omega)
                by_cases hneg : tt < 0
                · have HE : Hid (R = false) := HX1.out (by omega)
                  go_wp2_with fail
                  go_ret
                  exact ⟨by rw [HE.out]; rfl, BW.out⟩
                · go_wp2_with fail
                  refine (CS.out _ UR.out).mono ?_
                  rintro e w2 ⟨rfl, hb2⟩
                  have A2 : Hid (Below W0.heap.size W0 w2) := AB.out.trans (hb2.mono AB.out.size)
                  obtain ⟨Q1, T1, hbw⟩ := HK.out _ A2.out
                  clear q0 q1 q2 q3 c0 c1 c2 c3 c4 c5 hb2
                  obtain ⟨q0, q1, q2, q3⟩ := Q1.all4
                  obtain ⟨⟨c0, c1, c2, c3, c4, c5⟩, _⟩ := T1.all6
                  have BW2 : Hid (Below w.heap.size w w2) := hbw
                  clear Q1 T1 hbw
                  cases hrb : risB l
                  · have HE : Hid (R = false) := HX2.out hrb
                    clear hrb
                    go_wp2_with fail
                    go_ret
                    exact ⟨by rw [HE.out]; rfl, BW2.out⟩
                  · have HRB : Hid (risB l = true) := hrb
                    clear hrb
                    go_wp2_with fail
                    refine (HWC.out _ A2.out).mono ?_
                    rintro e w3 ⟨rfl, hb3⟩
                    have A3 : Hid (Below W0.heap.size W0 w3) := A2.out.trans (hb3.mono A2.out.size)
                    obtain ⟨_, _, hbw⟩ := HK.out _ A3.out
                    have BW3 : Hid (Below w.heap.size w w3) := hbw
                    have hs3 := hbw.size
                    clear q0 q1 q2 q3 c0 c1 c2 c3 c4 c5 hb3 hbw
                    obtain ⟨⟨rx1, rx2⟩, rb, rf⟩ := r
                    simp only at HX4 ⊢
                    rcases HX4.out with ⟨h1, h2, h3⟩ | ⟨h1, h2⟩
                    · subst h1
                      have HPR : Hid (PreI j vs ms (c + 1)) := HPN.out h2 h3 HRB.out
                      have A4 : Hid (Below W0.heap.size W0 (w3.alloc (.cells #[.int .i64 rx1, .int .i64 rx2] 53))) := A3.out.alloc A3.out.size _
                      clear h2 h3
                      go_wp2_with fail
                      go_roundw
                      case rel => exact ⟨c + 1, by omega, by go_num, by rw [HMT.out]; congr 1; omega, by rw [HMT.out]; omega, HPR.out, A4.out⟩
                      case measure => simp [intOf]; omega
                    · subst h1
                      have HE : Hid (R = false) := h2
                      have A4 : Hid (Below w.heap.size w (w3.alloc (.cells #[.int .i64 rx1, .int .i64 rx2] 53))) := BW3.out.alloc hs3 _
                      clear h2
                      go_wp2_with fail
                      go_ret
                      exact ⟨by rw [HE.out]; rfl, A4.out⟩
              · have HE : Hid (R = true) := by
                  have ec : ms.take c = ms := List.take_of_length_le (by omega)
                  rw [ec] at hmy
                  refine HMY.out (fun a x l ha hx hl => PB.out a x l (by have := (List.getElem?_eq_some_iff.1 hl).1; omega) hx hl) hmy
                clear hmy
                go_wp2_with fail
                go_ret
                exact ⟨by rw [HE.out]; rfl, BW.out⟩
          · have HE : Hid (mayR m k ⟨step, phase, false, false, vs, ms⟩ = false) := mayR_len fun g => hlm g.2
            have tv : ((vs.length : Int) != (m : Int)) = false := by rw [hlv]; simp
            have tm : ((ms.length : Int) != (m : Int)) = true := by simp; omega
            clear hlv
            generalize mayR m k ⟨step, phase, false, false, vs, ms⟩ = R at *
            go_enter Try.func36, Try.ntmps36
            go_upto_region 1 with fail
            rw [← hW0]
            clear hW0
            go_wp2_with fail
            refine (CW.out _).mono ?_
            rintro e w1 ⟨rfl, hb1⟩
            obtain ⟨Q1, T1, hbw⟩ := HK.out _ hb1
            have B1 : Hid (Below w.heap.size w w1) := hbw
            clear q0 q1 q2 q3 c0 c1 c2 c3 c4 c5 hb1 CW
            obtain ⟨q0, q1, q2, q3⟩ := Q1.all4
            obtain ⟨⟨c0, c1, c2, c3, c4, c5⟩, _⟩ := T1.all6
            clear Q1 T1 hbw
            go_wp2_with fail
            go_ret
            exact ⟨by rw [HE.out]; rfl, B1.out⟩
        · have HE : Hid (mayR m k ⟨step, phase, false, false, vs, ms⟩ = false) := mayR_len fun g => hlv g.1
          have tv : ((vs.length : Int) != (m : Int)) = true := by simp; omega
          generalize mayR m k ⟨step, phase, false, false, vs, ms⟩ = R at *
          go_enter Try.func36, Try.ntmps36
          go_upto_region 1 with fail
          rw [← hW0]
          clear hW0
          go_wp2_with fail
          refine (CW.out _).mono ?_
          rintro e w1 ⟨rfl, hb1⟩
          obtain ⟨Q1, T1, hbw⟩ := HK.out _ hb1
          have B1 : Hid (Below w.heap.size w w1) := hbw
          clear q0 q1 q2 q3 c0 c1 c2 c3 c4 c5 hb1 CW
          obtain ⟨q0, q1, q2, q3⟩ := Q1.all4
          obtain ⟨⟨c0, c1, c2, c3, c4, c5⟩, _⟩ := T1.all6
          clear Q1 T1 hbw
          go_wp2_with fail
          go_ret
          exact ⟨by rw [HE.out]; rfl, B1.out⟩
    · rcases jobF_cases k phase with hnone | ⟨j, hjk, hjp⟩
      · have HE : Hid (mayR m k ⟨step, phase, false, true, vs, ms⟩ = false) := mayR_none hnone.1
        have CW : Hid (∀ X, Calls Try.prog 20 #[.int .i64 k, .int .i64 phase] X fun e w' => e = .returned (.tuple #[.bool false, .bool false, .int .i64 3]) ∧ Below X.heap.size X w') := fun X => waysP_none hnone.2 X
        generalize mayR m k ⟨step, phase, false, true, vs, ms⟩ = R at *
        clear hnone
        go_enter Try.func36, Try.ntmps36
        go_upto_region 1 with fail
        rw [← hW0]
        clear hW0
        go_wp2_with fail
        refine (CW.out _).mono ?_
        rintro e w1 ⟨rfl, hb1⟩
        have B1 : Hid (Below w.heap.size w w1) := (HK.out _ hb1).2.2
        clear hb1
        go_wp2_with fail
        go_ret
        exact ⟨by rw [HE.out]; rfl, B1.out⟩
      · have HJ : Hid (jobF k phase = some j) := by show jobF k phase = some j; rw [hjk, hjp]; exact jobF_of j
        have CW : Hid (∀ X, Calls Try.prog 20 #[.int .i64 k, .int .i64 phase] X fun e w' => e = .returned (.tuple #[.bool (wayJ j).1, .bool (wayJ j).2, .int .i64 0]) ∧ Below X.heap.size X w') := fun X => by rw [hjk, hjp]; exact waysP_any j X
        clear hjk hjp
        by_cases hlv : vs.length = m
        · by_cases hlm : ms.length = m
          · have tv : ((vs.length : Int) != (m : Int)) = false := by rw [hlv]; simp
            have tm : ((ms.length : Int) != (m : Int)) = false := by rw [hlm]; simp
            have HLV : Hid (vs.length = m) := hlv
            have HLM : Hid (ms.length = m) := hlm
            have HSTP : Hid (0 ≤ step ∧ step ≤ 100000) := ⟨by omega, by omega⟩
            have lv1 : m ≤ vs.length := by omega
            have lm1 : m ≤ ms.length := by omega
            have lm2 : ms.length ≤ m := by omega
            have HMX : Hid (∀ (c : Nat) (l : List Int), ms[c]? = some l → 0 < manyL (ms.take c) + l.length → mayR m k ⟨step, phase, false, true, vs, ms⟩ = false) := fun c l hl h => may_many hl h (.inr ⟨rfl, .inr rfl⟩)
            have HMR : Hid (∀ (c : Nat) (l : List Int), ms[c]? = some l → risB l = false → mayR m k ⟨step, phase, false, true, vs, ms⟩ = false) := fun c l hl h => may_ris hl h
            have HMW : Hid (∀ (c : Nat) (x : Ml) (l : List Int), c ≤ 199 → vs[c]? = some x → ms[c]? = some l → ((wakeF k (c : Int) s x phase false l).f = 0 ∧ valB j x = true ∧ mailB j l = true) ∨ ((wakeF k (c : Int) s x phase false l).f = 2 ∧ mayR m k ⟨step, phase, false, true, vs, ms⟩ = false)) := fun c x l hc hx hl => may_wake HJ.out hc hx hl
            have HMY : Hid (PreI j vs ms m → manyL ms ≤ 0 → mayR m k ⟨step, phase, false, true, vs, ms⟩ = true) := fun h1 h2 => may_yes HJ.out HSTP.out (by simp) HLV.out HLM.out h1 h2 (by simp)
            have HWK : Hid (∀ X (c : Nat) (x : Ml) (l : List Int), Below W0.heap.size W0 X → vs[c]? = some x → ms[c]? = some l → Calls Try.prog 48 #[.agg #[.int .i64 (m : Int), .slice ea el ec, .int .i64 k, .int .i64 s], .agg #[.int .i64 step, .int .i64 phase, .bool false, .bool true, .slice va vs.length vc, .slice ma ms.length mc], .int .i64 (c : Int)] X (WakP X (wakeF k (c : Int) s x phase false l))) := fun X c x l hX hx hl => rWake_any (.slice ea el ec) (m : Int) k s ⟨step, phase, false, true, vs, ms⟩ _ _ c x l X ⟨_, _, _, rfl⟩ (HVX.out X hX).1 (HVX.out X hX).2 hx hl
            generalize mayR m k ⟨step, phase, false, true, vs, ms⟩ = R at *
            clear hlv hlm
            go_enter Try.func36, Try.ntmps36
            go_upto_region 1 with fail
            rw [← hW0]
            clear hW0
            go_wp2_with fail
            refine (CW.out _).mono ?_
            rintro e w1 ⟨rfl, hb1⟩
            have A1 : Hid (Below W0.heap.size W0 w1) := hb1
            obtain ⟨Q1, T1, _⟩ := HK.out _ hb1
            clear q0 q1 q2 q3 c0 c1 c2 c3 c4 c5 hb1 CW
            obtain ⟨q0, q1, q2, q3⟩ := Q1.all4
            obtain ⟨⟨c0, c1, c2, c3, c4, c5⟩, _⟩ := T1.all6
            clear Q1 T1
            go_wp2_with fail
            clear q0 q1 q2 q3 c0 c1 c2 c3 c4 c5
            go_loopw [8, 66] (fun t i wr => ∃ c : Nat, c ≤ ms.length ∧ i = .int .i64 c ∧ t = .int .i64 ((0 : Int) - (manyL (ms.take c) : Nat)) ∧ manyL (ms.take c) ≤ 0 ∧ PreI j vs ms c ∧ Below W0.heap.size W0 wr) (fun _ i _ => ms.length - (intOf i).toNat)
            case atStart => exact ⟨0, by omega, rfl, rfl, by simp [manyL], fun a x l h => by omega, A1.out⟩
            case round =>
              obtain ⟨c, hc, rfl, rfl, hmy, hpre, hbel⟩ := hrel
              have AB : Hid (Below W0.heap.size W0 wr) := hbel
              have PB : Hid (PreI j vs ms c) := hpre
              obtain ⟨Q1, T1, hbw⟩ := HK.out _ hbel
              obtain ⟨q0, q1, q2, q3⟩ := Q1.all4
              obtain ⟨⟨c0, c1, c2, c3, c4, c5⟩, _⟩ := T1.all6
              have BW : Hid (Below w.heap.size w wr) := hbw
              clear Q1 T1 hbw hpre hbel
              by_cases hlt : c < ms.length
              · obtain ⟨b1, o1, cap1, e1, lt1, hc1, hc2, hv1⟩ := (HVX.out _ AB.out).2.at (by omega)
                injection e1 with e1 _ e3
                subst e1 e3
                obtain ⟨l, hl⟩ := getX hlt
                obtain ⟨x, hx⟩ := getX (show c < vs.length by omega)
                obtain ⟨u, hu, hur⟩ := hv1 c l hl
                have UR : Hid (InR wr u l) := hur
                obtain ⟨ua, uc, rfl, huc, hum, _⟩ := hur
                unfold maxLen at hum
                have p0 : (0 : Int) ≤ (c : Int) := by omega
                have p1 : (c : Int) < (ms.length : Int) := by omega
                have HMT : Hid (manyL (ms.take (c + 1)) = manyL (ms.take c) + l.length) := manyL_take hl
                have HX1 : Hid (0 < manyL (ms.take c) + l.length → R = false) := HMX.out c l hl
                have HX2 : Hid (risB l = false → R = false) := HMR.out c l hl
                have HX3 := HMW.out c x l (by omega) hx hl
                have HPN : Hid (valB j x = true → mailB j l = true → risB l = true → PreI j vs ms (c + 1)) := fun h1 h2 h3 => PB.out.next hx hl h1 h2 h3
                have HWC : Hid (∀ X, Below W0.heap.size W0 X → _) := fun X hX => HWK.out X c x l hX hx hl
                generalize wakeF k (c : Int) s x phase false l = r at *
                have HX4 : Hid ((r.f = 0 ∧ valB j x = true ∧ mailB j l = true) ∨ (r.f = 2 ∧ R = false)) := HX3
                have CS : Hid (∀ X, InR X (.slice ua l.length uc) l → Calls Try.prog 47 #[.slice ua l.length uc] X fun e w' => e = .returned (.bool (risB l)) ∧ Below X.heap.size X w') := fun X hX => isSortI_any _ l X hX
                generalize manyL (ms.take c) = my at *
                clear hv1 hl hx HX3
                obtain ⟨tt, htt⟩ : ∃ t : Int, (0 : Int) - (my : Nat) - (l.length : Int) = t := ⟨_, rfl⟩
                have wn : IntKind.i64.wrap ((0 : Int) - (my : Nat) - (l.length : Int)) = tt := by rw [htt]; exact wrap_id64 (by omega) (by omega)
                by_cases hneg : tt < 0
                · have HE : Hid (R = false) := HX1.out (by omega)
                  go_wp2_with fail
                  go_ret
                  exact ⟨by rw [HE.out]; rfl, BW.out⟩
                · go_wp2_with fail
                  refine (CS.out _ UR.out).mono ?_
                  rintro e w2 ⟨rfl, hb2⟩
                  have A2 : Hid (Below W0.heap.size W0 w2) := AB.out.trans (hb2.mono AB.out.size)
                  obtain ⟨Q1, T1, hbw⟩ := HK.out _ A2.out
                  clear q0 q1 q2 q3 c0 c1 c2 c3 c4 c5 hb2
                  obtain ⟨q0, q1, q2, q3⟩ := Q1.all4
                  obtain ⟨⟨c0, c1, c2, c3, c4, c5⟩, _⟩ := T1.all6
                  have BW2 : Hid (Below w.heap.size w w2) := hbw
                  clear Q1 T1 hbw
                  cases hrb : risB l
                  · have HE : Hid (R = false) := HX2.out hrb
                    clear hrb
                    go_wp2_with fail
                    go_ret
                    exact ⟨by rw [HE.out]; rfl, BW2.out⟩
                  · have HRB : Hid (risB l = true) := hrb
                    clear hrb
                    go_wp2_with fail
                    refine (HWC.out _ A2.out).mono ?_
                    rintro e w3 ⟨rfl, hb3⟩
                    have A3 : Hid (Below W0.heap.size W0 w3) := A2.out.trans (hb3.mono A2.out.size)
                    obtain ⟨_, _, hbw⟩ := HK.out _ A3.out
                    have BW3 : Hid (Below w.heap.size w w3) := hbw
                    have hs3 := hbw.size
                    clear q0 q1 q2 q3 c0 c1 c2 c3 c4 c5 hb3 hbw
                    obtain ⟨⟨rx1, rx2⟩, rb, rf⟩ := r
                    simp only at HX4 ⊢
                    rcases HX4.out with ⟨h1, h2, h3⟩ | ⟨h1, h2⟩
                    · subst h1
                      have HPR : Hid (PreI j vs ms (c + 1)) := HPN.out h2 h3 HRB.out
                      have A4 : Hid (Below W0.heap.size W0 (w3.alloc (.cells #[.int .i64 rx1, .int .i64 rx2] 53))) := A3.out.alloc A3.out.size _
                      clear h2 h3
                      go_wp2_with fail
                      go_roundw
                      case rel => exact ⟨c + 1, by omega, by go_num, by rw [HMT.out]; congr 1; omega, by rw [HMT.out]; omega, HPR.out, A4.out⟩
                      case measure => simp [intOf]; omega
                    · subst h1
                      have HE : Hid (R = false) := h2
                      have A4 : Hid (Below w.heap.size w (w3.alloc (.cells #[.int .i64 rx1, .int .i64 rx2] 53))) := BW3.out.alloc hs3 _
                      clear h2
                      go_wp2_with fail
                      go_ret
                      exact ⟨by rw [HE.out]; rfl, A4.out⟩
              · have HE : Hid (R = true) := by
                  have ec : ms.take c = ms := List.take_of_length_le (by omega)
                  rw [ec] at hmy
                  refine HMY.out (fun a x l ha hx hl => PB.out a x l (by have := (List.getElem?_eq_some_iff.1 hl).1; omega) hx hl) hmy
                clear hmy
                go_wp2_with fail
                go_ret
                exact ⟨by rw [HE.out]; rfl, BW.out⟩
          · have HE : Hid (mayR m k ⟨step, phase, false, true, vs, ms⟩ = false) := mayR_len fun g => hlm g.2
            have tv : ((vs.length : Int) != (m : Int)) = false := by rw [hlv]; simp
            have tm : ((ms.length : Int) != (m : Int)) = true := by simp; omega
            clear hlv
            generalize mayR m k ⟨step, phase, false, true, vs, ms⟩ = R at *
            go_enter Try.func36, Try.ntmps36
            go_upto_region 1 with fail
            rw [← hW0]
            clear hW0
            go_wp2_with fail
            refine (CW.out _).mono ?_
            rintro e w1 ⟨rfl, hb1⟩
            obtain ⟨Q1, T1, hbw⟩ := HK.out _ hb1
            have B1 : Hid (Below w.heap.size w w1) := hbw
            clear q0 q1 q2 q3 c0 c1 c2 c3 c4 c5 hb1 CW
            obtain ⟨q0, q1, q2, q3⟩ := Q1.all4
            obtain ⟨⟨c0, c1, c2, c3, c4, c5⟩, _⟩ := T1.all6
            clear Q1 T1 hbw
            go_wp2_with fail
            go_ret
            exact ⟨by rw [HE.out]; rfl, B1.out⟩
        · have HE : Hid (mayR m k ⟨step, phase, false, true, vs, ms⟩ = false) := mayR_len fun g => hlv g.1
          have tv : ((vs.length : Int) != (m : Int)) = true := by simp; omega
          generalize mayR m k ⟨step, phase, false, true, vs, ms⟩ = R at *
          go_enter Try.func36, Try.ntmps36
          go_upto_region 1 with fail
          rw [← hW0]
          clear hW0
          go_wp2_with fail
          refine (CW.out _).mono ?_
          rintro e w1 ⟨rfl, hb1⟩
          obtain ⟨Q1, T1, hbw⟩ := HK.out _ hb1
          have B1 : Hid (Below w.heap.size w w1) := hbw
          clear q0 q1 q2 q3 c0 c1 c2 c3 c4 c5 hb1 CW
          obtain ⟨q0, q1, q2, q3⟩ := Q1.all4
          obtain ⟨⟨c0, c1, c2, c3, c4, c5⟩, _⟩ := T1.all6
          clear Q1 T1 hbw
          go_wp2_with fail
          go_ret
          exact ⟨by rw [HE.out]; rfl, B1.out⟩
  · cases dn
    · rcases jobF_cases k phase with hnone | ⟨j, hjk, hjp⟩
      · have HE : Hid (mayR m k ⟨step, phase, true, false, vs, ms⟩ = false) := mayR_none hnone.1
        have CW : Hid (∀ X, Calls Try.prog 20 #[.int .i64 k, .int .i64 phase] X fun e w' => e = .returned (.tuple #[.bool false, .bool false, .int .i64 3]) ∧ Below X.heap.size X w') := fun X => waysP_none hnone.2 X
        generalize mayR m k ⟨step, phase, true, false, vs, ms⟩ = R at *
        clear hnone
        go_enter Try.func36, Try.ntmps36
        go_upto_region 1 with fail
        rw [← hW0]
        clear hW0
        go_wp2_with fail
        refine (CW.out _).mono ?_
        rintro e w1 ⟨rfl, hb1⟩
        have B1 : Hid (Below w.heap.size w w1) := (HK.out _ hb1).2.2
        clear hb1
        go_wp2_with fail
        go_ret
        exact ⟨by rw [HE.out]; rfl, B1.out⟩
      · have HJ : Hid (jobF k phase = some j) := by show jobF k phase = some j; rw [hjk, hjp]; exact jobF_of j
        have CW : Hid (∀ X, Calls Try.prog 20 #[.int .i64 k, .int .i64 phase] X fun e w' => e = .returned (.tuple #[.bool (wayJ j).1, .bool (wayJ j).2, .int .i64 0]) ∧ Below X.heap.size X w') := fun X => by rw [hjk, hjp]; exact waysP_any j X
        clear hjk hjp
        by_cases hlv : vs.length = m
        · by_cases hlm : ms.length = m
          · have tv : ((vs.length : Int) != (m : Int)) = false := by rw [hlv]; simp
            have tm : ((ms.length : Int) != (m : Int)) = false := by rw [hlm]; simp
            have HLV : Hid (vs.length = m) := hlv
            have HLM : Hid (ms.length = m) := hlm
            have HSTP : Hid (0 ≤ step ∧ step ≤ 100000) := ⟨by omega, by omega⟩
            have lv1 : m ≤ vs.length := by omega
            have lm1 : m ≤ ms.length := by omega
            have lm2 : ms.length ≤ m := by omega
            have HMX : Hid (∀ (c : Nat) (l : List Int), ms[c]? = some l → 0 < manyL (ms.take c) + l.length → mayR m k ⟨step, phase, true, false, vs, ms⟩ = false) := fun c l hl h => may_many hl h (.inr ⟨rfl, .inl rfl⟩)
            have HMR : Hid (∀ (c : Nat) (l : List Int), ms[c]? = some l → risB l = false → mayR m k ⟨step, phase, true, false, vs, ms⟩ = false) := fun c l hl h => may_ris hl h
            have HMW : Hid (∀ (c : Nat) (x : Ml) (l : List Int), c ≤ 199 → vs[c]? = some x → ms[c]? = some l → ((wakeF k (c : Int) s x phase true l).f = 0 ∧ valB j x = true ∧ mailB j l = true) ∨ ((wakeF k (c : Int) s x phase true l).f = 2 ∧ mayR m k ⟨step, phase, true, false, vs, ms⟩ = false)) := fun c x l hc hx hl => may_wake HJ.out hc hx hl
            have HMY : Hid (PreI j vs ms m → manyL ms ≤ 0 → mayR m k ⟨step, phase, true, false, vs, ms⟩ = true) := fun h1 h2 => may_yes HJ.out HSTP.out (by simp) HLV.out HLM.out h1 h2 (by simp)
            have HWK : Hid (∀ X (c : Nat) (x : Ml) (l : List Int), Below W0.heap.size W0 X → vs[c]? = some x → ms[c]? = some l → Calls Try.prog 48 #[.agg #[.int .i64 (m : Int), .slice ea el ec, .int .i64 k, .int .i64 s], .agg #[.int .i64 step, .int .i64 phase, .bool true, .bool false, .slice va vs.length vc, .slice ma ms.length mc], .int .i64 (c : Int)] X (WakP X (wakeF k (c : Int) s x phase true l))) := fun X c x l hX hx hl => rWake_any (.slice ea el ec) (m : Int) k s ⟨step, phase, true, false, vs, ms⟩ _ _ c x l X ⟨_, _, _, rfl⟩ (HVX.out X hX).1 (HVX.out X hX).2 hx hl
            generalize mayR m k ⟨step, phase, true, false, vs, ms⟩ = R at *
            clear hlv hlm
            go_enter Try.func36, Try.ntmps36
            go_upto_region 1 with fail
            rw [← hW0]
            clear hW0
            go_wp2_with fail
            refine (CW.out _).mono ?_
            rintro e w1 ⟨rfl, hb1⟩
            have A1 : Hid (Below W0.heap.size W0 w1) := hb1
            obtain ⟨Q1, T1, _⟩ := HK.out _ hb1
            clear q0 q1 q2 q3 c0 c1 c2 c3 c4 c5 hb1 CW
            obtain ⟨q0, q1, q2, q3⟩ := Q1.all4
            obtain ⟨⟨c0, c1, c2, c3, c4, c5⟩, _⟩ := T1.all6
            clear Q1 T1
            go_wp2_with fail
            clear q0 q1 q2 q3 c0 c1 c2 c3 c4 c5
            go_loopw [8, 66] (fun t i wr => ∃ c : Nat, c ≤ ms.length ∧ i = .int .i64 c ∧ t = .int .i64 ((0 : Int) - (manyL (ms.take c) : Nat)) ∧ manyL (ms.take c) ≤ 0 ∧ PreI j vs ms c ∧ Below W0.heap.size W0 wr) (fun _ i _ => ms.length - (intOf i).toNat)
            case atStart => exact ⟨0, by omega, rfl, rfl, by simp [manyL], fun a x l h => by omega, A1.out⟩
            case round =>
              obtain ⟨c, hc, rfl, rfl, hmy, hpre, hbel⟩ := hrel
              have AB : Hid (Below W0.heap.size W0 wr) := hbel
              have PB : Hid (PreI j vs ms c) := hpre
              obtain ⟨Q1, T1, hbw⟩ := HK.out _ hbel
              obtain ⟨q0, q1, q2, q3⟩ := Q1.all4
              obtain ⟨⟨c0, c1, c2, c3, c4, c5⟩, _⟩ := T1.all6
              have BW : Hid (Below w.heap.size w wr) := hbw
              clear Q1 T1 hbw hpre hbel
              by_cases hlt : c < ms.length
              · obtain ⟨b1, o1, cap1, e1, lt1, hc1, hc2, hv1⟩ := (HVX.out _ AB.out).2.at (by omega)
                injection e1 with e1 _ e3
                subst e1 e3
                obtain ⟨l, hl⟩ := getX hlt
                obtain ⟨x, hx⟩ := getX (show c < vs.length by omega)
                obtain ⟨u, hu, hur⟩ := hv1 c l hl
                have UR : Hid (InR wr u l) := hur
                obtain ⟨ua, uc, rfl, huc, hum, _⟩ := hur
                unfold maxLen at hum
                have p0 : (0 : Int) ≤ (c : Int) := by omega
                have p1 : (c : Int) < (ms.length : Int) := by omega
                have HMT : Hid (manyL (ms.take (c + 1)) = manyL (ms.take c) + l.length) := manyL_take hl
                have HX1 : Hid (0 < manyL (ms.take c) + l.length → R = false) := HMX.out c l hl
                have HX2 : Hid (risB l = false → R = false) := HMR.out c l hl
                have HX3 := HMW.out c x l (by omega) hx hl
                have HPN : Hid (valB j x = true → mailB j l = true → risB l = true → PreI j vs ms (c + 1)) := fun h1 h2 h3 => PB.out.next hx hl h1 h2 h3
                have HWC : Hid (∀ X, Below W0.heap.size W0 X → _) := fun X hX => HWK.out X c x l hX hx hl
                generalize wakeF k (c : Int) s x phase true l = r at *
                have HX4 : Hid ((r.f = 0 ∧ valB j x = true ∧ mailB j l = true) ∨ (r.f = 2 ∧ R = false)) := HX3
                have CS : Hid (∀ X, InR X (.slice ua l.length uc) l → Calls Try.prog 47 #[.slice ua l.length uc] X fun e w' => e = .returned (.bool (risB l)) ∧ Below X.heap.size X w') := fun X hX => isSortI_any _ l X hX
                generalize manyL (ms.take c) = my at *
                clear hv1 hl hx HX3
                obtain ⟨tt, htt⟩ : ∃ t : Int, (0 : Int) - (my : Nat) - (l.length : Int) = t := ⟨_, rfl⟩
                have wn : IntKind.i64.wrap ((0 : Int) - (my : Nat) - (l.length : Int)) = tt := by rw [htt]; exact wrap_id64 (by omega) (by omega)
                by_cases hneg : tt < 0
                · have HE : Hid (R = false) := HX1.out (by omega)
                  go_wp2_with fail
                  go_ret
                  exact ⟨by rw [HE.out]; rfl, BW.out⟩
                · go_wp2_with fail
                  refine (CS.out _ UR.out).mono ?_
                  rintro e w2 ⟨rfl, hb2⟩
                  have A2 : Hid (Below W0.heap.size W0 w2) := AB.out.trans (hb2.mono AB.out.size)
                  obtain ⟨Q1, T1, hbw⟩ := HK.out _ A2.out
                  clear q0 q1 q2 q3 c0 c1 c2 c3 c4 c5 hb2
                  obtain ⟨q0, q1, q2, q3⟩ := Q1.all4
                  obtain ⟨⟨c0, c1, c2, c3, c4, c5⟩, _⟩ := T1.all6
                  have BW2 : Hid (Below w.heap.size w w2) := hbw
                  clear Q1 T1 hbw
                  cases hrb : risB l
                  · have HE : Hid (R = false) := HX2.out hrb
                    clear hrb
                    go_wp2_with fail
                    go_ret
                    exact ⟨by rw [HE.out]; rfl, BW2.out⟩
                  · have HRB : Hid (risB l = true) := hrb
                    clear hrb
                    go_wp2_with fail
                    refine (HWC.out _ A2.out).mono ?_
                    rintro e w3 ⟨rfl, hb3⟩
                    have A3 : Hid (Below W0.heap.size W0 w3) := A2.out.trans (hb3.mono A2.out.size)
                    obtain ⟨_, _, hbw⟩ := HK.out _ A3.out
                    have BW3 : Hid (Below w.heap.size w w3) := hbw
                    have hs3 := hbw.size
                    clear q0 q1 q2 q3 c0 c1 c2 c3 c4 c5 hb3 hbw
                    obtain ⟨⟨rx1, rx2⟩, rb, rf⟩ := r
                    simp only at HX4 ⊢
                    rcases HX4.out with ⟨h1, h2, h3⟩ | ⟨h1, h2⟩
                    · subst h1
                      have HPR : Hid (PreI j vs ms (c + 1)) := HPN.out h2 h3 HRB.out
                      have A4 : Hid (Below W0.heap.size W0 (w3.alloc (.cells #[.int .i64 rx1, .int .i64 rx2] 53))) := A3.out.alloc A3.out.size _
                      clear h2 h3
                      go_wp2_with fail
                      go_roundw
                      case rel => exact ⟨c + 1, by omega, by go_num, by rw [HMT.out]; congr 1; omega, by rw [HMT.out]; omega, HPR.out, A4.out⟩
                      case measure => simp [intOf]; omega
                    · subst h1
                      have HE : Hid (R = false) := h2
                      have A4 : Hid (Below w.heap.size w (w3.alloc (.cells #[.int .i64 rx1, .int .i64 rx2] 53))) := BW3.out.alloc hs3 _
                      clear h2
                      go_wp2_with fail
                      go_ret
                      exact ⟨by rw [HE.out]; rfl, A4.out⟩
              · have HE : Hid (R = true) := by
                  have ec : ms.take c = ms := List.take_of_length_le (by omega)
                  rw [ec] at hmy
                  refine HMY.out (fun a x l ha hx hl => PB.out a x l (by have := (List.getElem?_eq_some_iff.1 hl).1; omega) hx hl) hmy
                clear hmy
                go_wp2_with fail
                go_ret
                exact ⟨by rw [HE.out]; rfl, BW.out⟩
          · have HE : Hid (mayR m k ⟨step, phase, true, false, vs, ms⟩ = false) := mayR_len fun g => hlm g.2
            have tv : ((vs.length : Int) != (m : Int)) = false := by rw [hlv]; simp
            have tm : ((ms.length : Int) != (m : Int)) = true := by simp; omega
            clear hlv
            generalize mayR m k ⟨step, phase, true, false, vs, ms⟩ = R at *
            go_enter Try.func36, Try.ntmps36
            go_upto_region 1 with fail
            rw [← hW0]
            clear hW0
            go_wp2_with fail
            refine (CW.out _).mono ?_
            rintro e w1 ⟨rfl, hb1⟩
            obtain ⟨Q1, T1, hbw⟩ := HK.out _ hb1
            have B1 : Hid (Below w.heap.size w w1) := hbw
            clear q0 q1 q2 q3 c0 c1 c2 c3 c4 c5 hb1 CW
            obtain ⟨q0, q1, q2, q3⟩ := Q1.all4
            obtain ⟨⟨c0, c1, c2, c3, c4, c5⟩, _⟩ := T1.all6
            clear Q1 T1 hbw
            go_wp2_with fail
            go_ret
            exact ⟨by rw [HE.out]; rfl, B1.out⟩
        · have HE : Hid (mayR m k ⟨step, phase, true, false, vs, ms⟩ = false) := mayR_len fun g => hlv g.1
          have tv : ((vs.length : Int) != (m : Int)) = true := by simp; omega
          generalize mayR m k ⟨step, phase, true, false, vs, ms⟩ = R at *
          go_enter Try.func36, Try.ntmps36
          go_upto_region 1 with fail
          rw [← hW0]
          clear hW0
          go_wp2_with fail
          refine (CW.out _).mono ?_
          rintro e w1 ⟨rfl, hb1⟩
          obtain ⟨Q1, T1, hbw⟩ := HK.out _ hb1
          have B1 : Hid (Below w.heap.size w w1) := hbw
          clear q0 q1 q2 q3 c0 c1 c2 c3 c4 c5 hb1 CW
          obtain ⟨q0, q1, q2, q3⟩ := Q1.all4
          obtain ⟨⟨c0, c1, c2, c3, c4, c5⟩, _⟩ := T1.all6
          clear Q1 T1 hbw
          go_wp2_with fail
          go_ret
          exact ⟨by rw [HE.out]; rfl, B1.out⟩
    · have HE : Hid (mayR m k ⟨step, phase, true, true, vs, ms⟩ = false) := by
        rw [show (mayR m k ⟨step, phase, true, true, vs, ms⟩ = false) ↔ ¬ mayR m k ⟨step, phase, true, true, vs, ms⟩ = true from by simp]
        intro g
        obtain ⟨j, hj, h⟩ := mayR_iff.1 g
        exact h.fd ⟨rfl, rfl⟩
      generalize mayR m k ⟨step, phase, true, true, vs, ms⟩ = R at *
      go_enter Try.func36, Try.ntmps36
      go_upto_region 1 with fail
      rw [← hW0]
      clear hW0
      go_wp2_with fail
      go_ret
      exact ⟨by rw [HE.out]; rfl, BH.out⟩
end Go.Proofs.Ytinijeejfnehmaa

namespace Go.Proofs.Ytinijeejfnehmaa
set_option maxRecDepth 100000
open Go.ChangeShapes Go.WideShapes Go.ChangeAt Go.RowKit

/-- Which error. -/
def staE (n : Int) (es : List Ed) (k s : Int) (T : StS) : Int := if jobE n es k s ≠ 0 then jobE n es k s else if mayR n.toNat k T then 0 else 9

set_option maxHeartbeats 2000000 in
set_option maxRecDepth 100000 in
theorem rState_any (v : Value) (es : List Ed) (n k s : Int) (T : StS) (vv vm : Value) (w : World) (h : EdR w v es) (hv : MlR w vv T.vals) (hm : LiR w vm T.mail) :
    Calls Try.prog 24 #[.agg #[.int .i64 n, v, .int .i64 k, .int .i64 s], .agg #[.int .i64 T.step, .int .i64 T.phase, .bool T.fresh, .bool T.done, vv, vm]] w fun e w' => e = .returned (.int .i64 (staE n es k s T)) ∧ Below w.heap.size w w' := by
  have HR : Hid (EdR w v es) := h
  obtain ⟨a, cap, rfl, _, _, _, _⟩ := h
  have HCK : Hid (∀ X, EdR X (.slice a es.length cap) es → Calls Try.prog 10 #[.agg #[.int .i64 n, .slice a es.length cap, .int .i64 k, .int .i64 s]] X fun e w' => e = .returned (.int .i64 (jobE n es k s)) ∧ Below X.heap.size X w') := fun X hX => rCheck_any _ es n k s X hX
  have HV : Hid (MlR w vv T.vals) := hv
  have HM : Hid (LiR w vm T.mail) := hm
  obtain ⟨va, vc, rfl, hvc, hvm, _, _⟩ := hv
  obtain ⟨ma, mc, rfl, hmc, hmm, _⟩ := hm
  have HSM : Hid (∀ X, jobE n es k s = 0 → MlR X (.slice va T.vals.length vc) T.vals → LiR X (.slice ma T.mail.length mc) T.mail → Calls Try.prog 36 #[.agg #[.int .i64 n, .slice a es.length cap, .int .i64 k, .int .i64 s], .agg #[.int .i64 T.step, .int .i64 T.phase, .bool T.fresh, .bool T.done, .slice va T.vals.length vc, .slice ma T.mail.length mc]] X fun e w' => e = .returned (.bool (mayR n.toNat k T)) ∧ Below X.heap.size X w') := fun X hj h1 h2 => by
    obtain ⟨hf, _, _⟩ := jobE_zero hj
    obtain ⟨hn0, hn1, _, _⟩ := fault_ok hf
    obtain ⟨m, rfl⟩ : ∃ m : Nat, n = m := ⟨n.toNat, by omega⟩
    rw [Int.toNat_natCast]
    exact rMay_any a es.length cap m k s T _ _ X h1 h2 (by omega)
  have HE1 : Hid (jobE n es k s ≠ 0 → staE n es k s T = jobE n es k s) := fun h => if_pos h
  have HE2 : Hid (jobE n es k s = 0 → staE n es k s T = if mayR n.toNat k T then 0 else 9) := fun h => if_neg (by simp [h])
  generalize staE n es k s T = R at *
  generalize mayR n.toNat k T = mr at *
  obtain ⟨step, phase, fr, dn, vs, ms⟩ := T
  simp only at HV HM hvc hvm hmc hmm HSM HE1 HE2 ⊢
  obtain ⟨W0, hW0⟩ : ∃ W0, W0 = (w.alloc (.cells #[.int .i64 n, .slice a es.length cap, .int .i64 k, .int .i64 s] 26)).alloc (.cells #[.int .i64 step, .int .i64 phase, .bool fr, .bool dn, .slice va vs.length vc, .slice ma ms.length mc] 42) := ⟨_, rfl⟩
  obtain ⟨Q0, T0, B0, s1, s2⟩ := boxes2 w #[.int .i64 n, .slice a es.length cap, .int .i64 k, .int .i64 s] #[.int .i64 step, .int .i64 phase, .bool fr, .bool dn, .slice va vs.length vc, .slice ma ms.length mc] 26 42 W0 hW0
  have BH : Hid (Below w.heap.size w W0) := B0
  have HK : Hid (∀ X, Below W0.heap.size W0 X → BX 26 X w.heap.size #[.int .i64 n, .slice a es.length cap, .int .i64 k, .int .i64 s] ∧ BX 42 X (w.heap.size + 1) #[.int .i64 step, .int .i64 phase, .bool fr, .bool dn, .slice va vs.length vc, .slice ma ms.length mc] ∧ Below w.heap.size w X) := fun X hX => ⟨Q0.below hX (by omega), T0.below hX (by omega), BH.out.trans (hX.mono (by omega))⟩
  have R0 : Hid (EdR W0 (.slice a es.length cap) es) := HR.out.below BH.out (Nat.le_refl _)
  have HVX : Hid (∀ X, Below W0.heap.size W0 X → MlR X (.slice va vs.length vc) vs ∧ LiR X (.slice ma ms.length mc) ms) := fun X hX => ⟨HV.out.below (HK.out _ hX).2.2 (Nat.le_refl _), HM.out.below (HK.out _ hX).2.2 (Nat.le_refl _)⟩
  obtain ⟨q0, q1, q2, q3⟩ := Q0.all4
  clear Q0 T0 B0
  by_cases hj : jobE n es k s = 0
  · have HSX : Hid (∀ X, Below W0.heap.size W0 X → _) := fun X hX => HSM.out X hj (HVX.out X hX).1 (HVX.out X hX).2
    have HE : Hid (R = if mr then 0 else 9) := HE2.out hj
    rw [hj] at HCK
    clear hj HE1 HE2 HSM
    go_enter Try.func24, Try.ntmps24
    go_upto_region 1 with fail
    rw [← hW0]
    clear hW0
    go_wp2_with fail
    refine (HCK.out _ R0.out).mono ?_
    rintro e w1 ⟨rfl, hb1⟩
    have A1 : Hid (Below W0.heap.size W0 w1) := hb1
    clear q0 q1 q2 q3 HCK hb1
    obtain ⟨Q1, T1, _⟩ := HK.out _ A1.out
    obtain ⟨q0, q1, q2, q3⟩ := Q1.all4
    obtain ⟨⟨c0, c1, c2, c3, c4, c5⟩, _⟩ := T1.all6
    have hs1 := A1.out.size
    clear Q1 T1
    go_wp2_with fail
    refine (HSX.out _ A1.out).mono ?_
    rintro e w2 ⟨rfl, hb2⟩
    have A2 : Hid (Below w.heap.size w w2) := (HK.out _ (A1.out.trans (hb2.mono hs1))).2.2
    clear q0 q1 q2 q3 c0 c1 c2 c3 c4 c5 hb2 HSX
    cases mr
    · go_wp2_with fail
      go_ret
      exact ⟨by rw [HE.out]; rfl, A2.out⟩
    · go_wp2_with fail
      go_ret
      exact ⟨by rw [HE.out]; rfl, A2.out⟩
  · have HE : Hid (R = jobE n es k s) := HE1.out hj
    generalize jobE n es k s = je at *
    have t0 : (je != 0) = true := by simpa using hj
    clear hj HE1 HE2 HSM
    go_enter Try.func24, Try.ntmps24
    go_upto_region 1 with fail
    rw [← hW0]
    clear hW0
    go_wp2_with fail
    refine (HCK.out _ R0.out).mono ?_
    rintro e w1 ⟨rfl, hb1⟩
    have BW : Hid (Below w.heap.size w w1) := (HK.out _ hb1).2.2
    clear hb1 q0 q1 q2 q3 HCK
    go_wp2_with fail
    go_ret
    exact ⟨by rw [HE.out]; rfl, BW.out⟩
end Go.Proofs.Ytinijeejfnehmaa

namespace Go.Proofs.Ytinijeejfnehmaa
set_option maxRecDepth 100000
open Go.ChangeShapes Go.WideShapes Go.ChangeAt Go.RowKit

theorem staE_zero {n k s : Int} {es : List Ed} {T : StS} (h : staE n es k s T = 0) : jobE n es k s = 0 ∧ mayR n.toNat k T = true := by
  unfold staE at h
  by_cases h1 : jobE n es k s = 0
  · rw [if_neg (by simp [h1])] at h
    refine ⟨h1, ?_⟩
    cases h2 : mayR n.toNat k T
    · rw [h2] at h; simp at h
    · rfl
  · rw [if_pos h1] at h; exact absurd h h1
theorem staE_not {n k s : Int} {es : List Ed} {T : StS} (h : staE n es k s T ≠ 0) : folE n es k s T = (staE n es k s T, st0) := by
  by_cases h1 : jobE n es k s = 0
  · have e : staE n es k s T = if mayR n.toNat k T then 0 else 9 := by unfold staE; rw [if_neg (by simp [h1])]
    cases h2 : mayR n.toNat k T
    · rw [e, h2, folE_no h1 h2]; rfl
    · rw [e, h2] at h; exact absurd rfl h
  · have e : staE n es k s T = jobE n es k s := by unfold staE; rw [if_pos h1]
    rw [e, folE_bad h1]

set_option maxHeartbeats 4000000 in
set_option maxRecDepth 100000 in
theorem rNext_any (v : Value) (es : List Ed) (n k s : Int) (T : StS) (vv vm : Value) (w : World) (h : EdR w v es) (hv : MlR w vv T.vals) (hm : LiR w vm T.mail) :
    Calls Try.prog 16 #[.agg #[.int .i64 n, v, .int .i64 k, .int .i64 s], .agg #[.int .i64 T.step, .int .i64 T.phase, .bool T.fresh, .bool T.done, vv, vm]] w (StaP w (folE n es k s T)) := by
  have HR : Hid (EdR w v es) := h
  obtain ⟨a, cap, rfl, _, _, _, _⟩ := h
  have HV : Hid (MlR w vv T.vals) := hv
  have HM : Hid (LiR w vm T.mail) := hm
  obtain ⟨va, vc, rfl, hvc, hvm, _, _⟩ := hv
  obtain ⟨ma, mc, rfl, hmc, hmm, _⟩ := hm
  unfold maxLen at hvm hmm
  have CS : Hid (∀ X, EdR X (.slice a es.length cap) es → MlR X (.slice va T.vals.length vc) T.vals → LiR X (.slice ma T.mail.length mc) T.mail → Calls Try.prog 24 #[.agg #[.int .i64 n, .slice a es.length cap, .int .i64 k, .int .i64 s], .agg #[.int .i64 T.step, .int .i64 T.phase, .bool T.fresh, .bool T.done, .slice va T.vals.length vc, .slice ma T.mail.length mc]] X fun e w' => e = .returned (.int .i64 (staE n es k s T)) ∧ Below X.heap.size X w') := fun X h1 h2 h3 => rState_any _ es n k s T _ _ X h1 h2 h3
  have CA : Hid (staE n es k s T = 0 → ∀ X, EdR X (.slice a es.length cap) es → MlR X (.slice va T.vals.length vc) T.vals → LiR X (.slice ma T.mail.length mc) T.mail → Calls Try.prog 25 #[.agg #[.int .i64 n, .slice a es.length cap, .int .i64 k, .int .i64 s], .agg #[.int .i64 T.step, .int .i64 T.phase, .bool T.fresh, .bool T.done, .slice va T.vals.length vc, .slice ma T.mail.length mc]] X (StaP X (folE n es k s T))) := fun h0 X h1 h2 h3 => after_any _ es n k s T _ _ X h1 h2 h3 (staE_zero h0).1 (staE_zero h0).2
  have HNE : Hid (staE n es k s T ≠ 0 → folE n es k s T = (staE n es k s T, st0)) := staE_not
  generalize folE n es k s T = R at *
  generalize staE n es k s T = se at *
  obtain ⟨step, phase, fr, dn, vs, ms⟩ := T
  simp only at HV HM hvc hvm hmc hmm CS CA ⊢
  obtain ⟨W0, hW0⟩ : ∃ W0, W0 = ((w.alloc (.cells #[.int .i64 n, .slice a es.length cap, .int .i64 k, .int .i64 s] 26)).alloc (.cells #[.int .i64 step, .int .i64 phase, .bool fr, .bool dn, .slice va vs.length vc, .slice ma ms.length mc] 42)).alloc (.cells #[.int .i64 0, .int .i64 0, .bool false, .bool false, .slice none 0 0, .slice none 0 0] 42) := ⟨_, rfl⟩
  obtain ⟨Q0, T0, Z0, B0, s1, s2⟩ := boxes3 w #[.int .i64 n, .slice a es.length cap, .int .i64 k, .int .i64 s] #[.int .i64 step, .int .i64 phase, .bool fr, .bool dn, .slice va vs.length vc, .slice ma ms.length mc] #[.int .i64 0, .int .i64 0, .bool false, .bool false, .slice none 0 0, .slice none 0 0] 26 42 42 W0 hW0
  have BH : Hid (Below w.heap.size w W0) := B0
  have HK : Hid (∀ X, Below W0.heap.size W0 X → BX 26 X w.heap.size #[.int .i64 n, .slice a es.length cap, .int .i64 k, .int .i64 s] ∧ BX 42 X (w.heap.size + 1) #[.int .i64 step, .int .i64 phase, .bool fr, .bool dn, .slice va vs.length vc, .slice ma ms.length mc] ∧ BX 42 X (w.heap.size + 2) #[.int .i64 0, .int .i64 0, .bool false, .bool false, .slice none 0 0, .slice none 0 0] ∧ Below w.heap.size w X) := fun X hX => ⟨Q0.below hX (by omega), T0.below hX (by omega), Z0.below hX (by omega), BH.out.trans (hX.mono (by omega))⟩
  have R0 : Hid (∀ X, Below W0.heap.size W0 X → EdR X (.slice a es.length cap) es ∧ MlR X (.slice va vs.length vc) vs ∧ LiR X (.slice ma ms.length mc) ms) := fun X hX => ⟨HR.out.below (HK.out _ hX).2.2.2 (Nat.le_refl _), HV.out.below (HK.out _ hX).2.2.2 (Nat.le_refl _), HM.out.below (HK.out _ hX).2.2.2 (Nat.le_refl _)⟩
  have A0 : Hid (Below W0.heap.size W0 W0) := Below.refl _ _
  have CS0 : Hid (∀ X, Below W0.heap.size W0 X → _) := fun X hX => CS.out X (R0.out X hX).1 (R0.out X hX).2.1 (R0.out X hX).2.2
  obtain ⟨q0, q1, q2, q3⟩ := Q0.all4
  obtain ⟨⟨c0, c1, c2, c3, c4, c5⟩, _⟩ := T0.all6
  clear Q0 T0 Z0 B0 CS
  by_cases h0 : se = 0
  · have CA1 : Hid (∀ X, Below W0.heap.size W0 X → _) := fun X hX => CA.out h0 X (R0.out X hX).1 (R0.out X hX).2.1 (R0.out X hX).2.2
    rw [h0] at CS0
    clear h0 CA HNE
    go_enter Try.func16, Try.ntmps16
    go_upto_region 1 with fail
    rw [← hW0]
    clear hW0
    go_wp2_with fail
    refine (CS0.out _ A0.out).mono ?_
    rintro e w1 ⟨rfl, hb1⟩
    have A1 : Hid (Below W0.heap.size W0 w1) := hb1
    obtain ⟨Q1, T1, Z1, _⟩ := HK.out _ hb1
    clear q0 q1 q2 q3 c0 c1 c2 c3 c4 c5 hb1 CS0
    obtain ⟨q0, q1, q2, q3⟩ := Q1.all4
    obtain ⟨⟨c0, c1, c2, c3, c4, c5⟩, _⟩ := T1.all6
    clear Q1 T1 Z1
    go_wp2_with fail
    refine (CA1.out _ A1.out).mono ?_
    rintro e w2 ⟨v1, v2, rfl, hv1, hv2, hb2⟩
    have A2 : Hid (Below W0.heap.size W0 w2) := A1.out.trans (hb2.mono A1.out.size)
    obtain ⟨_, _, Z2, hbw⟩ := HK.out _ A2.out
    have hs1 := A1.out.size
    obtain ⟨rf, nst, nph, nfr, ndn, nvs, nms⟩ := R
    simp only at hv1 hv2 ⊢
    have HP : Hid (StaP w (rf, ⟨nst, nph, nfr, ndn, nvs, nms⟩) (.returned (.tuple #[.agg #[.int .i64 nst, .int .i64 nph, .bool nfr, .bool ndn, v1, v2], .int .i64 rf])) (put6 w2 (w.heap.size + 2) (.int .i64 nst) (.int .i64 nph) (.bool nfr) (.bool ndn) v1 v2)) :=
      ⟨v1, v2, rfl, own_lower (own_off hv1 Z2 (by decide) (kept_put6 w2 (w.heap.size + 2) _ _ _ _ _ _)) (by omega), (hv2.off Z2 (by decide) (by decide) (kept_put6 w2 (w.heap.size + 2) _ _ _ _ _ _)).lower (by omega), below_put6 hbw (by omega) Z2.lt _ _ _ _ _ _⟩
    have RX : Hid (BX 42 (put6 w2 (w.heap.size + 2) (.int .i64 nst) (.int .i64 nph) (.bool nfr) (.bool ndn) v1 v2) (w.heap.size + 2) #[.int .i64 nst, .int .i64 nph, .bool nfr, .bool ndn, v1, v2]) := Z2.put6
    obtain ⟨a1, n1, k1, rfl⟩ : ∃ a n c, v1 = .slice a n c := by
      rcases own_shapeK hv1 with ⟨e, _⟩ | ⟨g', c', e, _⟩
      · exact ⟨_, _, _, e⟩
      · exact ⟨_, _, _, e⟩
    obtain ⟨a2, k2, rfl⟩ := hv2.shape
    obtain ⟨⟨d0, d1, d2, d3, d4, d5⟩, e0, e1, e2, e3, e4, e5⟩ := Z2.all6
    clear q0 q1 q2 q3 c0 c1 c2 c3 c4 c5 hv1 hv2 hb2 Z2 hbw
    go_wp2_with fail
    obtain ⟨⟨r0, r1, r2, r3, r4, r5⟩, _⟩ := RX.out.all6
    unfold put6 at r0 r1 r2 r3 r4 r5
    exact bodyPost_ret (v := .tuple #[.agg #[.int .i64 nst, .int .i64 nph, .bool nfr, .bool ndn, .slice a1 n1 k1, .slice a2 nms.length k2], .int .i64 rf]) (by simp [results, Try.results16, go_sem, r0, r1, r2, r3, r4, r5]) rfl HP.out
  · have HRE : Hid (R = (se, st0)) := HNE.out h0
    have t0 : (se != 0) = true := by simpa using h0
    clear h0 CA HNE
    go_enter Try.func16, Try.ntmps16
    go_upto_region 1 with fail
    rw [← hW0]
    clear hW0
    go_wp2_with fail
    refine (CS0.out _ A0.out).mono ?_
    rintro e w1 ⟨rfl, hb1⟩
    obtain ⟨_, _, Z1, b1⟩ := HK.out _ hb1
    have HP : Hid (StaP w R (.returned (.tuple #[.agg #[.int .i64 0, .int .i64 0, .bool false, .bool false, .slice none 0 0, .slice none 0 0], .int .i64 se])) (put6 w1 (w.heap.size + 2) (.int .i64 0) (.int .i64 0) (.bool false) (.bool false) (.slice none 0 0) (.slice none 0 0))) := by
      show StaP _ _ _ _
      rw [HRE.out]
      exact StaP.no (below_put6 b1 (by omega) Z1.lt _ _ _ _ _ _)
    have RX : Hid (BX 42 (put6 w1 (w.heap.size + 2) (.int .i64 0) (.int .i64 0) (.bool false) (.bool false) (.slice none 0 0) (.slice none 0 0)) (w.heap.size + 2) #[.int .i64 0, .int .i64 0, .bool false, .bool false, .slice none 0 0, .slice none 0 0]) := Z1.put6
    obtain ⟨⟨d0, d1, d2, d3, d4, d5⟩, e0, e1, e2, e3, e4, e5⟩ := Z1.all6
    clear hb1 q0 q1 q2 q3 c0 c1 c2 c3 c4 c5 CS0 Z1 b1
    go_wp2_with fail
    obtain ⟨⟨r0, r1, r2, r3, r4, r5⟩, _⟩ := RX.out.all6
    unfold put6 at r0 r1 r2 r3 r4 r5
    exact bodyPost_ret (v := .tuple #[.agg #[.int .i64 0, .int .i64 0, .bool false, .bool false, .slice none 0 0, .slice none 0 0], .int .i64 se]) (by simp [results, Try.results16, go_sem, r0, r1, r2, r3, r4, r5]) rfl HP.out
end Go.Proofs.Ytinijeejfnehmaa

namespace Go.Proofs.Ytinijeejfnehmaa
set_option maxRecDepth 100000
open Go.ChangeShapes Go.WideShapes Go.ChangeAt Go.RowKit

set_option maxHeartbeats 2000000 in
set_option maxRecDepth 100000 in
theorem rBegin_any (v : Value) (es : List Ed) (n k s : Int) (w : World) (h : EdR w v es) :
    Calls Try.prog 15 #[.agg #[.int .i64 n, v, .int .i64 k, .int .i64 s]] w (StaP w (begE n es k s)) := by
  have HR : Hid (EdR w v es) := h
  obtain ⟨a, cap, rfl, _, _, _, _⟩ := h
  have HCK : Hid (∀ X, EdR X (.slice a es.length cap) es → Calls Try.prog 10 #[.agg #[.int .i64 n, .slice a es.length cap, .int .i64 k, .int .i64 s]] X fun e w' => e = .returned (.int .i64 (jobE n es k s)) ∧ Below X.heap.size X w') := fun X hX => rCheck_any _ es n k s X hX
  obtain ⟨W0, hW0⟩ : ∃ W0, W0 = (w.alloc (.cells #[.int .i64 n, .slice a es.length cap, .int .i64 k, .int .i64 s] 26)).alloc (.cells #[.int .i64 0, .int .i64 0, .bool false, .bool false, .slice none 0 0, .slice none 0 0] 42) := ⟨_, rfl⟩
  obtain ⟨Q0, T0, B0, s1, s2⟩ := boxes2 w #[.int .i64 n, .slice a es.length cap, .int .i64 k, .int .i64 s] #[.int .i64 0, .int .i64 0, .bool false, .bool false, .slice none 0 0, .slice none 0 0] 26 42 W0 hW0
  have BH : Hid (Below w.heap.size w W0) := B0
  have HK : Hid (∀ X, Below W0.heap.size W0 X → BX 26 X w.heap.size #[.int .i64 n, .slice a es.length cap, .int .i64 k, .int .i64 s] ∧ BX 42 X (w.heap.size + 1) #[.int .i64 0, .int .i64 0, .bool false, .bool false, .slice none 0 0, .slice none 0 0] ∧ Below w.heap.size w X) := fun X hX => ⟨Q0.below hX (by omega), T0.below hX (by omega), BH.out.trans (hX.mono (by omega))⟩
  have R0 : Hid (EdR W0 (.slice a es.length cap) es) := HR.out.below BH.out (Nat.le_refl _)
  obtain ⟨q0, q1, q2, q3⟩ := Q0.all4
  clear Q0 T0 B0
  by_cases hj : jobE n es k s = 0
  · obtain ⟨hf, _, _⟩ := jobE_zero hj
    obtain ⟨hn0, hn1, _, _⟩ := fault_ok hf
    obtain ⟨m, rfl⟩ : ∃ m : Nat, n = m := ⟨n.toNat, by omega⟩
    have HCF : Hid (∀ X, Calls Try.prog 23 #[.int .i64 m] X (StoP X (beginS m))) := fun X => first_any m X (by omega)
    have HE : Hid (begE m es k s = (0, beginS m)) := by show begE m es k s = _; unfold begE; rw [if_pos hj, Int.toNat_natCast]
    rw [hj] at HCK
    generalize begE m es k s = R at *
    generalize beginS m = T at *
    obtain ⟨step, phase, fr, dn, vs, ms⟩ := T
    clear hf hj
    go_enter Try.func15, Try.ntmps15
    go_upto_region 1 with fail
    rw [← hW0]
    clear hW0
    go_wp2_with fail
    refine (HCK.out _ R0.out).mono ?_
    rintro e w1 ⟨rfl, hb1⟩
    have A1 : Hid (Below W0.heap.size W0 w1) := hb1
    clear q0 q1 q2 q3 HCK hb1
    obtain ⟨Q1, _, _⟩ := HK.out _ A1.out
    obtain ⟨q0, q1, q2, q3⟩ := Q1.all4
    have hs1 := A1.out.size
    clear Q1
    go_wp2_with fail
    refine (HCF.out _).mono ?_
    rintro e w2 ⟨v1, v2, rfl, hv1, hv2, hb2⟩
    simp only at hv1 hv2 ⊢
    have A2 : Hid (Below W0.heap.size W0 w2) := A1.out.trans (hb2.mono hs1)
    obtain ⟨_, Z2, hbw⟩ := HK.out _ A2.out
    have HP : Hid (StaP w R (.returned (.tuple #[.agg #[.int .i64 step, .int .i64 phase, .bool fr, .bool dn, v1, v2], .int .i64 0])) (put6 w2 (w.heap.size + 1) (.int .i64 step) (.int .i64 phase) (.bool fr) (.bool dn) v1 v2)) := by
      show StaP _ _ _ _
      rw [HE.out]
      exact StaP.yes (t := ⟨step, phase, fr, dn, vs, ms⟩) (own_lower (own_off hv1 Z2 (by decide) (kept_put6 w2 (w.heap.size + 1) _ _ _ _ _ _)) (by omega)) ((hv2.off Z2 (by decide) (by decide) (kept_put6 w2 (w.heap.size + 1) _ _ _ _ _ _)).lower (by omega)) (below_put6 hbw (by omega) Z2.lt _ _ _ _ _ _)
    have RX : Hid (BX 42 (put6 w2 (w.heap.size + 1) (.int .i64 step) (.int .i64 phase) (.bool fr) (.bool dn) v1 v2) (w.heap.size + 1) #[.int .i64 step, .int .i64 phase, .bool fr, .bool dn, v1, v2]) := Z2.put6
    obtain ⟨a1, n1, k1, rfl⟩ : ∃ a n c, v1 = .slice a n c := by
      rcases own_shapeK hv1 with ⟨e, _⟩ | ⟨g', c', e, _⟩
      · exact ⟨_, _, _, e⟩
      · exact ⟨_, _, _, e⟩
    obtain ⟨a2, k2, rfl⟩ := hv2.shape
    obtain ⟨⟨d0, d1, d2, d3, d4, d5⟩, e0, e1, e2, e3, e4, e5⟩ := Z2.all6
    clear q0 q1 q2 q3 hv1 hv2 hb2 Z2 hbw
    go_wp2_with fail
    obtain ⟨⟨r0, r1, r2, r3, r4, r5⟩, _⟩ := RX.out.all6
    unfold put6 at r0 r1 r2 r3 r4 r5
    exact bodyPost_ret (v := .tuple #[.agg #[.int .i64 step, .int .i64 phase, .bool fr, .bool dn, .slice a1 n1 k1, .slice a2 ms.length k2], .int .i64 0]) (by simp [results, Try.results15, go_sem, r0, r1, r2, r3, r4, r5]) rfl HP.out
  · have HE : Hid (begE n es k s = (jobE n es k s, st0)) := by show begE n es k s = _; unfold begE; rw [if_neg hj]
    generalize begE n es k s = R at *
    generalize jobE n es k s = je at *
    have t0 : (je != 0) = true := by simpa using hj
    clear hj
    go_enter Try.func15, Try.ntmps15
    go_upto_region 1 with fail
    rw [← hW0]
    clear hW0
    go_wp2_with fail
    refine (HCK.out _ R0.out).mono ?_
    rintro e w1 ⟨rfl, hb1⟩
    obtain ⟨_, Z2, hbw⟩ := HK.out _ hb1
    have HP : Hid (StaP w R (.returned (.tuple #[.agg #[.int .i64 0, .int .i64 0, .bool false, .bool false, .slice none 0 0, .slice none 0 0], .int .i64 je])) (put6 w1 (w.heap.size + 1) (.int .i64 0) (.int .i64 0) (.bool false) (.bool false) (.slice none 0 0) (.slice none 0 0))) := by
      show StaP _ _ _ _
      rw [HE.out]
      exact StaP.no (below_put6 hbw (by omega) Z2.lt _ _ _ _ _ _)
    have RX : Hid (BX 42 (put6 w1 (w.heap.size + 1) (.int .i64 0) (.int .i64 0) (.bool false) (.bool false) (.slice none 0 0) (.slice none 0 0)) (w.heap.size + 1) #[.int .i64 0, .int .i64 0, .bool false, .bool false, .slice none 0 0, .slice none 0 0]) := Z2.put6
    obtain ⟨⟨d0, d1, d2, d3, d4, d5⟩, e0, e1, e2, e3, e4, e5⟩ := Z2.all6
    clear hb1 q0 q1 q2 q3 HCK Z2 hbw
    go_wp2_with fail
    obtain ⟨⟨r0, r1, r2, r3, r4, r5⟩, _⟩ := RX.out.all6
    unfold put6 at r0 r1 r2 r3 r4 r5
    exact bodyPost_ret (v := .tuple #[.agg #[.int .i64 0, .int .i64 0, .bool false, .bool false, .slice none 0 0, .slice none 0 0], .int .i64 je]) (by simp [results, Try.results15, go_sem, r0, r1, r2, r3, r4, r5]) rfl HP.out
end Go.Proofs.Ytinijeejfnehmaa

namespace Go.Proofs.Ytinijeejfnehmaa
set_option maxRecDepth 100000
open Go.ChangeShapes Go.WideShapes Go.ChangeAt Go.RowKit

set_option maxHeartbeats 4000000 in
set_option maxRecDepth 100000 in
theorem eLimit_any (v : Value) (es : List Ed) (n k s wk ev bu : Int) (w : World) (h : EdR w v es) :
    Calls Try.prog 8 #[.agg #[.int .i64 n, v, .int .i64 k, .int .i64 s, .int .i64 wk, .int .i64 ev, .int .i64 bu]] w fun e w' => e = .returned (.tuple #[.int .i64 (limE n es k s wk ev bu).1, .int .i64 (limE n es k s wk ev bu).2]) ∧ Below w.heap.size w w' := by
  have HR : Hid (EdR w v es) := h
  obtain ⟨a, cap, rfl⟩ := h.shape
  clear h
  have CT : Hid (∀ X, EdR X (.slice a es.length cap) es → Calls Try.prog 5 #[.agg #[.int .i64 n, .slice a es.length cap, .int .i64 k, .int .i64 s, .int .i64 wk, .int .i64 ev, .int .i64 bu]] X fun e w' => e = .returned (.int .i64 (taskE n es k s wk ev bu)) ∧ Below X.heap.size X w') := fun X hX => eCheck_any _ es n k s wk ev bu X hX
  obtain ⟨W0, hW0⟩ : ∃ W0, W0 = w.alloc (.cells #[.int .i64 n, .slice a es.length cap, .int .i64 k, .int .i64 s, .int .i64 wk, .int .i64 ev, .int .i64 bu] 28) := ⟨_, rfl⟩
  have Q0 : BX 28 W0 w.heap.size #[.int .i64 n, .slice a es.length cap, .int .i64 k, .int .i64 s, .int .i64 wk, .int .i64 ev, .int .i64 bu] := by rw [hW0]; exact BX.new _ _ _
  have B0 : Below w.heap.size w W0 := by rw [hW0]; exact below_alloc _ _
  have s1 : w.heap.size + 1 ≤ W0.heap.size := by rw [hW0]; simp
  have HK : Hid (∀ X, Below W0.heap.size W0 X → BX 28 X w.heap.size #[.int .i64 n, .slice a es.length cap, .int .i64 k, .int .i64 s, .int .i64 wk, .int .i64 ev, .int .i64 bu] ∧ Below w.heap.size w X ∧ EdR X (.slice a es.length cap) es) := fun X hX => by
    have hb := B0.trans (hX.mono (show w.heap.size ≤ W0.heap.size by omega))
    exact ⟨Q0.below hX (by omega), hb, HR.out.below hb (Nat.le_refl _)⟩
  have A0 : Hid (Below W0.heap.size W0 W0) := Below.refl _ _
  have HC7 : ∀ X, BX 28 X w.heap.size #[.int .i64 n, .slice a es.length cap, .int .i64 k, .int .i64 s, .int .i64 wk, .int .i64 ev, .int .i64 bu] → X.cell? ⟨w.heap.size, 0, none⟩ = some (.int .i64 n) ∧ X.cell? ⟨w.heap.size, 1, none⟩ = some (.slice a es.length cap) ∧ X.cell? ⟨w.heap.size, 2, none⟩ = some (.int .i64 k) ∧ X.cell? ⟨w.heap.size, 3, none⟩ = some (.int .i64 s) ∧ X.cell? ⟨w.heap.size, 4, none⟩ = some (.int .i64 wk) ∧ X.cell? ⟨w.heap.size, 5, none⟩ = some (.int .i64 ev) ∧ X.cell? ⟨w.heap.size, 6, none⟩ = some (.int .i64 bu) := fun X q => ⟨q.cell 0, q.cell 1, q.cell 2, q.cell 3, q.cell 4, q.cell 5, q.cell 6⟩
  have H7 : Hid (∀ X, BX 28 X w.heap.size #[.int .i64 n, .slice a es.length cap, .int .i64 k, .int .i64 s, .int .i64 wk, .int .i64 ev, .int .i64 bu] → X.cell? ⟨w.heap.size, 0, none⟩ = some (.int .i64 n) ∧ X.cell? ⟨w.heap.size, 1, none⟩ = some (.slice a es.length cap) ∧ X.cell? ⟨w.heap.size, 2, none⟩ = some (.int .i64 k) ∧ X.cell? ⟨w.heap.size, 3, none⟩ = some (.int .i64 s) ∧ X.cell? ⟨w.heap.size, 4, none⟩ = some (.int .i64 wk) ∧ X.cell? ⟨w.heap.size, 5, none⟩ = some (.int .i64 ev) ∧ X.cell? ⟨w.heap.size, 6, none⟩ = some (.int .i64 bu)) := HC7
  clear HC7
  obtain ⟨q0, q1, q2, q3, q4, q5, q6⟩ := H7.out _ Q0
  clear Q0 B0 HR
  by_cases hT : taskE n es k s wk ev bu = 0
  case neg =>
    have HE : Hid (limE n es k s wk ev bu = (0, taskE n es k s wk ev bu)) := limE_no hT
    have t0 : (taskE n es k s wk ev bu != 0) = true := by simp [hT]
    generalize limE n es k s wk ev bu = LL at *
    generalize taskE n es k s wk ev bu = te at *
    clear hT
    go_enter Try.func8, Try.ntmps8
    go_upto_region 1 with fail
    rw [← hW0]
    clear hW0
    go_wp2_with fail
    refine (CT.out _ (HK.out _ A0.out).2.2).mono ?_
    rintro e w1 ⟨rfl, hb1⟩
    have B1 : Hid (Below w.heap.size w w1) := (HK.out _ hb1).2.1
    clear hb1 q0 q1 q2 q3 q4 q5 q6
    go_wp2_with fail
    go_ret2
    exact ⟨by rw [HE.out]; rfl, B1.out⟩
  have HE : Hid (limE n es k s wk ev bu = (((limC n es k s : Int) + 2) * (n + es.length + 12), 0)) := limE_yes hT
  obtain ⟨hj, _⟩ := taskE_zero hT
  have h5 := fault_ok (jobE_zero hj).1
  have hn0 : 0 ≤ n := h5.1
  have hn1 : n ≤ 200 := h5.2.1
  have hel : es.length ≤ 600 := h5.2.2.1
  rw [hT] at CT
  have CB : Hid (∀ X, EdR X (.slice a es.length cap) es → Calls Try.prog 15 #[.agg #[.int .i64 n, .slice a es.length cap, .int .i64 k, .int .i64 s]] X (StaP X (0, beginS n.toNat))) := fun X hX => by
    have := rBegin_any _ es n k s X hX
    unfold begE at this
    rw [if_pos hj] at this
    exact this
  have CA : Hid (∀ X (T : StS) vv vm, mayR n.toNat k T = true → EdR X (.slice a es.length cap) es → MlR X vv T.vals → LiR X vm T.mail → Calls Try.prog 16 #[.agg #[.int .i64 n, .slice a es.length cap, .int .i64 k, .int .i64 s], .agg #[.int .i64 T.step, .int .i64 T.phase, .bool T.fresh, .bool T.done, vv, vm]] X (StaP X (nextE n.toNat es k s T))) := fun X T vv vm hm h1 h2 h3 => by
    have := rNext_any _ es n k s T vv vm X h1 h2 h3
    unfold folE at this
    rw [if_neg (by simp [hj])] at this
    exact this
  have HST : Hid (RanI n.toNat es k s (ranE n es k s) 100001 (0, beginS n.toNat)) := RanI.start (by omega) hj
  have HGO : Hid (∀ (R r : Int × StS) (f : Nat), RanI n.toNat es k s R (f + 1) r → r.1 = 0 → r.2.done = false → RanI n.toNat es k s R f (nextE n.toNat es k s r.2)) := fun R r f h1 h2 h3 => by
    refine RanI.go (by omega) (fun e he => ?_) hel h1 h2 h3
    have := in_of_out (h5.2.2.2 e he)
    omega
  clear h5 hj hT
  generalize limE n es k s wk ev bu = LL at *
  generalize ranE n es k s = R at *
  have hC : limC n es k s ≤ 100001 := limC_le _ _ _ _
  have HC0 : Hid (0 + cntR n.toNat es k s 100001 (0, beginS n.toNat) = limC n es k s) := Nat.zero_add _
  generalize limC n es k s = C at *
  generalize beginS n.toNat = RB at *
  go_enter Try.func8, Try.ntmps8
  go_upto_region 1 with fail
  rw [← hW0]
  clear hW0
  go_wp2_with fail
  refine (CT.out _ (HK.out _ A0.out).2.2).mono ?_
  rintro e w0 ⟨rfl, hb0⟩
  have A00 : Hid (Below W0.heap.size W0 w0) := hb0
  clear q0 q1 q2 q3 q4 q5 q6 hb0
  obtain ⟨q0, q1, q2, q3, q4, q5, q6⟩ := H7.out _ (HK.out _ A00.out).1
  go_wp2_with fail
  refine (CB.out _ (HK.out _ A00.out).2.2).mono ?_
  rintro e w1 ⟨v1, v2, rfl, hv1, hv2, hb1⟩
  obtain ⟨a1, n1, k1, rfl⟩ : ∃ a n c, v1 = .slice a n c := by
    rcases own_shapeK hv1 with ⟨e, _⟩ | ⟨g', c', e, _⟩
    · exact ⟨_, _, _, e⟩
    · exact ⟨_, _, _, e⟩
  obtain ⟨a2, k2, rfl⟩ := hv2.shape
  generalize hn2 : RB.mail.length = n2 at *
  have hb1' : Below W0.heap.size W0 w1 := A00.out.trans (hb1.mono A00.out.size)
  have W1 : Hid (Below W0.heap.size W0 (w1.alloc (.cells #[.int .i64 RB.step, .int .i64 RB.phase, .bool RB.fresh, .bool RB.done, .slice a1 n1 k1, .slice a2 n2 k2] 42)) ∧ BX 42 (w1.alloc (.cells #[.int .i64 RB.step, .int .i64 RB.phase, .bool RB.fresh, .bool RB.done, .slice a1 n1 k1, .slice a2 n2 k2] 42)) w1.heap.size #[.int .i64 RB.step, .int .i64 RB.phase, .bool RB.fresh, .bool RB.done, .slice a1 n1 k1, .slice a2 n2 k2] ∧ (w1.alloc (.cells #[.int .i64 RB.step, .int .i64 RB.phase, .bool RB.fresh, .bool RB.done, .slice a1 n1 k1, .slice a2 n2 k2] 42)).ownsRow W0.heap.size 53 2 (.slice a1 n1 k1) RB.vals.length (RB.vals.flatMap encM) ∧ OwnLi (w1.alloc (.cells #[.int .i64 RB.step, .int .i64 RB.phase, .bool RB.fresh, .bool RB.done, .slice a1 n1 k1, .slice a2 n2 k2] 42)) W0.heap.size (.slice a2 n2 k2) RB.mail ∧ W0.heap.size ≤ w1.heap.size) := ⟨hb1'.alloc hb1'.size _, BX.new _ _ _, (own_lower hv1 A00.out.size).alloc _, (hv2.lower A00.out.size).below (below_alloc _ _) (Nat.le_refl _), hb1'.size⟩
  clear q0 q1 q2 q3 q4 q5 q6 hv1 hv2 hb1 hb1' CB hn2 A00
  go_upto_region 6 with fail
  generalize w1.alloc (.cells #[.int .i64 RB.step, .int .i64 RB.phase, .bool RB.fresh, .bool RB.done, .slice a1 n1 k1, .slice a2 n2 k2] 42) = w2 at *
  generalize w1.heap.size = b4 at *
  obtain ⟨A2', X2', V2', M2', hb4⟩ := W1.out
  have W2 : Hid (Below W0.heap.size W0 w2 ∧ BX 42 w2 b4 #[.int .i64 RB.step, .int .i64 RB.phase, .bool RB.fresh, .bool RB.done, .slice a1 n1 k1, .slice a2 n2 k2] ∧ w2.ownsRow W0.heap.size 53 2 (.slice a1 n1 k1) RB.vals.length (RB.vals.flatMap encM) ∧ OwnLi w2 W0.heap.size (.slice a2 n2 k2) RB.mail) := ⟨A2', X2', V2', M2'⟩
  clear A2' X2' V2' M2' W1
  go_wp2_with fail
  go_loopg [5, 7] 100001 (fun gk c t wr => ∃ (r : Int × StS) (vv vm : Value) (m : Nat), c = .int .i64 m ∧ m + cntR n.toNat es k s gk r = C ∧ t = .int .i64 r.1 ∧ (∃ a n c, vv = .slice a n c) ∧ (∃ a n c, vm = .slice a n c) ∧ gk ≤ 100001 ∧ RanI n.toNat es k s R gk r ∧ BX 42 wr b4 #[.int .i64 r.2.step, .int .i64 r.2.phase, .bool r.2.fresh, .bool r.2.done, vv, vm] ∧ wr.ownsRow W0.heap.size 53 2 vv r.2.vals.length (r.2.vals.flatMap encM) ∧ OwnLi wr W0.heap.size vm r.2.mail ∧ Below W0.heap.size W0 wr)
  case atStart =>
    obtain ⟨A2, X2, V2, M2⟩ := W2.out
    exact ⟨(0, RB), _, _, 0, rfl, HC0.out, rfl, ⟨_, _, _, rfl⟩, ⟨_, _, _, rfl⟩, Nat.le_refl _, HST.out, X2, V2, M2, A2⟩
  case round =>
    obtain ⟨r, vv, vm, m, rfl, hcnt, rfl, ⟨x1, x2, x3, rfl⟩, ⟨y1, y2, y3, rfl⟩, hgk, hri, hx, hov, hom, hbel⟩ := hrel
    have RI : Hid (RanI n.toNat es k s R gk r) := hri
    have RC : Hid (m + cntR n.toNat es k s gk r = C) := hcnt
    have hmC : m ≤ 100001 := by omega
    have AB : Hid (Below W0.heap.size W0 wr) := hbel
    have XB : Hid (BX 42 wr b4 #[.int .i64 r.2.step, .int .i64 r.2.phase, .bool r.2.fresh, .bool r.2.done, .slice x1 x2 x3, .slice y1 y2 y3]) := hx
    have OV : Hid (wr.ownsRow W0.heap.size 53 2 (.slice x1 x2 x3) r.2.vals.length (r.2.vals.flatMap encM)) := hov
    have OM : Hid (OwnLi wr W0.heap.size (.slice y1 y2 y3) r.2.mail) := hom
    obtain ⟨Q1, hbw, hedr⟩ := HK.out _ hbel
    obtain ⟨q0, q1, q2, q3, q4, q5, q6⟩ := H7.out _ Q1
    obtain ⟨⟨c0, c1, c2, c3, c4, c5⟩, f0, f1, f2, f3, f4, f5⟩ := hx.all6
    have BW : Hid (Below w.heap.size w wr) := hbw
    have ER : Hid (EdR wr (.slice a es.length cap) es) := hedr
    have hsr := hbel.size
    clear hri hcnt hx hov hom hbel Q1 hbw hedr
    by_cases hgo : r.1 = 0 ∧ r.2.done = false
    · obtain ⟨f, rfl⟩ := RI.out.pos hgo.1
      have RI2 : Hid (RanI n.toNat es k s R f (nextE n.toNat es k s r.2)) := HGO.out R r f RI.out hgo.1 hgo.2
      have RC2 : Hid (m + 1 + cntR n.toNat es k s f (nextE n.toNat es k s r.2) = C) := by have := RC.out; rw [cntR_go hgo] at this; show _ = _; omega
      have HMY := (RI.out.2 hgo.1).1
      have CA1 : Hid (∀ X, EdR X (.slice a es.length cap) es → MlR X (.slice x1 x2 x3) r.2.vals → LiR X (.slice y1 y2 y3) r.2.mail → _) := fun X h1 h2 h3 => CA.out X r.2 _ _ HMY h1 h2 h3
      have MV : Hid (MlR wr (.slice x1 x2 x3) r.2.vals) := RowK.own encM_len OV.out
      have MM : Hid (LiR wr (.slice y1 y2 y3) r.2.mail) := OM.out.reads
      generalize nextE n.toNat es k s r.2 = N at *
      have t0 : (r.1 == 0) = true := by simpa using hgo.1
      rw [hgo.2] at c3 CA1
      clear HMY hgo RI RC OV OM CA HGO
      go_wp2_with fail
      refine (CA1.out _ ER.out MV.out MM.out).mono ?_
      rintro e w3 ⟨v1, v2, rfl, hv1, hv2, hb3⟩
      obtain ⟨a5, n5, k5, rfl⟩ : ∃ a n c, v1 = .slice a n c := by
        rcases own_shapeK hv1 with ⟨e, _⟩ | ⟨g', c', e, _⟩
        · exact ⟨_, _, _, e⟩
        · exact ⟨_, _, _, e⟩
      obtain ⟨a6, k6, rfl⟩ := hv2.shape
      generalize hn6 : N.2.mail.length = n6 at *
      have A3 : Below W0.heap.size W0 w3 := AB.out.trans (hb3.mono hsr)
      have X3 := XB.out.below hb3 XB.out.lt
      have XN : Hid (BX 42 (put6 w3 b4 (.int .i64 N.2.step) (.int .i64 N.2.phase) (.bool N.2.fresh) (.bool N.2.done) (.slice a5 n5 k5) (.slice a6 n6 k6)) b4 #[.int .i64 N.2.step, .int .i64 N.2.phase, .bool N.2.fresh, .bool N.2.done, .slice a5 n5 k5, .slice a6 n6 k6]) := X3.put6
      have VN : Hid ((put6 w3 b4 (.int .i64 N.2.step) (.int .i64 N.2.phase) (.bool N.2.fresh) (.bool N.2.done) (.slice a5 n5 k5) (.slice a6 n6 k6)).ownsRow W0.heap.size 53 2 (.slice a5 n5 k5) N.2.vals.length (N.2.vals.flatMap encM)) := own_lower (own_off hv1 X3 (by decide) (kept_put6 w3 b4 _ _ _ _ _ _)) hsr
      have MN : Hid (OwnLi (put6 w3 b4 (.int .i64 N.2.step) (.int .i64 N.2.phase) (.bool N.2.fresh) (.bool N.2.done) (.slice a5 n5 k5) (.slice a6 n6 k6)) W0.heap.size (.slice a6 n6 k6) N.2.mail) := (hv2.off X3 (by decide) (by decide) (kept_put6 w3 b4 _ _ _ _ _ _)).lower hsr
      have AN : Hid (Below W0.heap.size W0 (put6 w3 b4 (.int .i64 N.2.step) (.int .i64 N.2.phase) (.bool N.2.fresh) (.bool N.2.done) (.slice a5 n5 k5) (.slice a6 n6 k6))) := below_put6 A3 hb4 X3.lt _ _ _ _ _ _
      clear q0 q1 q2 q3 q4 q5 q6 c0 c1 c2 c3 c4 c5 f0 f1 f2 f3 f4 f5 hn6 hv1 hv2
      obtain ⟨⟨c0, c1, c2, c3, c4, c5⟩, f0, f1, f2, f3, f4, f5⟩ := X3.all6
      clear X3 A3 hb3
      unfold put6 at XN VN MN AN
      have wm : IntKind.i64.wrap ((m : Int) + 1) = ((m + 1 : Nat) : Int) := by rw [wrap_id64 (by omega) (by omega)]; rfl
      go_wp2_with fail
      go_roundg f
      case measure => omega
      case rel => exact ⟨N, _, _, m + 1, rfl, RC2.out, rfl, ⟨_, _, _, rfl⟩, ⟨_, _, _, rfl⟩, by omega, RI2.out, XN.out, VN.out, MN.out, AN.out⟩
    · have HM : m = C := by have := RC.out; rw [cntR_end hgo] at this; omega
      subst HM
      have hmul : ((m : Int) + 2) * (n + es.length + 12) ≤ 100003 * 812 := Int.mul_le_mul (by omega) (by omega) (by omega) (by omega)
      have hmul0 : 0 ≤ ((m : Int) + 2) * (n + es.length + 12) := Int.mul_nonneg (by omega) (by omega)
      have w1' : IntKind.i64.wrap ((m : Int) + 2) = (m : Int) + 2 := wrap_id64 (by omega) (by omega)
      have w2' : IntKind.i64.wrap (n + (es.length : Int)) = n + es.length := wrap_id64 (by omega) (by omega)
      have w3' : IntKind.i64.wrap (n + (es.length : Int) + 12) = n + es.length + 12 := wrap_id64 (by omega) (by omega)
      have w4' : IntKind.i64.wrap (((m : Int) + 2) * (n + (es.length : Int) + 12)) = ((m : Int) + 2) * (n + es.length + 12) := wrap_id64 (by omega) (by omega)
      clear hmul hmul0
      by_cases h1 : r.1 = 0
      · have t0 : (r.1 == 0) = true := by simpa using h1
        have hd : r.2.done = true := by
          cases hdn : r.2.done
          · exact absurd ⟨h1, hdn⟩ hgo
          · rfl
        rw [hd] at c3
        clear hgo h1 hd CA HGO RI RC
        go_wp2_with fail
        go_ret2
        exact ⟨by rw [HE.out]; rfl, BW.out.alloc BW.out.size _⟩
      · have t0 : (r.1 == 0) = false := by simpa using h1
        clear hgo h1 CA HGO RI RC
        go_wp2_with fail
        go_ret2
        exact ⟨by rw [HE.out]; rfl, BW.out.alloc BW.out.size _⟩
end Go.Proofs.Ytinijeejfnehmaa

namespace Go.Proofs.Ytinijeejfnehmaa
set_option maxRecDepth 100000
open Go.ChangeShapes Go.WideShapes Go.ChangeAt Go.RowKit

/-- What the document's own test says of an edge. -/
theorem out_in (n : Int) (e : Ed) : outE n e = (!inB e.1 0 (n - 1) || !inB e.2.1 0 (n - 1) || !inB e.2.2 0 1099511627776) := by
  unfold outE inB
  have h1 : decide (e.1 ≤ n - 1) = decide (e.1 < n) := by congr 1; exact propext ⟨fun _ => by omega, fun _ => by omega⟩
  have h2 : decide (e.2.1 ≤ n - 1) = decide (e.2.1 < n) := by congr 1; exact propext ⟨fun _ => by omega, fun _ => by omega⟩
  rw [h1, h2, Bool.or_assoc, Bool.or_assoc, Bool.or_assoc]
  congr 2
  by_cases h3 : e.2.2 < 0
  · have h4 : ¬ 0 ≤ e.2.2 := by omega
    simp [h3, h4]
  · have h4 : 0 ≤ e.2.2 := by omega
    by_cases h5 : 1099511627776 < e.2.2
    · have h6 : ¬ e.2.2 ≤ 1099511627776 := by omega
      simp [h3, h4, h5, h6]
    · have h6 : e.2.2 ≤ 1099511627776 := by omega
      simp [h3, h4, h5, h6]

set_option maxHeartbeats 2000000 in
set_option maxRecDepth 100000 in
theorem fault_walk (v : Value) (es : List Ed) (n : Int) (w : World) (h : EdR w v es) :
    Calls Try.prog 22 #[.agg #[.int .i64 n, v]] w fun e w' => e = .returned (.int .i64 (faultE n es)) ∧ Below w.heap.size w w' := by
  have HR : Hid (EdR w v es) := h
  obtain ⟨a, cap, rfl, hc, hm, _, _⟩ := h
  unfold maxLen at hm
  by_cases hn : 0 ≤ n ∧ n ≤ 200
  · have i0 := in_yes hn
    by_cases h2 : 600 < es.length
    · rw [fault_size (by omega)]
      have h2' : (600 : Int) < (es.length : Int) := by omega
      go_enter Try.func22, Try.ntmps22
      go_wp2_with (go_at_call 14; refine (in_any _ _ _ _).mono ?_; rw [i0]; rintro e w1 ⟨rfl, rfl⟩)
      go_ret
      exact ⟨rfl, below_alloc _ _⟩
    · have h2' : ¬ (600 : Int) < (es.length : Int) := by omega
      have HF : Hid (∀ b : Bool, es.any (outE n) = b → faultE n es = if b then 2 else 0) := fun b hb => fault_any (by omega) b hb
      generalize faultE n es = fe at *
      have hw1 : IntKind.i64.wrap (n - 1) = n - 1 := wrap_id64 (by omega) (by omega)
      go_enter Try.func22, Try.ntmps22
      go_wp2_with (go_at_call 14; refine (in_any _ _ _ _).mono ?_; rw [i0]; rintro e w1 ⟨rfl, rfl⟩)
      go_loopw [3] (fun i wr => ∃ k : Nat, k ≤ es.length ∧ i = .int .i64 k ∧ (es.take k).any (outE n) = false ∧ Below (w.heap.size + 1) (w.alloc (.cells #[.int .i64 n, .slice a es.length cap] 24)) wr) (fun i _ => es.length - (intOf i).toNat)
      case atStart => exact ⟨0, by omega, rfl, rfl, Below.refl _ _⟩
      case round =>
        obtain ⟨k, hk, rfl, hno, hbel⟩ := hrel
        have HNO : Hid ((es.take k).any (outE n) = false) := hno
        obtain ⟨b0, b1⟩ := gbox_cells hbel
        have HB : Hid (Below w.heap.size w wr) := box_below hbel
        have HB' : Hid (Below (w.heap.size + 1) (w.alloc (.cells #[.int .i64 n, .slice a es.length cap] 24)) wr) := hbel
        have hsr : w.heap.size + 1 ≤ wr.heap.size := by have := hbel.size; simpa using this
        clear hno hbel
        by_cases hlt : k < es.length
        · obtain ⟨b, off, cap', e1, _, _, lt, hv⟩ := EdR.at (HR.out.below HB.out (Nat.le_refl _)) (by omega)
          injection e1 with e1 _ e3
          subst e1 e3
          obtain ⟨x, hx⟩ := getE hlt
          obtain ⟨c1, c2, c3⟩ := hv k x hx
          have HX : Hid (es[k]? = some x) := hx
          have HO := out_in n x
          clear hv hx
          obtain ⟨xf, xt, xc⟩ := x
          simp only at c1 c2 c3 HO
          have q0 : ∀ X, (wr.alloc X).cell? ⟨w.heap.size, 0, none⟩ = some (.int .i64 n) := fun X => ((below_alloc wr X).cell (p := ⟨w.heap.size, 0, none⟩) (show w.heap.size < wr.heap.size by omega)).trans b0
          cases j1 : inB xf 0 (n - 1)
          · have HA : Hid (es.any (outE n) = true) := any_hit HX.out (by rw [HO, j1]; rfl)
            go_wp2_with (go_at_call 14; refine (in_any _ _ _ _).mono ?_; rw [j1]; rintro e w1 ⟨rfl, rfl⟩)
            go_ret
            exact ⟨by rw [HF.out _ HA.out]; rfl, HB.out.trans ((below_alloc _ _).mono (by omega))⟩
          · cases j2 : inB xt 0 (n - 1)
            · have HA : Hid (es.any (outE n) = true) := any_hit HX.out (by rw [HO, j1, j2]; rfl)
              go_wp2_with (go_at_call 14; refine (in_any _ _ _ _).mono ?_; (first | rw [j1] | rw [j2]); rintro e w1 ⟨rfl, rfl⟩)
              go_ret
              exact ⟨by rw [HF.out _ HA.out]; rfl, HB.out.trans ((below_alloc _ _).mono (by omega))⟩
            · cases j3 : inB xc 0 1099511627776
              · have HA : Hid (es.any (outE n) = true) := any_hit HX.out (by rw [HO, j1, j2, j3]; rfl)
                go_wp2_with (go_at_call 14; refine (in_any _ _ _ _).mono ?_; (first | rw [j1] | rw [j2] | rw [j3]); rintro e w1 ⟨rfl, rfl⟩)
                go_ret
                exact ⟨by rw [HF.out _ HA.out]; rfl, HB.out.trans ((below_alloc _ _).mono (by omega))⟩
              · have HN2 : Hid ((es.take (k + 1)).any (outE n) = false) := any_step HX.out HNO.out (by rw [HO, j1, j2, j3]; rfl)
                go_wp2_with (go_at_call 14; refine (in_any _ _ _ _).mono ?_; (first | rw [j1] | rw [j2] | rw [j3]); rintro e w1 ⟨rfl, rfl⟩)
                go_roundw
                case rel => exact ⟨k + 1, by omega, by go_num, HN2.out, HB'.out.trans ((below_alloc _ _).mono (by omega))⟩
                case measure => simp [intOf]; omega
        · have ek : k = es.length := by omega
          have HA : Hid (es.any (outE n) = false) := any_miss (by rw [← ek]; exact HNO.out)
          clear ek
          go_wp2_with fail
          go_ret
          exact ⟨by rw [HF.out _ HA.out]; rfl, HB.out⟩
  · have i0 := in_no hn
    rw [fault_size (by omega)]
    go_enter Try.func22, Try.ntmps22
    go_wp2_with (go_at_call 14; refine (in_any _ _ _ _).mono ?_; rw [i0]; rintro e w1 ⟨rfl, rfl⟩)
    go_ret
    exact ⟨rfl, below_alloc _ _⟩
end Go.Proofs.Ytinijeejfnehmaa

namespace Go.Proofs.Ytinijeejfnehmaa
set_option maxRecDepth 100000
open Go.ChangeShapes Go.WideShapes Go.ChangeAt Go.RowKit

set_option maxHeartbeats 1000000 in
set_option maxRecDepth 100000 in
theorem jobFault_any (v : Value) (es : List Ed) (n k s : Int) (w : World) (h : EdR w v es) :
    Calls Try.prog 13 #[.agg #[.int .i64 n, v, .int .i64 k, .int .i64 s]] w fun e w' => e = .returned (.int .i64 (jobE n es k s)) ∧ Below w.heap.size w w' := by
  have HR : Hid (EdR w v es) := h
  obtain ⟨a, cap, rfl, _, _, _, _⟩ := h
  have HCK : Hid (∀ X, EdR X (.slice a es.length cap) es → Calls Try.prog 22 #[.agg #[.int .i64 n, .slice a es.length cap]] X fun e w' => e = .returned (.int .i64 (faultE n es)) ∧ Below X.heap.size X w') := fun X hX => fault_walk _ es n X hX
  obtain ⟨W0, hW0⟩ : ∃ W0, W0 = w.alloc (.cells #[.int .i64 n, .slice a es.length cap, .int .i64 k, .int .i64 s] 26) := ⟨_, rfl⟩
  have Q0 : BX 26 W0 w.heap.size #[.int .i64 n, .slice a es.length cap, .int .i64 k, .int .i64 s] := by rw [hW0]; exact BX.new _ _ _
  have BH : Hid (Below w.heap.size w W0) := by show Below _ _ _; rw [hW0]; exact below_alloc _ _
  have s1 : w.heap.size + 1 ≤ W0.heap.size := by rw [hW0]; simp
  have HK : Hid (∀ X, Below W0.heap.size W0 X → BX 26 X w.heap.size #[.int .i64 n, .slice a es.length cap, .int .i64 k, .int .i64 s] ∧ Below w.heap.size w X) := fun X hX => ⟨Q0.below hX (by omega), BH.out.trans (hX.mono (by omega))⟩
  have R0 : Hid (EdR W0 (.slice a es.length cap) es) := HR.out.below BH.out (Nat.le_refl _)
  obtain ⟨q0, q1, q2, q3⟩ := Q0.all4
  clear Q0
  by_cases hf : faultE n es = 0
  · obtain ⟨hn0, hn1, _, _⟩ := fault_ok hf
    rw [hf] at HCK
    have CK : Hid (∀ X, Calls Try.prog 14 #[.int .i64 k, .int .i64 1, .int .i64 3] X fun e w' => e = .returned (.bool (inB k 1 3)) ∧ w' = X) := fun X => in_any k 1 3 X
    have CS : Hid (∀ X, Calls Try.prog 14 #[.int .i64 s, .int .i64 0, .int .i64 (n - 1)] X fun e w' => e = .returned (.bool (inB s 0 (n - 1))) ∧ w' = X) := fun X => in_any s 0 (n - 1) X
    have wn : IntKind.i64.wrap (n - 1) = n - 1 := wrap_id64 (by omega) (by omega)
    by_cases hk : 1 ≤ k ∧ k ≤ 3
    · rw [show inB k 1 3 = true from inB_iff.2 hk] at CK
      by_cases h1 : k = 1
      · by_cases hs : 0 ≤ s ∧ s < n
        · rw [show inB s 0 (n - 1) = true from inB_iff.2 (by omega)] at CS
          have HE : Hid (jobE n es k s = 0) := jobE_ok hf hk fun _ => hs
          generalize jobE n es k s = je at *
          have t1 : (k == 1) = true := by simpa using h1
          clear hf hs hk h1
          go_enter Try.func13, Try.ntmps13
          go_upto_region 1 with fail
          rw [← hW0]
          clear hW0
          go_wp2_with fail
          refine (HCK.out _ R0.out).mono ?_
          rintro e w1 ⟨rfl, hb1⟩
          obtain ⟨Q1, b1⟩ := HK.out _ hb1
          have B1 : Hid (Below w.heap.size w w1) := b1
          clear q0 q1 q2 q3 HCK
          obtain ⟨q0, q1, q2, q3⟩ := Q1.all4
          clear hb1 Q1 b1
          go_wp2_with fail
          refine (CK.out _).mono ?_
          rintro e w2 ⟨rfl, hw⟩
          replace hw := hw.symm
          subst hw
          go_wp2_with fail
          refine (CS.out _).mono ?_
          rintro e w2 ⟨rfl, hw⟩
          replace hw := hw.symm
          subst hw
          go_wp2_with fail
          go_ret
          exact ⟨by rw [HE.out]; rfl, B1.out⟩
        · rw [show inB s 0 (n - 1) = false from by rw [Bool.eq_false_iff]; intro g; exact hs (by have := inB_iff.1 g; omega)] at CS
          have HE : Hid (jobE n es k s = 2) := jobE_src hf h1 hs
          generalize jobE n es k s = je at *
          have t1 : (k == 1) = true := by simpa using h1
          clear hf hs hk h1
          go_enter Try.func13, Try.ntmps13
          go_upto_region 1 with fail
          rw [← hW0]
          clear hW0
          go_wp2_with fail
          refine (HCK.out _ R0.out).mono ?_
          rintro e w1 ⟨rfl, hb1⟩
          obtain ⟨Q1, b1⟩ := HK.out _ hb1
          have B1 : Hid (Below w.heap.size w w1) := b1
          clear q0 q1 q2 q3 HCK
          obtain ⟨q0, q1, q2, q3⟩ := Q1.all4
          clear hb1 Q1 b1
          go_wp2_with fail
          refine (CK.out _).mono ?_
          rintro e w2 ⟨rfl, hw⟩
          replace hw := hw.symm
          subst hw
          go_wp2_with fail
          refine (CS.out _).mono ?_
          rintro e w2 ⟨rfl, hw⟩
          replace hw := hw.symm
          subst hw
          go_wp2_with fail
          go_ret
          exact ⟨by rw [HE.out]; rfl, B1.out⟩
      · have HE : Hid (jobE n es k s = 0) := jobE_ok hf hk fun g => absurd g h1
        generalize jobE n es k s = je at *
        have t1 : (k == 1) = false := by simpa using h1
        clear hf hk h1
        go_enter Try.func13, Try.ntmps13
        go_upto_region 1 with fail
        rw [← hW0]
        clear hW0
        go_wp2_with fail
        refine (HCK.out _ R0.out).mono ?_
        rintro e w1 ⟨rfl, hb1⟩
        obtain ⟨Q1, b1⟩ := HK.out _ hb1
        have B1 : Hid (Below w.heap.size w w1) := b1
        clear q0 q1 q2 q3 HCK
        obtain ⟨q0, q1, q2, q3⟩ := Q1.all4
        clear hb1 Q1 b1
        go_wp2_with fail
        refine (CK.out _).mono ?_
        rintro e w2 ⟨rfl, hw⟩
        replace hw := hw.symm
        subst hw
        go_wp2_with fail
        go_ret
        exact ⟨by rw [HE.out]; rfl, B1.out⟩
    · rw [show inB k 1 3 = false from by rw [Bool.eq_false_iff]; intro g; exact hk (inB_iff.1 g)] at CK
      have HE : Hid (jobE n es k s = 3) := jobE_kind hf hk
      generalize jobE n es k s = je at *
      clear hf hk
      go_enter Try.func13, Try.ntmps13
      go_upto_region 1 with fail
      rw [← hW0]
      clear hW0
      go_wp2_with fail
      refine (HCK.out _ R0.out).mono ?_
      rintro e w1 ⟨rfl, hb1⟩
      obtain ⟨Q1, b1⟩ := HK.out _ hb1
      have B1 : Hid (Below w.heap.size w w1) := b1
      clear q0 q1 q2 q3 HCK
      obtain ⟨q0, q1, q2, q3⟩ := Q1.all4
      clear hb1 Q1 b1
      go_wp2_with fail
      refine (CK.out _).mono ?_
      rintro e w2 ⟨rfl, hw⟩
      replace hw := hw.symm
      subst hw
      go_wp2_with fail
      go_ret
      exact ⟨by rw [HE.out]; rfl, B1.out⟩
  · have HE : Hid (jobE n es k s = faultE n es) := jobE_bad hf
    generalize jobE n es k s = je at *
    generalize faultE n es = fe at *
    have t0 : (fe != 0) = true := by simpa using hf
    clear hf
    go_enter Try.func13, Try.ntmps13
    go_upto_region 1 with fail
    rw [← hW0]
    clear hW0
    go_wp2_with fail
    refine (HCK.out _ R0.out).mono ?_
    rintro e w1 ⟨rfl, hb1⟩
    have B1 : Hid (Below w.heap.size w w1) := (HK.out _ hb1).2
    clear hb1 q0 q1 q2 q3 HCK
    go_wp2_with fail
    go_ret
    exact ⟨by rw [HE.out]; rfl, B1.out⟩
end Go.Proofs.Ytinijeejfnehmaa

namespace Go.Proofs.Ytinijeejfnehmaa
set_option maxRecDepth 100000
open Go.ChangeShapes Go.WideShapes Go.ChangeAt Go.RowKit

set_option maxHeartbeats 2000000 in
set_option maxRecDepth 100000 in
theorem taskFault_any (v : Value) (es : List Ed) (n k s wk ev bu : Int) (w : World) (h : EdR w v es) :
    Calls Try.prog 7 #[.agg #[.int .i64 n, v, .int .i64 k, .int .i64 s, .int .i64 wk, .int .i64 ev, .int .i64 bu]] w fun e w' => e = .returned (.int .i64 (taskE n es k s wk ev bu)) ∧ Below w.heap.size w w' := by
  have HR : Hid (EdR w v es) := h
  obtain ⟨a, cap, rfl⟩ := h.shape
  clear h
  have CJ : Hid (∀ X, EdR X (.slice a es.length cap) es → Calls Try.prog 13 #[.agg #[.int .i64 n, .slice a es.length cap, .int .i64 k, .int .i64 s]] X fun e w' => e = .returned (.int .i64 (jobE n es k s)) ∧ Below X.heap.size X w') := fun X hX => jobFault_any _ es n k s X hX
  have C1 : Hid (∀ X, Calls Try.prog 14 #[.int .i64 wk, .int .i64 1, .int .i64 8] X fun e w' => e = .returned (.bool (inB wk 1 8)) ∧ w' = X) := fun X => in_any wk 1 8 X
  have C2 : Hid (∀ X, Calls Try.prog 14 #[.int .i64 ev, .int .i64 1, .int .i64 100000] X fun e w' => e = .returned (.bool (inB ev 1 100000)) ∧ w' = X) := fun X => in_any ev 1 100000 X
  have C3 : Hid (∀ X, Calls Try.prog 14 #[.int .i64 bu, .int .i64 1, .int .i64 1000] X fun e w' => e = .returned (.bool (inB bu 1 1000)) ∧ w' = X) := fun X => in_any bu 1 1000 X
  obtain ⟨W0, hW0⟩ : ∃ W0, W0 = w.alloc (.cells #[.int .i64 n, .slice a es.length cap, .int .i64 k, .int .i64 s, .int .i64 wk, .int .i64 ev, .int .i64 bu] 28) := ⟨_, rfl⟩
  have Q0 : BX 28 W0 w.heap.size #[.int .i64 n, .slice a es.length cap, .int .i64 k, .int .i64 s, .int .i64 wk, .int .i64 ev, .int .i64 bu] := by rw [hW0]; exact BX.new _ _ _
  have B0 : Below w.heap.size w W0 := by rw [hW0]; exact below_alloc _ _
  have s1 : w.heap.size + 1 ≤ W0.heap.size := by rw [hW0]; simp
  have HK : Hid (∀ X, Below W0.heap.size W0 X → BX 28 X w.heap.size #[.int .i64 n, .slice a es.length cap, .int .i64 k, .int .i64 s, .int .i64 wk, .int .i64 ev, .int .i64 bu] ∧ Below w.heap.size w X ∧ EdR X (.slice a es.length cap) es) := fun X hX => by
    have hb := B0.trans (hX.mono (show w.heap.size ≤ W0.heap.size by omega))
    exact ⟨Q0.below hX (by omega), hb, HR.out.below hb (Nat.le_refl _)⟩
  have A0 : Hid (Below W0.heap.size W0 W0) := Below.refl _ _
  obtain ⟨q0, q1, q2, q3⟩ : _ ∧ _ ∧ _ ∧ _ := ⟨Q0.cell 0, Q0.cell 1, Q0.cell 2, Q0.cell 3⟩
  simp at q0 q1 q2 q3
  clear Q0 B0 HR
  by_cases hj : jobE n es k s = 0
  case neg =>
    have HE : Hid (taskE n es k s wk ev bu = jobE n es k s) := taskE_bad hj
    have t0 : (jobE n es k s != 0) = true := by simp [hj]
    generalize taskE n es k s wk ev bu = te at *
    generalize jobE n es k s = je at *
    clear hj C1 C2 C3
    go_enter Try.func7, Try.ntmps7
    go_upto_region 1 with fail
    rw [← hW0]
    clear hW0
    go_wp2_with fail
    refine (CJ.out _ (HK.out _ A0.out).2.2).mono ?_
    rintro e w1 ⟨rfl, hb1⟩
    obtain ⟨Q1, b1, _⟩ := HK.out _ hb1
    have B1 : Hid (Below w.heap.size w w1) := b1
    clear q0 q1 q2 q3
    clear hb1 Q1 b1
    go_wp2_with fail
    go_ret
    exact ⟨by rw [HE.out]; rfl, B1.out⟩
  rw [hj] at CJ
  by_cases h1 : 1 ≤ wk ∧ wk ≤ 8
  case neg =>
    rw [show inB wk 1 8 = false from in_no h1] at C1
    have HE : Hid (taskE n es k s wk ev bu = 2) := taskE_no hj (fun g => h1 g.1)
    generalize taskE n es k s wk ev bu = te at *
    clear hj h1
    go_enter Try.func7, Try.ntmps7
    go_upto_region 1 with fail
    rw [← hW0]
    clear hW0
    go_wp2_with fail
    refine (CJ.out _ (HK.out _ A0.out).2.2).mono ?_
    rintro e w1 ⟨rfl, hb1⟩
    obtain ⟨Q1, b1, _⟩ := HK.out _ hb1
    have B1 : Hid (Below w.heap.size w w1) := b1
    clear q0 q1 q2 q3
    obtain ⟨q4, q5, q6⟩ : _ ∧ _ ∧ _ := ⟨Q1.cell 4, Q1.cell 5, Q1.cell 6⟩
    simp at q4 q5 q6
    clear hb1 Q1 b1
    go_wp2_with fail
    refine (C1.out _).mono ?_
    rintro e w2 ⟨rfl, hw⟩
    replace hw := hw.symm
    subst hw
    go_wp2_with fail
    go_ret
    exact ⟨by rw [HE.out]; rfl, B1.out⟩
  by_cases h2 : 1 ≤ ev ∧ ev ≤ 100000
  case neg =>
    rw [show inB wk 1 8 = true from in_yes h1] at C1
    rw [show inB ev 1 100000 = false from in_no h2] at C2
    have HE : Hid (taskE n es k s wk ev bu = 2) := taskE_no hj (fun g => h2 g.2.1)
    generalize taskE n es k s wk ev bu = te at *
    clear hj h1 h2
    go_enter Try.func7, Try.ntmps7
    go_upto_region 1 with fail
    rw [← hW0]
    clear hW0
    go_wp2_with fail
    refine (CJ.out _ (HK.out _ A0.out).2.2).mono ?_
    rintro e w1 ⟨rfl, hb1⟩
    obtain ⟨Q1, b1, _⟩ := HK.out _ hb1
    have B1 : Hid (Below w.heap.size w w1) := b1
    clear q0 q1 q2 q3
    obtain ⟨q4, q5, q6⟩ : _ ∧ _ ∧ _ := ⟨Q1.cell 4, Q1.cell 5, Q1.cell 6⟩
    simp at q4 q5 q6
    clear hb1 Q1 b1
    go_wp2_with fail
    refine (C1.out _).mono ?_
    rintro e w2 ⟨rfl, hw⟩
    replace hw := hw.symm
    subst hw
    go_wp2_with fail
    refine (C2.out _).mono ?_
    rintro e w2 ⟨rfl, hw⟩
    replace hw := hw.symm
    subst hw
    go_wp2_with fail
    go_ret
    exact ⟨by rw [HE.out]; rfl, B1.out⟩
  by_cases h3 : 1 ≤ bu ∧ bu ≤ 1000
  case neg =>
    rw [show inB wk 1 8 = true from in_yes h1] at C1
    rw [show inB ev 1 100000 = true from in_yes h2] at C2
    rw [show inB bu 1 1000 = false from in_no h3] at C3
    have HE : Hid (taskE n es k s wk ev bu = 2) := taskE_no hj (fun g => h3 g.2.2)
    generalize taskE n es k s wk ev bu = te at *
    clear hj h1 h2 h3
    go_enter Try.func7, Try.ntmps7
    go_upto_region 1 with fail
    rw [← hW0]
    clear hW0
    go_wp2_with fail
    refine (CJ.out _ (HK.out _ A0.out).2.2).mono ?_
    rintro e w1 ⟨rfl, hb1⟩
    obtain ⟨Q1, b1, _⟩ := HK.out _ hb1
    have B1 : Hid (Below w.heap.size w w1) := b1
    clear q0 q1 q2 q3
    obtain ⟨q4, q5, q6⟩ : _ ∧ _ ∧ _ := ⟨Q1.cell 4, Q1.cell 5, Q1.cell 6⟩
    simp at q4 q5 q6
    clear hb1 Q1 b1
    go_wp2_with fail
    refine (C1.out _).mono ?_
    rintro e w2 ⟨rfl, hw⟩
    replace hw := hw.symm
    subst hw
    go_wp2_with fail
    refine (C2.out _).mono ?_
    rintro e w2 ⟨rfl, hw⟩
    replace hw := hw.symm
    subst hw
    go_wp2_with fail
    refine (C3.out _).mono ?_
    rintro e w2 ⟨rfl, hw⟩
    replace hw := hw.symm
    subst hw
    go_wp2_with fail
    go_ret
    exact ⟨by rw [HE.out]; rfl, B1.out⟩
  rw [show inB wk 1 8 = true from in_yes h1] at C1
  rw [show inB ev 1 100000 = true from in_yes h2] at C2
  rw [show inB bu 1 1000 = true from in_yes h3] at C3
  have HE : Hid (taskE n es k s wk ev bu = 0) := taskE_ok hj ⟨h1, h2, h3⟩
  generalize taskE n es k s wk ev bu = te at *
  clear hj h1 h2 h3
  go_enter Try.func7, Try.ntmps7
  go_upto_region 1 with fail
  rw [← hW0]
  clear hW0
  go_wp2_with fail
  refine (CJ.out _ (HK.out _ A0.out).2.2).mono ?_
  rintro e w1 ⟨rfl, hb1⟩
  obtain ⟨Q1, b1, _⟩ := HK.out _ hb1
  have B1 : Hid (Below w.heap.size w w1) := b1
  clear q0 q1 q2 q3
  obtain ⟨q4, q5, q6⟩ : _ ∧ _ ∧ _ := ⟨Q1.cell 4, Q1.cell 5, Q1.cell 6⟩
  simp at q4 q5 q6
  clear hb1 Q1 b1
  go_wp2_with fail
  refine (C1.out _).mono ?_
  rintro e w2 ⟨rfl, hw⟩
  replace hw := hw.symm
  subst hw
  go_wp2_with fail
  refine (C2.out _).mono ?_
  rintro e w2 ⟨rfl, hw⟩
  replace hw := hw.symm
  subst hw
  go_wp2_with fail
  refine (C3.out _).mono ?_
  rintro e w2 ⟨rfl, hw⟩
  replace hw := hw.symm
  subst hw
  go_wp2_with fail
  go_ret
  exact ⟨by rw [HE.out]; rfl, B1.out⟩
end Go.Proofs.Ytinijeejfnehmaa

namespace Go.Proofs.Ytinijeejfnehmaa
set_option maxRecDepth 100000
open Go.ChangeShapes Go.WideShapes Go.ChangeAt Go.RowKit Go.Sort

theorem in_is {v a b : Int} {t : Bool} (h : inB v a b = t) (w : World) :
    Calls Try.prog 14 #[.int .i64 v, .int .i64 a, .int .i64 b] w fun e w' => e = .returned (.bool t) ∧ w' = w := by
  have := in_any v a b w
  rwa [h] at this
set_option maxHeartbeats 1000000 in
theorem kindMay_none {k p : Int} (h : ¬ (k = 1 ∧ p = 0) ∧ ¬ (k = 2 ∧ p = 0) ∧ ¬ (k = 3 ∧ p = 0) ∧ ¬ (k = 3 ∧ p = 1)) (w : World) :
    Calls Try.prog 41 #[.int .i64 k, .int .i64 p] w fun e w' => e = .returned (.bool false) ∧ w' = w := by
  obtain ⟨h1, h2, h3, h4⟩ := h
  cases hi : inB k 1 3
  · have C : Hid (∀ X, Calls Try.prog 14 #[.int .i64 k, .int .i64 1, .int .i64 3] X fun e w' => e = .returned (.bool false) ∧ w' = X) := fun X => in_is hi X
    clear h1 h2 h3 h4 hi
    go_enter Try.func41, Try.ntmps41
    go_wp2_with fail
    refine (C.out _).mono ?_
    rintro e w1 ⟨rfl, hw⟩
    replace hw := hw.symm
    subst hw
    go_wp2_with fail
    go_ret
    exact ⟨rfl, rfl⟩
  · have C : Hid (∀ X, Calls Try.prog 14 #[.int .i64 k, .int .i64 1, .int .i64 3] X fun e w' => e = .returned (.bool true) ∧ w' = X) := fun X => in_is hi X
    have hk := inB_iff.1 hi
    have p0 : (p == 0) = false := by
      simp only [beq_eq_false_iff_ne]
      rintro rfl
      have : k = 1 ∨ k = 2 ∨ k = 3 := by omega
      rcases this with e | e | e
      · exact h1 ⟨e, rfl⟩
      · exact h2 ⟨e, rfl⟩
      · exact h3 ⟨e, rfl⟩
    by_cases e3 : k = 3
    · have k3 : (k == 3) = true := by simpa using e3
      have p1 : (p == 1) = false := by
        simp only [beq_eq_false_iff_ne]
        exact fun e => h4 ⟨e3, e⟩
      clear h1 h2 h3 h4 hi hk e3
      go_enter Try.func41, Try.ntmps41
      go_wp2_with fail
      refine (C.out _).mono ?_
      rintro e w1 ⟨rfl, hw⟩
      replace hw := hw.symm
      subst hw
      go_wp2_with fail
      go_ret
      exact ⟨rfl, rfl⟩
    · have k3 : (k == 3) = false := by simpa using e3
      clear h1 h2 h3 h4 hi hk e3
      go_enter Try.func41, Try.ntmps41
      go_wp2_with fail
      refine (C.out _).mono ?_
      rintro e w1 ⟨rfl, hw⟩
      replace hw := hw.symm
      subst hw
      go_wp2_with fail
      go_ret
      exact ⟨rfl, rfl⟩
set_option maxHeartbeats 1000000 in
theorem kindMay_any (j : Jb) (w : World) :
    Calls Try.prog 41 #[.int .i64 (Jb.k j), .int .i64 (Jb.p j)] w fun e w' => e = .returned (.bool true) ∧ w' = w := by
  have C : Hid (∀ X, Calls Try.prog 14 #[.int .i64 (Jb.k j), .int .i64 1, .int .i64 3] X fun e w' => e = .returned (.bool true) ∧ w' = X) := fun X => in_is (by revert j; exact jb_cases rfl rfl rfl rfl) X
  revert j
  refine jb_cases ?_ ?_ ?_ ?_
  all_goals intro C
  all_goals simp only [Jb.k, Jb.p, Bool.and_true, Bool.and_false, Bool.and_self, if_true, Bool.false_eq_true, if_false] at C ⊢
  all_goals go_enter Try.func41, Try.ntmps41
  all_goals go_wp2_with fail
  all_goals refine (C.out _).mono ?_
  all_goals rintro e w1 ⟨rfl, hw⟩
  all_goals replace hw := hw.symm
  all_goals subst hw
  all_goals go_wp2_with fail
  all_goals go_ret
  all_goals exact ⟨rfl, rfl⟩
set_option maxHeartbeats 1000000 in
theorem topR_any (j : Jb) (w : World) :
    Calls Try.prog 43 #[.int .i64 (Jb.k j)] w fun e w' => e = .returned (.int .i64 (Jb.top j)) ∧ w' = w := by
  revert j
  refine jb_cases ?_ ?_ ?_ ?_
  all_goals simp only [Jb.k, Jb.top, Bool.or_true, Bool.or_false, Bool.or_self, if_true, Bool.false_eq_true, if_false]
  all_goals go_enter Try.func43, Try.ntmps43
  all_goals go_wp2_with fail
  all_goals go_ret
  all_goals exact ⟨rfl, rfl⟩

set_option maxHeartbeats 1000000 in
set_option maxRecDepth 100000 in
theorem valueMay_any (j : Jb) (x : Ml) (w : World) :
    Calls Try.prog 42 #[.int .i64 (Jb.k j), .agg #[.int .i64 x.1, .int .i64 x.2]] w fun e w' => e = .returned (.bool (valB j x)) ∧ RowKit.Below w.heap.size w w' := by
  have hF := topR_any j
  unfold valB
  generalize Jb.top j = T at *
  generalize Jb.k j = kk at *
  obtain ⟨W, hW⟩ : ∃ W, w.alloc (.cells #[.int .i64 x.1, .int .i64 x.2] 53) = W := ⟨_, rfl⟩
  have hX : BX 53 W w.heap.size #[.int .i64 x.1, .int .i64 x.2] := by rw [← hW]; exact BX.new _ _ _
  have HB : Hid (RowKit.Below w.heap.size w W) := by show RowKit.Below _ _ _; rw [← hW]; exact below_alloc _ _
  obtain ⟨c0, c1, _⟩ := hX.all2
  have g0 := cell_regrown c0
  have g1 := cell_regrown c1
  have EG : ∀ d os, Calls Try.prog 43 #[.int .i64 kk] (grow (redrawn W d) os) fun e w'' => e = .returned (.int .i64 T) ∧ ∃ p : Regrown, w'' = grow (redrawn W p.d) p.os := fun d os => Calls.regrown_of ((hF _).mono (fun e w' h => ⟨h.1, by rw [h.2]; exact Below.refl _ _⟩))
  have EW : ∀ v a b d os, Calls Try.prog 14 #[.int .i64 v, .int .i64 a, .int .i64 b] (grow (redrawn W d) os) fun e w'' => e = .returned (.bool (inB v a b)) ∧ ∃ p : Regrown, w'' = grow (redrawn W p.d) p.os := fun v a b d os => Calls.regrown_of ((in_any v a b _).mono (fun e w' h => ⟨h.1, by rw [h.2]; exact Below.refl _ _⟩))
  clear hF hX c0 c1
  cases h1 : inB x.1 (-1) T
  · go_enter Try.func42, Try.ntmps42
    go_upto_region 1 with fail
    refine wp_region_quiet_below (by kernel_rfl) (by kernel_rfl) ?_
    repeat (quiet_step (first | (go_at_call 14; exact EW _ _ _ _ _) | exact EG _ _))
    refine wpQuiet_nil ?_
    intro _ hw'
    obtain ⟨⟨dq, osq⟩, hw''⟩ := hw'
    have HB9 : Hid (RowKit.Below W.heap.size W (grow (redrawn W dq) osq)) := below_regrown W dq osq
    subst hw''
    generalize grow (redrawn W dq) osq = W9 at HB9 ⊢
    have HC : Hid (RowKit.Below w.heap.size w W9) := HB.out.trans (HB9.out.mono HB.out.size)
    clear g0 g1 EG EW
    go_wp2_with fail
    go_ret
    exact ⟨rfl, HC.out⟩
  · cases h2 : inB x.2 (-1) 199
    all_goals go_enter Try.func42, Try.ntmps42
    all_goals go_upto_region 1 with fail
    all_goals refine wp_region_quiet_below (by kernel_rfl) (by kernel_rfl) ?_
    all_goals repeat (quiet_step (first | (go_at_call 14; exact EW _ _ _ _ _) | exact EG _ _))
    all_goals refine wpQuiet_nil ?_
    all_goals intro _ hw'
    all_goals obtain ⟨⟨dq, osq⟩, hw''⟩ := hw'
    all_goals have HB9 : Hid (RowKit.Below W.heap.size W (grow (redrawn W dq) osq)) := below_regrown W dq osq
    all_goals subst hw''
    all_goals generalize grow (redrawn W dq) osq = W9 at HB9 ⊢
    all_goals have HC : Hid (RowKit.Below w.heap.size w W9) := HB.out.trans (HB9.out.mono HB.out.size)
    all_goals clear g0 g1 EG EW
    all_goals go_wp2_with fail
    all_goals go_ret
    all_goals exact ⟨rfl, HC.out⟩

set_option maxHeartbeats 1000000 in
set_option maxRecDepth 100000 in
theorem leastMail_any (v : Value) (m : List Int) (w : World) (h : InR w v m) :
    Calls Try.prog 44 #[v] w fun e w' => e = .returned (.int .i64 (leastF m)) ∧ w' = w := by
  have HR : Hid (InR w v m) := h
  obtain ⟨a, cap, rfl, hca, hma, _, _⟩ := h
  unfold maxLen at hma
  have HL : Hid (leastF m = m.foldl leastS (-1)) := rfl
  generalize leastF m = R at *
  go_enter Try.func44, Try.ntmps44
  go_wp2_with fail
  go_loopw [3, 4] (fun u i wr => ∃ (k : Nat) (s : Int), k ≤ m.length ∧ i = .int .i64 k ∧ u = .int .i64 s ∧ (m.take k).foldl leastS (-1) = s ∧ wr = w) (fun _ i _ => m.length - (intOf i).toNat)
  case atStart => exact ⟨0, -1, by omega, rfl, rfl, rfl, rfl⟩
  case round =>
    obtain ⟨k, s, hk, rfl, rfl, hs, rfl⟩ := hrel
    have HS : Hid ((m.take k).foldl leastS (-1) = s) := hs
    clear hs
    by_cases hlt : k < m.length
    · obtain ⟨xa, oa, cap', e1, _, _, la, hva⟩ := InR.at HR.out (by omega)
      injection e1 with e1 _ e3
      subst e1 e3
      obtain ⟨y, hy⟩ := getX hlt
      have p0 : (0 : Int) ≤ (k : Int) := by omega
      have p1 : (k : Int) < (m.length : Int) := by omega
      have c1 := hva k y hy
      have HY : Hid (m[k]? = some y) := hy
      clear hva hy
      by_cases e1 : s < 0
      · have HF : Hid ((m.take (k + 1)).foldl leastS (-1) = y) := by
          show (m.take (k + 1)).foldl leastS (-1) = y
          rw [fold_snoc _ _ HY.out, HS.out]
          exact if_pos (.inl e1)
        go_wp2_with fail
        go_roundw
        case rel => exact ⟨k + 1, y, by omega, by go_num, rfl, HF.out, trivial⟩
        case measure => simp [intOf]; omega
      · by_cases e2 : y < s
        · have HF : Hid ((m.take (k + 1)).foldl leastS (-1) = y) := by
            show (m.take (k + 1)).foldl leastS (-1) = y
            rw [fold_snoc _ _ HY.out, HS.out]
            exact if_pos (.inr e2)
          go_wp2_with fail
          go_roundw
          case rel => exact ⟨k + 1, y, by omega, by go_num, rfl, HF.out, trivial⟩
          case measure => simp [intOf]; omega
        · have HF : Hid ((m.take (k + 1)).foldl leastS (-1) = s) := by
            show (m.take (k + 1)).foldl leastS (-1) = s
            rw [fold_snoc _ _ HY.out, HS.out]
            exact if_neg (by omega)
          go_wp2_with fail
          go_roundw
          case rel => exact ⟨k + 1, s, by omega, by go_num, rfl, HF.out, trivial⟩
          case measure => simp [intOf]; omega
    · have HF : Hid (R = s) := by
        show R = s
        rw [HL.out]
        have := HS.out
        rwa [List.take_of_length_le (by omega)] at this
      go_wp2_with fail
      go_ret
      exact ⟨ret_i64 HF.out.symm, rfl⟩

set_option maxHeartbeats 1000000 in
theorem waysOf_none {k p : Int} (h : ¬ (k = 1 ∧ p = 0) ∧ ¬ (k = 2 ∧ p = 0) ∧ ¬ (k = 3 ∧ p = 0) ∧ ¬ (k = 3 ∧ p = 1)) (w : World) :
    Calls Try.prog 29 #[.int .i64 k, .int .i64 p] w fun e w' => e = .returned (.tuple #[.bool false, .bool false, .int .i64 3]) ∧ w' = w := by
  have C : Hid (∀ w, Calls Try.prog 41 #[.int .i64 k, .int .i64 p] w fun e w' => e = .returned (.bool false) ∧ w' = w) := fun w => kindMay_none h w
  clear h
  go_enter Try.func29, Try.ntmps29
  go_wp2_with fail
  refine (C.out _).mono ?_
  rintro e w1 ⟨rfl, hw⟩
  replace hw := hw.symm
  subst hw
  go_wp2_with fail
  go_ret3
  exact ⟨rfl, rfl⟩
set_option maxHeartbeats 1000000 in
theorem waysOf_any (j : Jb) (w : World) :
    Calls Try.prog 29 #[.int .i64 (Jb.k j), .int .i64 (Jb.p j)] w fun e w' => e = .returned (.tuple #[.bool (wayJ j).1, .bool (wayJ j).2, .int .i64 0]) ∧ w' = w := by
  have C : Hid (∀ X, Calls Try.prog 41 #[.int .i64 (Jb.k j), .int .i64 (Jb.p j)] X fun e w' => e = .returned (.bool true) ∧ w' = X) := fun X => kindMay_any j X
  revert j
  refine jb_cases ?_ ?_ ?_ ?_
  all_goals intro C
  all_goals simp only [Jb.k, Jb.p, wayJ, Bool.and_true, Bool.and_false, Bool.and_self, if_true, Bool.false_eq_true, if_false] at C ⊢
  all_goals go_enter Try.func29, Try.ntmps29
  all_goals go_wp2_with fail
  all_goals refine (C.out _).mono ?_
  all_goals rintro e w1 ⟨rfl, hw⟩
  all_goals replace hw := hw.symm
  all_goals subst hw
  all_goals go_wp2_with fail
  all_goals go_ret3
  all_goals exact ⟨rfl, rfl⟩
end Go.Proofs.Ytinijeejfnehmaa

namespace Go.Proofs.Ytinijeejfnehmaa
set_option maxRecDepth 100000
open Go.ChangeShapes Go.WideShapes Go.ChangeAt Go.RowKit Go.Sort

set_option maxHeartbeats 4000000 in
set_option maxRecDepth 100000 in
theorem stateMay_any (ea : Option Addr) (el ec m : Nat) (k s : Int) (T : StS) (vv vm : Value) (w : World) (hv : MlR w vv T.vals) (hm : LiR w vm T.mail) (hn : m ≤ 200) (hml : ∀ l ∈ T.mail, l.length ≤ 140737488355328) :
    Calls Try.prog 26 #[.agg #[.int .i64 (m : Int), .slice ea el ec, .int .i64 k, .int .i64 s], .agg #[.int .i64 T.step, .int .i64 T.phase, .bool T.fresh, .bool T.done, vv, vm]] w fun e w' => e = .returned (.bool (mayR m k T)) ∧ Below w.heap.size w w' := by
  obtain ⟨step, phase, fr, dn, vs, ms⟩ := T
  simp only at hv hm hml ⊢
  have HML : Hid (∀ l ∈ ms, l.length ≤ 140737488355328) := hml
  clear hml
  have HV : Hid (MlR w vv vs) := hv
  have HM : Hid (LiR w vm ms) := hm
  obtain ⟨va, vc, rfl, hvc, hvm, _, _⟩ := hv
  obtain ⟨ma, mc, rfl, hmc, hmm, _⟩ := hm
  unfold maxLen at hvm hmm
  obtain ⟨W0, hW0⟩ : ∃ W0, W0 = (w.alloc (.cells #[.int .i64 (m : Int), .slice ea el ec, .int .i64 k, .int .i64 s] 26)).alloc (.cells #[.int .i64 step, .int .i64 phase, .bool fr, .bool dn, .slice va vs.length vc, .slice ma ms.length mc] 42) := ⟨_, rfl⟩
  obtain ⟨Q0, T0, B0, s1, s2⟩ := boxes2 w #[.int .i64 (m : Int), .slice ea el ec, .int .i64 k, .int .i64 s] #[.int .i64 step, .int .i64 phase, .bool fr, .bool dn, .slice va vs.length vc, .slice ma ms.length mc] 26 42 W0 hW0
  have BH : Hid (Below w.heap.size w W0) := B0
  have HK : Hid (∀ X, Below W0.heap.size W0 X → BX 26 X w.heap.size #[.int .i64 (m : Int), .slice ea el ec, .int .i64 k, .int .i64 s] ∧ BX 42 X (w.heap.size + 1) #[.int .i64 step, .int .i64 phase, .bool fr, .bool dn, .slice va vs.length vc, .slice ma ms.length mc] ∧ Below w.heap.size w X) := fun X hX => ⟨Q0.below hX (by omega), T0.below hX (by omega), BH.out.trans (hX.mono (by omega))⟩
  obtain ⟨q0, q1, q2, q3⟩ := Q0.all4
  obtain ⟨⟨c0, c1, c2, c3, c4, c5⟩, _⟩ := T0.all6
  clear Q0 T0 B0
  cases hst : inB step 0 100000 with
  | false =>
    have HE : Hid (mayR m k ⟨step, phase, fr, dn, vs, ms⟩ = false) := mayR_step hst
    have CS : Hid (∀ X, Calls Try.prog 14 #[.int .i64 step, .int .i64 0, .int .i64 100000] X fun e w' => e = .returned (.bool false) ∧ w' = X) := fun X => in_is hst X
    generalize mayR m k ⟨step, phase, fr, dn, vs, ms⟩ = r at *
    go_enter Try.func26, Try.ntmps26
    go_upto_region 1 with fail
    rw [← hW0]
    clear hW0
    go_wp2_with fail
    refine (CS.out _).mono ?_
    rintro e w2 ⟨rfl, hw⟩
    replace hw := hw.symm
    subst hw
    go_wp2_with fail
    go_ret
    exact ⟨by rw [HE.out]; rfl, BH.out⟩
  | true =>
    have CS : Hid (∀ X, Calls Try.prog 14 #[.int .i64 step, .int .i64 0, .int .i64 100000] X fun e w' => e = .returned (.bool true) ∧ w' = X) := fun X => in_is hst X
    rcases jobF_cases k phase with ⟨hj, hj'⟩ | ⟨j, rfl, rfl⟩
    · have HE : Hid (mayR m k ⟨step, phase, fr, dn, vs, ms⟩ = false) := mayR_none hj
      have CK : Hid (∀ X, Calls Try.prog 41 #[.int .i64 k, .int .i64 phase] X fun e w' => e = .returned (.bool false) ∧ w' = X) := fun X => kindMay_none hj' X
      generalize mayR m k ⟨step, phase, fr, dn, vs, ms⟩ = r at *
      clear hj hj'
      go_enter Try.func26, Try.ntmps26
      go_upto_region 1 with fail
      rw [← hW0]
      clear hW0
      go_wp2_with fail
      refine (CS.out _).mono ?_
      rintro e w2 ⟨rfl, hw⟩
      replace hw := hw.symm
      subst hw
      go_wp2_with fail
      refine (CK.out _).mono ?_
      rintro e w2 ⟨rfl, hw⟩
      replace hw := hw.symm
      subst hw
      go_wp2_with fail
      go_ret
      exact ⟨by rw [HE.out]; rfl, BH.out⟩
    · have CK : Hid (∀ X, Calls Try.prog 41 #[.int .i64 (Jb.k j), .int .i64 (Jb.p j)] X fun e w' => e = .returned (.bool true) ∧ w' = X) := fun X => kindMay_any j X
      have HJF : Hid (jobF (Jb.k j) (Jb.p j) = some j) := jobF_of j
      have CT : Hid (∀ X, Calls Try.prog 43 #[.int .i64 (Jb.k j)] X fun e w' => e = .returned (.int .i64 (Jb.top j)) ∧ w' = X) := fun X => topR_any j X
      have CV : Hid (∀ (x : Ml) X, Calls Try.prog 42 #[.int .i64 (Jb.k j), .agg #[.int .i64 x.1, .int .i64 x.2]] X fun e w' => e = .returned (.bool (valB j x)) ∧ Below X.heap.size X w') := fun x X => valueMay_any j x X
      generalize Jb.k j = kk at *
      generalize Jb.p j = pp at *
      by_cases hlv : vs.length = m
      · by_cases hlm : ms.length = m
        · have HE : Hid (mayR m kk ⟨step, pp, fr, dn, vs, ms⟩ = ((vs.all fun x => valB j x) && (ms.all fun l => mlOk j l) && !(fr && dn) && !(decide (0 < manyL ms) && (fr || dn)) && decide (manyL ms ≤ 5000))) := mayR_of (t := ⟨step, pp, fr, dn, vs, ms⟩) HJF.out hst hlv hlm
          obtain ⟨r, hr⟩ : ∃ r, mayR m kk ⟨step, pp, fr, dn, vs, ms⟩ = r := ⟨_, rfl⟩
          rw [hr] at HE ⊢
          have HFV : Hid (∀ (a : Nat) (x : Ml), vs[a]? = some x → valB j x = false → r = false) := fun a x hx hb => by
            rw [HE.out, show (vs.all fun x => valB j x) = false from by rw [Bool.eq_false_iff]; intro g; have := List.all_eq_true.1 g x (List.mem_of_getElem? hx); rw [hb] at this; cases this]
            rfl
          have HFM : Hid (∀ (a : Nat) (l : List Int), ms[a]? = some l → mlOk j l = false → r = false) := fun a l hl hb => by
            rw [HE.out, show (ms.all fun l => mlOk j l) = false from by rw [Bool.eq_false_iff]; intro g; have := List.all_eq_true.1 g l (List.mem_of_getElem? hl); rw [hb] at this; cases this]
            simp
          have HOK : Hid ((∀ (a : Nat) (x : Ml), vs[a]? = some x → valB j x = true) → (∀ (a : Nat) (l : List Int), ms[a]? = some l → mlOk j l = true) → r = (!(fr && dn) && !(decide (0 < manyL ms) && (fr || dn)) && decide (manyL ms ≤ 5000))) := fun h1 h2 => by
            rw [HE.out, show (vs.all fun x => valB j x) = true from List.all_eq_true.2 fun x hx => by obtain ⟨i, hi, rfl⟩ := List.getElem_of_mem hx; exact h1 i _ (List.getElem?_eq_getElem hi), show (ms.all fun l => mlOk j l) = true from List.all_eq_true.2 fun x hx => by obtain ⟨i, hi, rfl⟩ := List.getElem_of_mem hx; exact h2 i _ (List.getElem?_eq_getElem hi)]
            simp
          have HLV : Hid (vs.length = m) := hlv
          have HLM : Hid (ms.length = m) := hlm
          have t1 : ((vs.length : Int) != (m : Int)) = false := by simp; omega
          have t2 : ((ms.length : Int) != (m : Int)) = false := by simp; omega
          have z1 : m ≤ vs.length := by omega
          have z2 : m ≤ ms.length := by omega
          have HMT : Hid (∀ a, a ≤ m → manyL (ms.take a) ≤ 28147497671065600) := fun a ha => by
            have h1 := manyL_most (m := ms.take a) (B := 140737488355328) fun l hl => HML.out l (List.mem_of_mem_take hl)
            have h2 : (ms.take a).length ≤ 200 := by rw [List.length_take]; omega
            have h3 : (ms.take a).length * 140737488355328 ≤ 200 * 140737488355328 := Nat.mul_le_mul_right _ h2
            omega
          clear hlv hlm hr HE HJF
          go_enter Try.func26, Try.ntmps26
          go_upto_region 1 with fail
          rw [← hW0]
          clear hW0
          go_wp2_with fail
          refine (CS.out _).mono ?_
          rintro e w2 ⟨rfl, hw⟩
          replace hw := hw.symm
          subst hw
          go_wp2_with fail
          refine (CK.out _).mono ?_
          rintro e w2 ⟨rfl, hw⟩
          replace hw := hw.symm
          subst hw
          go_wp2_with fail
          clear t1 t2 q0 q1 q2 q3 c0 c1 c2 c3 c4 c5
          go_loopw [5, 6] (fun mn i wr => ∃ a : Nat, a ≤ m ∧ i = .int .i64 a ∧ mn = .int .i64 (manyL (ms.take a) : Nat) ∧ (∀ (b : Nat) (x : Ml), b < a → vs[b]? = some x → valB j x = true) ∧ (∀ (b : Nat) (l : List Int), b < a → ms[b]? = some l → mlOk j l = true) ∧ Below W0.heap.size W0 wr) (fun _ i _ => m - (intOf i).toNat)
          case atStart => exact ⟨0, by omega, rfl, rfl, fun b x h => by omega, fun b l h => by omega, Below.refl _ _⟩
          case round =>
            obtain ⟨a, ha, rfl, rfl, hA, hB, hbel⟩ := hrel
            have AV : Hid (∀ (b : Nat) (x : Ml), b < a → vs[b]? = some x → valB j x = true) := hA
            have AM : Hid (∀ (b : Nat) (l : List Int), b < a → ms[b]? = some l → mlOk j l = true) := hB
            have AB : Hid (Below W0.heap.size W0 wr) := hbel
            have hmt := HMT.out a ha
            obtain ⟨Q1, T1, _⟩ := HK.out _ hbel
            obtain ⟨q0, q1, q2, q3⟩ := Q1.all4
            obtain ⟨⟨c0, c1, c2, c3, c4, c5⟩, _⟩ := T1.all6
            clear hA hB hbel Q1 T1
            by_cases hlt : a < m
            · obtain ⟨_, _, hbw⟩ := HK.out _ AB.out
              have HVX : Hid (∀ X, Below W0.heap.size W0 X → MlR X (.slice va vs.length vc) vs ∧ LiR X (.slice ma ms.length mc) ms) := fun X hX => ⟨HV.out.below (HK.out _ hX).2.2 (Nat.le_refl _), HM.out.below (HK.out _ hX).2.2 (Nat.le_refl _)⟩
              obtain ⟨RV, RM⟩ := HVX.out _ AB.out
              obtain ⟨b1, o1, cap1, e1, lt1, hv1⟩ := MlR.read RV (by omega)
              injection e1 with e1 _ e3
              subst e1 e3
              obtain ⟨b2, o2, cap2, e1, lt2, _, _, hv2⟩ := LiR.at RM (by omega)
              injection e1 with e1 _ e3
              subst e1 e3
              have hlv' := HLV.out
              have hlm' := HLM.out
              obtain ⟨x, hx⟩ : ∃ x, vs[a]? = some x := ⟨_, List.getElem?_eq_getElem (by omega)⟩
              obtain ⟨l, hl⟩ : ∃ l, ms[a]? = some l := ⟨_, List.getElem?_eq_getElem (by omega)⟩
              obtain ⟨d0, d1⟩ := hv1 a x hx
              obtain ⟨u, hu, RI⟩ := hv2 a l hl
              have HX : Hid (vs[a]? = some x) := hx
              have HL : Hid (ms[a]? = some l) := hl
              have p0 : (0 : Int) ≤ (a : Int) := by omega
              have p1 : (a : Int) < (vs.length : Int) := by omega
              have p2 : (a : Int) < (ms.length : Int) := by omega
              have p3 : (a : Int) < (m : Int) := by omega
              clear hv1 hv2 RV RM hbw hx hl RI hu hlv' hlm'
              go_upto_region 7 with fail
              have g0 := cell_regrown d0
              have g1 := cell_regrown d1
              have EE : ∀ d os, Calls Try.prog 42 #[.int .i64 kk, .agg #[.int .i64 x.1, .int .i64 x.2]] (grow (redrawn wr d) os) fun e w'' => e = .returned (.bool (valB j x)) ∧ ∃ p : Regrown, w'' = grow (redrawn wr p.d) p.os := fun d os => Calls.regrown_of (CV.out x _)
              have gq := cell_regrown q2
              have gc := cell_regrown c4
              refine wp_region_quiet_below (by kernel_rfl) (by kernel_rfl) ?_
              repeat (quiet_step (exact EE _ _))
              refine wpQuiet_nil ?_
              intro _ hw'
              obtain ⟨⟨dq, osq⟩, hw''⟩ := hw'
              subst hw''
              have HB9 : Hid (Below wr.heap.size wr (grow (redrawn wr dq) osq)) := below_regrown _ _ _
              generalize grow (redrawn wr dq) osq = W9 at HB9 ⊢
              have A9 : Hid (Below W0.heap.size W0 W9) := AB.out.trans (HB9.out.mono AB.out.size)
              clear g0 g1 gq gc EE q0 q1 q2 q3 c0 c1 c2 c3 c4 c5 d0 d1
              cases hvb : valB j x
              · have HR : Hid (r = false) := HFV.out a x HX.out hvb
                have HBW : Hid (Below w.heap.size w W9) := (HK.out _ A9.out).2.2
                go_wp2_with fail
                go_ret
                exact ⟨by rw [HR.out]; rfl, HBW.out⟩
              · obtain ⟨Q1, T1, _⟩ := HK.out _ A9.out
                obtain ⟨q0, q1, q2, q3⟩ := Q1.all4
                obtain ⟨⟨c0, c1, c2, c3, c4, c5⟩, _⟩ := T1.all6
                clear Q1 T1
                obtain ⟨_, RM⟩ := HVX.out _ A9.out
                obtain ⟨b3, o3, cap2, e1, lt3, _, _, hv3⟩ := LiR.at RM (by omega)
                injection e1 with e1 _ e3
                injection e1 with e1
                injection e1 with e1 e4 _
                subst e1 e3 e4
                obtain ⟨u, hu, RI⟩ := hv3 a l HL.out
                have HRI : Hid (InR W9 u l) := RI
                obtain ⟨la, lc, rfl, hlc, hlm2, _, _⟩ := RI
                unfold maxLen at hlm2
                have HVB : Hid (valB j x = true) := hvb
                clear hv3 RM hvb
                go_wp2_with fail
                clear q0 q1 q2 q3 c0 c1 c2 c3 c4 c5 hu
                go_loopw [8] (fun i wr => ∃ c : Nat, c ≤ l.length ∧ i = .int .i64 c ∧ mlPre j l c ∧ Below W9.heap.size W9 wr) (fun i _ => l.length - (intOf i).toNat)
                case atStart => exact ⟨0, by omega, rfl, mlPre_zero j l, Below.refl _ _⟩
                case round =>
                  obtain ⟨c, hc, rfl, hP, hbel⟩ := hrel
                  have HP : Hid (mlPre j l c) := hP
                  have A10 : Hid (Below W9.heap.size W9 wr) := hbel
                  have A11 : Hid (Below W0.heap.size W0 wr) := A9.out.trans (hbel.mono A9.out.size)
                  have RI : InR wr (.slice la l.length lc) l := HRI.out.below hbel (Nat.le_refl _)
                  clear hP hbel
                  obtain ⟨Q1, T1, hbw⟩ := HK.out _ A11.out
                  obtain ⟨q0, q1, q2, q3⟩ := Q1.all4
                  have HBW : Hid (Below w.heap.size w wr) := hbw
                  clear hbw T1 Q1
                  by_cases hlc2 : c < l.length
                  · obtain ⟨b4, o4, cap4, e1, _, _, lt4, hv4⟩ := InR.at RI (by omega)
                    injection e1 with e1 _ e3
                    subst e1 e3
                    obtain ⟨y, hy⟩ : ∃ y, l[c]? = some y := ⟨_, List.getElem?_eq_getElem hlc2⟩
                    have k1 := hv4 c y hy
                    have HY : Hid (l[c]? = some y) := hy
                    have r0 : (0 : Int) ≤ (c : Int) := by omega
                    have r1 : (c : Int) < (l.length : Int) := by omega
                    cases hin : inB y 0 (Jb.top j)
                    · have HR : Hid (r = false) := HFM.out a l HL.out (mlOk_out HY.out fun g => by rw [inB_iff.2 g] at hin; cases hin)
                      have C2 : Hid (∀ X, Calls Try.prog 14 #[.int .i64 y, .int .i64 0, .int .i64 (Jb.top j)] X fun e w' => e = .returned (.bool false) ∧ w' = X) := fun X => in_is hin X
                      clear hin hy hv4 RI
                      generalize Jb.top j = TT at *
                      go_wp2_with fail
                      go_quiet (first | (go_at_call 43; exact Calls.quiet_of_same (CT.out _)) | (go_at_call 14; exact Calls.quiet_of_same (C2.out _)))
                      go_wp2_with fail
                      go_ret
                      exact ⟨by rw [HR.out]; rfl, below_drewN HBW.out _⟩
                    · have C2 : Hid (∀ X, Calls Try.prog 14 #[.int .i64 y, .int .i64 0, .int .i64 (Jb.top j)] X fun e w' => e = .returned (.bool true) ∧ w' = X) := fun X => in_is hin X
                      have HIN : Hid (0 ≤ y ∧ y ≤ Jb.top j) := inB_iff.1 hin
                      by_cases hc0 : c = 0
                      · subst hc0
                        rw [Nat.add_zero] at k1
                        have HN : Hid (mlPre j l (0 + 1)) := mlPre_next HP.out HY.out HIN.out fun x h => by omega
                        clear hin hy hv4 RI
                        generalize Jb.top j = TT at *
                        go_wp2_with fail
                        go_quiet (first | (go_at_call 43; exact Calls.quiet_of_same (CT.out _)) | (go_at_call 14; exact Calls.quiet_of_same (C2.out _)))
                        go_wp2_with fail
                        go_roundw
                        case rel => exact ⟨0 + 1, by omega, by go_num, HN.out, below_drewN A10.out _⟩
                        case measure => simp [intOf]; omega
                      · obtain ⟨y', hy'⟩ : ∃ y, l[c - 1]? = some y := ⟨_, List.getElem?_eq_getElem (by omega)⟩
                        have k2 := hv4 (c - 1) y' hy'
                        have ec : ((c : Int) - 1) = ((c - 1 : Nat) : Int) := by omega
                        have r2 : (0 : Int) ≤ ((c - 1 : Nat) : Int) := by omega
                        have r3 : ((c - 1 : Nat) : Int) < (l.length : Int) := by omega
                        have hpos : 0 < c := by omega
                        by_cases hf : y < y'
                        · have HR : Hid (r = false) := HFM.out a l HL.out (mlOk_fall (by omega) hy' HY.out hf)
                          clear hin hy hv4 RI hy'
                          generalize Jb.top j = TT at *
                          go_wp2_with fail
                          go_quiet (first | (go_at_call 43; exact Calls.quiet_of_same (CT.out _)) | (go_at_call 14; exact Calls.quiet_of_same (C2.out _)))
                          go_wp2_with fail
                          go_ret
                          exact ⟨by rw [HR.out]; rfl, below_drewN HBW.out _⟩
                        · have HN : Hid (mlPre j l (c + 1)) := mlPre_next HP.out HY.out HIN.out fun x _ h => by rw [hy'] at h; injection h with h; omega
                          clear hin hy hv4 RI hy'
                          generalize Jb.top j = TT at *
                          go_wp2_with fail
                          go_quiet (first | (go_at_call 43; exact Calls.quiet_of_same (CT.out _)) | (go_at_call 14; exact Calls.quiet_of_same (C2.out _)))
                          go_wp2_with fail
                          go_roundw
                          case rel => exact ⟨c + 1, by omega, by go_num, HN.out, below_drewN A10.out _⟩
                          case measure => simp [intOf]; omega
                  · have ecl : c = l.length := by omega
                    subst ecl
                    have HN : Hid (mlOk j l = true) := mlPre_all HP.out
                    have hmt1 := HMT.out (a + 1) (by omega)
                    have HMA : Hid (manyL (ms.take (a + 1)) = manyL (ms.take a) + l.length) := manyL_take HL.out
                    rw [HMA.out] at hmt1
                    clear RI
                    go_wp2_with fail
                    go_roundw
                    case rel =>
                      refine ⟨a + 1, by omega, by go_num, by rw [HMA.out]; go_num, fun b x' hb hx' => ?_, fun b l' hb hl' => ?_, A11.out⟩
                      · by_cases e : b = a
                        · subst e
                          rw [HX.out] at hx'
                          injection hx' with hx'
                          subst hx'
                          exact HVB.out
                        · exact AV.out b x' (by omega) hx'
                      · by_cases e : b = a
                        · subst e
                          rw [HL.out] at hl'
                          injection hl' with hl'
                          subst hl'
                          exact HN.out
                        · exact AM.out b l' (by omega) hl'
                    case measure => simp [intOf]; omega
            · have ea' : a = m := by omega
              subst ea'
              have hOK := HOK.out (fun b x hx => AV.out b x (by have := (List.getElem?_eq_some_iff.1 hx).1; have := HLV.out; omega) hx) fun b l hl => AM.out b l (by have := (List.getElem?_eq_some_iff.1 hl).1; have := HLM.out; omega) hl
              have hfull : ms.take a = ms := List.take_of_length_le (by have := HLM.out; omega)
              rw [hfull] at hmt ⊢
              have HR : Hid (r = (!(fr && dn) && !(decide (0 < manyL ms) && (fr || dn)) && decide (manyL ms ≤ 5000))) := hOK
              have HBW : Hid (Below w.heap.size w wr) := (HK.out _ AB.out).2.2
              clear hOK hfull
              generalize manyL ms = mm at *
              by_cases h0 : 0 < mm
              · by_cases h5 : mm ≤ 5000
                all_goals cases fr
                all_goals cases dn
                all_goals go_wp2_with fail
                all_goals go_ret
                all_goals exact ⟨by rw [HR.out]; simp [h0, h5] <;> omega, HBW.out⟩
              · have e0 : mm = 0 := by omega
                subst e0
                cases fr
                all_goals cases dn
                all_goals go_wp2_with fail
                all_goals go_ret
                all_goals exact ⟨by rw [HR.out]; simp, HBW.out⟩
        · have HE : Hid (mayR m kk ⟨step, pp, fr, dn, vs, ms⟩ = false) := mayR_len fun g => hlm g.2
          generalize mayR m kk ⟨step, pp, fr, dn, vs, ms⟩ = r at *
          have t1 : ((vs.length : Int) != (m : Int)) = false := by simp; omega
          have t2 : ((ms.length : Int) != (m : Int)) = true := by simp; omega
          clear hlv hlm
          go_enter Try.func26, Try.ntmps26
          go_upto_region 1 with fail
          rw [← hW0]
          clear hW0
          go_wp2_with fail
          refine (CS.out _).mono ?_
          rintro e w2 ⟨rfl, hw⟩
          replace hw := hw.symm
          subst hw
          go_wp2_with fail
          refine (CK.out _).mono ?_
          rintro e w2 ⟨rfl, hw⟩
          replace hw := hw.symm
          subst hw
          go_wp2_with fail
          go_ret
          exact ⟨by rw [HE.out]; rfl, BH.out⟩
      · have HE : Hid (mayR m kk ⟨step, pp, fr, dn, vs, ms⟩ = false) := mayR_len fun g => hlv g.1
        generalize mayR m kk ⟨step, pp, fr, dn, vs, ms⟩ = r at *
        have t1 : ((vs.length : Int) != (m : Int)) = true := by simp; omega
        clear hlv
        go_enter Try.func26, Try.ntmps26
        go_upto_region 1 with fail
        rw [← hW0]
        clear hW0
        go_wp2_with fail
        refine (CS.out _).mono ?_
        rintro e w2 ⟨rfl, hw⟩
        replace hw := hw.symm
        subst hw
        go_wp2_with fail
        refine (CK.out _).mono ?_
        rintro e w2 ⟨rfl, hw⟩
        replace hw := hw.symm
        subst hw
        go_wp2_with fail
        go_ret
        exact ⟨by rw [HE.out]; rfl, BH.out⟩
end Go.Proofs.Ytinijeejfnehmaa

namespace Go.Proofs.Ytinijeejfnehmaa
set_option maxRecDepth 100000
open Go.ChangeShapes Go.WideShapes Go.ChangeAt Go.RowKit Go.Sort

theorem take_most {α : Type} (l : List α) (k : Nat) : (l.take k).length ≤ k := by rw [List.length_take]; omega

set_option maxHeartbeats 4000000 in
set_option maxRecDepth 100000 in
theorem stateCopy_any (T : StS) (vv vm : Value) (w : World) (hv : MlR w vv T.vals) (hm : LiR w vm T.mail) (hb1 : T.vals.length * 16 ≤ 140737488355328) (hb2 : T.mail.length * 24 ≤ 140737488355328) (hb3 : ∀ l ∈ T.mail, l.length * 8 ≤ 140737488355328) :
    Calls Try.prog 27 #[.agg #[.int .i64 T.step, .int .i64 T.phase, .bool T.fresh, .bool T.done, vv, vm]] w fun e w' => ∃ v1 v2, e = .returned (.agg #[.int .i64 T.step, .int .i64 T.phase, .bool T.fresh, .bool T.done, v1, v2]) ∧ w'.ownsRow w.heap.size 53 2 v1 T.vals.length (T.vals.flatMap encM) ∧ OwnLi w' w.heap.size v2 T.mail ∧ Below w.heap.size w w' := by
  obtain ⟨step, phase, fr, dn, vs, ms⟩ := T
  simp only at hv hm hb1 hb2 hb3 ⊢
  have HML : Hid (∀ l ∈ ms, l.length * 8 ≤ 140737488355328) := hb3
  clear hb3
  have HV : Hid (MlR w vv vs) := hv
  have HM : Hid (LiR w vm ms) := hm
  obtain ⟨va, vc, rfl, hvc, hvm, _, _⟩ := hv
  obtain ⟨ma, mc, rfl, hmc, hmm, _⟩ := hm
  unfold maxLen at hvm hmm
  obtain ⟨W0, hW0⟩ : ∃ W0, W0 = (w.alloc (.cells #[.int .i64 step, .int .i64 phase, .bool fr, .bool dn, .slice va vs.length vc, .slice ma ms.length mc] 42)).alloc (.cells #[.int .i64 0, .int .i64 0, .bool false, .bool false, .slice none 0 0, .slice none 0 0] 42) := ⟨_, rfl⟩
  obtain ⟨Q0, T0, B0, s1, s2⟩ := boxes2 w #[.int .i64 step, .int .i64 phase, .bool fr, .bool dn, .slice va vs.length vc, .slice ma ms.length mc] #[.int .i64 0, .int .i64 0, .bool false, .bool false, .slice none 0 0, .slice none 0 0] 42 42 W0 hW0
  have BH : Hid (Below w.heap.size w W0) := B0
  have HK : Hid (∀ X, Below W0.heap.size W0 X → BX 42 X w.heap.size #[.int .i64 step, .int .i64 phase, .bool fr, .bool dn, .slice va vs.length vc, .slice ma ms.length mc] ∧ BX 42 X (w.heap.size + 1) #[.int .i64 0, .int .i64 0, .bool false, .bool false, .slice none 0 0, .slice none 0 0] ∧ Below w.heap.size w X) := fun X hX => ⟨Q0.below hX (by omega), T0.below hX (by omega), BH.out.trans (hX.mono (by omega))⟩
  have HVX : Hid (∀ X, Below W0.heap.size W0 X → MlR X (.slice va vs.length vc) vs ∧ LiR X (.slice ma ms.length mc) ms) := fun X hX => ⟨HV.out.below (HK.out _ hX).2.2 (Nat.le_refl _), HM.out.below (HK.out _ hX).2.2 (Nat.le_refl _)⟩
  clear Q0 T0 B0
  go_enter Try.func27, Try.ntmps27
  go_upto_region 1 with fail
  rw [← hW0]
  clear hW0
  go_wp2_with fail
  go_loopw [3, 5] (fun u i wr => ∃ k : Nat, k ≤ vs.length ∧ i = .int .i64 k ∧ wr.ownsRow W0.heap.size 53 2 u (vs.take k).length ((vs.take k).flatMap encM) ∧ Below W0.heap.size W0 wr) (fun _ i _ => vs.length - (intOf i).toNat)
  case atStart => exact ⟨0, by omega, rfl, World.ownsRow_nil _ _ _ _, Below.refl _ _⟩
  case round =>
    obtain ⟨k, hk, rfl, hown, hbel⟩ := hrel
    have OW : Hid (wr.ownsRow W0.heap.size 53 2 u3 (vs.take k).length ((vs.take k).flatMap encM)) := hown
    have AB : Hid (Below W0.heap.size W0 wr) := hbel
    have hsr := hbel.size
    obtain ⟨ua, un, uc, rfl⟩ : ∃ a n c, u3 = .slice a n c := by
      rcases own_shapeK hown with ⟨e, _⟩ | ⟨g', c', e, _⟩
      · exact ⟨_, _, _, e⟩
      · exact ⟨_, _, _, e⟩
    obtain ⟨Q1, _, _⟩ := HK.out _ hbel
    obtain ⟨⟨c0, c1, c2, c3, c4, c5⟩, _⟩ := Q1.all6
    clear hown hbel Q1
    by_cases hlt : k < vs.length
    · obtain ⟨b1, o1, cap1, e1, lt1, hv1⟩ := MlR.read (HVX.out _ AB.out).1 (by omega)
      injection e1 with e1 _ e3
      subst e1 e3
      obtain ⟨x, hx⟩ : ∃ x, vs[k]? = some x := ⟨_, List.getElem?_eq_getElem hlt⟩
      obtain ⟨d0, d1⟩ := hv1 k x hx
      have HNX : Hid (vs.take (k + 1) = vs.take k ++ [x]) := take_snoc hx
      have hlk := take_most vs k
      have p0 : (0 : Int) ≤ (k : Int) := by omega
      have p1 : (k : Int) < (vs.length : Int) := by omega
      clear hv1 hx
      generalize vs.take k = f at *
      go_wp2_with (at_builtin; refine wpList_append_newK kV rfl _ _ rfl W0.heap.size _ f rfl (OW.out.alloc _) _ x rfl #[.int .i64 x.1, .int .i64 x.2] rfl (0, 0) (heap_alloc_new _ _) (by simp only [kV]; omega) (by unfold maxLen; omega) (by simp; omega) ?_)
      intro g1 k1 w2 ho2 hb2 _
      have O2 : Hid (w2.ownsRow W0.heap.size 53 2 (.slice (some ⟨g1, 0, none⟩) (f.length + 1) k1) (vs.take (k + 1)).length ((vs.take (k + 1)).flatMap encM)) := by
        show World.ownsRow _ _ _ _ _ _ _
        rw [HNX.out, flat_snoc, List.length_append]; exact ho2
      have B2 : Hid (Below W0.heap.size W0 w2) := (AB.out.alloc hsr _).trans hb2
      clear ho2 hb2
      go_wp2_with fail
      go_roundw
      case rel => exact ⟨k + 1, by omega, by go_num, O2.out, B2.out⟩
      case measure => simp [intOf]; omega
    · have ek : k = vs.length := by omega
      subst ek
      rw [List.take_length] at OW
      clear hk hlt
      go_wp2_with fail
      have VO : Hid (wr.ownsRow W0.heap.size 53 2 (.slice ua un uc) vs.length (vs.flatMap encM)) := OW.out
      have A1 : Hid (Below W0.heap.size W0 wr) := AB.out
      have HWS : Hid (W0.heap.size ≤ wr.heap.size) := hsr
      clear OW AB c0 c1 c2 c3 c4 c5 hsr
      generalize wr = WA at *
      clear wr
      go_loopw [4, 6] (fun u i wr => ∃ k : Nat, k ≤ ms.length ∧ i = .int .i64 k ∧ OwnLi wr WA.heap.size u (ms.take k) ∧ Below WA.heap.size WA wr) (fun _ i _ => ms.length - (intOf i).toNat)
      case atStart => exact ⟨0, by omega, rfl, OwnLi.nil _ _, Below.refl _ _⟩
      case round =>
        obtain ⟨k, hk, rfl, hown, hbel⟩ := hrel
        have ML : Hid (OwnLi wr WA.heap.size u4 (ms.take k)) := hown
        have A2 : Hid (Below WA.heap.size WA wr) := hbel
        have A3 : Hid (Below W0.heap.size W0 wr) := A1.out.trans (hbel.mono HWS.out)
        obtain ⟨xa, xc, rfl⟩ := hown.shape
        obtain ⟨Q1, T1, hbw⟩ := HK.out _ A3.out
        obtain ⟨⟨c0, c1, c2, c3, c4, c5⟩, f0, f1, f2, f3, f4, f5⟩ := Q1.all6
        have hsw := hbel.size
        clear hown hbel
        by_cases hlt : k < ms.length
        · obtain ⟨b2, o2, cap2, e1, lt2, _, _, hv2⟩ := LiR.at (HVX.out _ A3.out).2 (by omega)
          injection e1 with e1 _ e3
          subst e1 e3
          obtain ⟨l, hl⟩ : ∃ l, ms[k]? = some l := ⟨_, List.getElem?_eq_getElem hlt⟩
          obtain ⟨u, hu, RI⟩ := hv2 k l hl
          have HCU : Hid (∀ X, Below wr.heap.size wr X → X.cell? ⟨b2, o2 + k, none⟩ = some u ∧ InR X u l) := fun X hX => ⟨(hX.cell (p := ⟨b2, o2 + k, none⟩) lt2).trans hu, RI.below hX (Nat.le_refl _)⟩
          have HNX : Hid (ms.take (k + 1) = ms.take k ++ [l]) := take_snoc hl
          have hlk := take_most ms k
          have hll := HML.out l (List.mem_of_getElem? hl)
          have p0 : (0 : Int) ≤ (k : Int) := by omega
          have p1 : (k : Int) < (ms.length : Int) := by omega
          obtain ⟨la, lc, rfl, hlc, hlm2, _, _⟩ := RI
          unfold maxLen at hlm2
          clear hv2 hl Q1 T1 hbw hu
          have A4 : Hid (Below WA.heap.size WA wr) := A2.out
          have HWB : Hid (WA.heap.size ≤ wr.heap.size) := hsw
          generalize ms.take k = f at *
          go_wp2_with fail
          clear c0 c1 c2 c3 c4 c5 f0 f1 f2 f3 f4 f5
          generalize wr = WB at *
          clear wr
          go_loopw [7, 8] (fun u i wr => ∃ c : Nat, c ≤ l.length ∧ i = .int .i64 c ∧ wr.ownsRow WB.heap.size 3 1 u (l.take c).length ((l.take c).flatMap encI) ∧ Below WB.heap.size WB wr) (fun _ i _ => l.length - (intOf i).toNat)
          case atStart => exact ⟨0, by omega, rfl, World.ownsRow_nil _ _ _ _, Below.refl _ _⟩
          case round =>
            obtain ⟨c, hc, rfl, hown, hbel⟩ := hrel
            have OW : Hid (wr.ownsRow WB.heap.size 3 1 u7 (l.take c).length ((l.take c).flatMap encI)) := hown
            have A5 : Hid (Below WB.heap.size WB wr) := hbel
            have A6 : Hid (Below W0.heap.size W0 wr) := A3.out.trans (hbel.mono (by have := HWS.out; have := HWB.out; omega))
            have hsr := hbel.size
            obtain ⟨ya, yn, yc, rfl⟩ : ∃ a n c, u7 = .slice a n c := by
              rcases own_shapeK hown with ⟨e, _⟩ | ⟨g', c', e, _⟩
              · exact ⟨_, _, _, e⟩
              · exact ⟨_, _, _, e⟩
            obtain ⟨Q1, T1, hbw⟩ := HK.out _ A6.out
            obtain ⟨⟨c0, c1, c2, c3, c4, c5⟩, f0, f1, f2, f3, f4, f5⟩ := Q1.all6
            obtain ⟨hu, RI⟩ := HCU.out _ hbel
            clear hown hbel Q1 T1 hbw
            by_cases hlc2 : c < l.length
            · obtain ⟨b4, o4, cap4, e1, _, _, lt4, hv4⟩ := InR.at RI (by omega)
              injection e1 with e1 _ e3
              subst e1 e3
              obtain ⟨y, hy⟩ : ∃ y, l[c]? = some y := ⟨_, List.getElem?_eq_getElem hlc2⟩
              have d0 := hv4 c y hy
              have HNY : Hid (l.take (c + 1) = l.take c ++ [y]) := take_snoc hy
              have hlk2 := take_most l c
              have r0 : (0 : Int) ≤ (c : Int) := by omega
              have r1 : (c : Int) < (l.length : Int) := by omega
              clear hv4 hy RI
              generalize l.take c = h at *
              go_wp2_with (at_builtin; refine wpList_append_newK kI rfl _ _ rfl WB.heap.size _ h rfl (OW.out.alloc _) _ y rfl #[.int .i64 y] rfl (0, 0) (heap_alloc_new _ _) (by simp only [kI]; omega) (by unfold maxLen; omega) (by simp; omega) ?_)
              intro g1 k1 w2 ho2 hb2 _
              have O2 : Hid (w2.ownsRow WB.heap.size 3 1 (.slice (some ⟨g1, 0, none⟩) (h.length + 1) k1) (l.take (c + 1)).length ((l.take (c + 1)).flatMap encI)) := by
                show World.ownsRow _ _ _ _ _ _ _
                rw [HNY.out, flat_snoc, List.length_append]; exact ho2
              have B2 : Hid (Below WB.heap.size WB w2) := (A5.out.alloc hsr _).trans hb2
              clear ho2 hb2
              go_wp2_with fail
              go_roundw
              case rel => exact ⟨c + 1, by omega, by go_num, O2.out, B2.out⟩
              case measure => simp [intOf]; omega
            · have ec : c = l.length := by omega
              subst ec
              rw [List.take_length] at OW
              clear hc hlc2 RI
              have M5 : Hid (OwnLi wr WA.heap.size (.slice xa f.length xc) f) := ML.out.below A5.out (Nat.le_refl _)
              have P5 : Hid (wr.ownsRow WA.heap.size 3 1 (.slice ya yn yc) l.length (l.flatMap encI)) := own_lower OW.out HWB.out
              have A7 : Hid (Below WA.heap.size WA wr) := A4.out.trans (A5.out.mono HWB.out)
              have hs7 := A7.out.size
              go_wp2_with (at_builtin; refine wpList_append_li rfl _ _ rfl WA.heap.size _ f rfl (M5.out.below (below_alloc _ _) (Nat.le_refl _)) _ (.slice ya yn yc) l rfl (0, 0) (heap_alloc_new _ _) (P5.out.alloc _) (by omega) (by simp; omega) ?_)
              intro g2 k2 w5 hm5 hg5 _
              obtain ⟨mr, hmr⟩ := (M5.out.below (below_alloc wr (.cells #[.slice ya yn yc] 57)) (Nat.le_refl _)).row
              have B5 : Hid (Below WA.heap.size WA w5) := (A7.out.alloc hs7 _).trans ((Below.refl _ _).grown hg5 (by show WA.heap.size ≤ (wr.alloc _).heap.size; simp; omega) (fun q hq => (own_ge hmr hq).1))
              have M6 : Hid (OwnLi w5 WA.heap.size (.slice (some ⟨g2, 0, none⟩) (f.length + 1) k2) (ms.take (k + 1))) := by
                show OwnLi _ _ _ _
                rw [HNX.out]
                exact hm5
              clear hm5 hg5 hmr
              go_wp2_with fail
              go_roundw
              case rel => exact ⟨k + 1, by omega, by go_num, M6.out, B5.out⟩
              case measure => simp [intOf]; omega
        · have ek : k = ms.length := by omega
          subst ek
          rw [List.take_length] at ML ⊢
          have HQ : Hid (BX 42 wr w.heap.size #[.int .i64 step, .int .i64 phase, .bool fr, .bool dn, .slice va vs.length vc, .slice ma ms.length mc] ∧ BX 42 wr (w.heap.size + 1) #[.int .i64 0, .int .i64 0, .bool false, .bool false, .slice none 0 0, .slice none 0 0]) := ⟨Q1, T1⟩
          have V5 : wr.ownsRow W0.heap.size 53 2 (.slice ua un uc) vs.length (vs.flatMap encM) := own_below VO.out A2.out (Nat.le_refl _)
          have L5 : OwnLi wr W0.heap.size (.slice xa ms.length xc) ms := ML.out.lower HWS.out
          have X6 := Q1.set 4 (.slice ua un uc)
          have W6 : Hid (BX 42 (wr.setCell ⟨w.heap.size, 4, none⟩ (.slice ua un uc)) w.heap.size #[.int .i64 step, .int .i64 phase, .bool fr, .bool dn, .slice ua un uc, .slice ma ms.length mc] ∧ BX 42 (wr.setCell ⟨w.heap.size, 4, none⟩ (.slice ua un uc)) (w.heap.size + 1) #[.int .i64 0, .int .i64 0, .bool false, .bool false, .slice none 0 0, .slice none 0 0] ∧ (wr.setCell ⟨w.heap.size, 4, none⟩ (.slice ua un uc)).ownsRow W0.heap.size 53 2 (.slice ua un uc) vs.length (vs.flatMap encM) ∧ OwnLi (wr.setCell ⟨w.heap.size, 4, none⟩ (.slice ua un uc)) W0.heap.size (.slice xa ms.length xc) ms ∧ Below w.heap.size w (wr.setCell ⟨w.heap.size, 4, none⟩ (.slice ua un uc))) :=
            ⟨X6, T1.other (by omega), own_off V5 Q1 (by decide) (Kept.box _ _ _ _), L5.off Q1 (by decide) (by decide) (Kept.box _ _ _ _), hbw.setCell (p := ⟨w.heap.size, 4, none⟩) (Nat.le_refl _) _⟩
          clear V5 L5 X6 HQ Q1 T1 hbw hk hlt
          go_upto_region 17 with fail
          generalize wr.setCell ⟨w.heap.size, 4, none⟩ (.slice ua un uc) = w6 at *
          obtain ⟨X6, T6, V6, L6, B6⟩ := W6.out
          have X7 : BX 42 (w6.setCell ⟨w.heap.size, 5, none⟩ (.slice xa ms.length xc)) w.heap.size #[.int .i64 step, .int .i64 phase, .bool fr, .bool dn, .slice ua un uc, .slice xa ms.length xc] := X6.set 5 _
          have W7 : Hid (BX 42 (w6.setCell ⟨w.heap.size, 5, none⟩ (.slice xa ms.length xc)) w.heap.size #[.int .i64 step, .int .i64 phase, .bool fr, .bool dn, .slice ua un uc, .slice xa ms.length xc] ∧ BX 42 (w6.setCell ⟨w.heap.size, 5, none⟩ (.slice xa ms.length xc)) (w.heap.size + 1) #[.int .i64 0, .int .i64 0, .bool false, .bool false, .slice none 0 0, .slice none 0 0] ∧ (w6.setCell ⟨w.heap.size, 5, none⟩ (.slice xa ms.length xc)).ownsRow W0.heap.size 53 2 (.slice ua un uc) vs.length (vs.flatMap encM) ∧ OwnLi (w6.setCell ⟨w.heap.size, 5, none⟩ (.slice xa ms.length xc)) W0.heap.size (.slice xa ms.length xc) ms ∧ Below w.heap.size w (w6.setCell ⟨w.heap.size, 5, none⟩ (.slice xa ms.length xc))) :=
            ⟨X7, T6.other (by omega), own_off V6 X6 (by decide) (Kept.box _ _ _ _), L6.off X6 (by decide) (by decide) (Kept.box _ _ _ _), B6.setCell (p := ⟨w.heap.size, 5, none⟩) (Nat.le_refl _) _⟩
          clear c0 c1 c2 c3 c4 c5 f0 f1 f2 f3 f4 f5
          obtain ⟨⟨c0, c1, c2, c3, c4, c5⟩, f0, f1, f2, f3, f4, f5⟩ := X6.all6
          clear X6 T6 V6 L6 B6 X7 W6
          go_upto_region 18 with fail
          generalize w6.setCell ⟨w.heap.size, 5, none⟩ (.slice xa ms.length xc) = w7 at *
          obtain ⟨X8, T8, V8, L8, B8⟩ := W7.out
          have VE : Hid ((put6 w7 (w.heap.size + 1) (.int .i64 step) (.int .i64 phase) (.bool fr) (.bool dn) (.slice ua un uc) (.slice xa ms.length xc)).ownsRow w.heap.size 53 2 (.slice ua un uc) vs.length (vs.flatMap encM)) := own_lower (own_off V8 T8 (by decide) (kept_put6 w7 (w.heap.size + 1) _ _ _ _ _ _)) (by omega)
          have ME : Hid (OwnLi (put6 w7 (w.heap.size + 1) (.int .i64 step) (.int .i64 phase) (.bool fr) (.bool dn) (.slice ua un uc) (.slice xa ms.length xc)) w.heap.size (.slice xa ms.length xc) ms) := (L8.off T8 (by decide) (by decide) (kept_put6 w7 (w.heap.size + 1) _ _ _ _ _ _)).lower (by omega)
          have RX : Hid (BX 42 (put6 w7 (w.heap.size + 1) (.int .i64 step) (.int .i64 phase) (.bool fr) (.bool dn) (.slice ua un uc) (.slice xa ms.length xc)) (w.heap.size + 1) #[.int .i64 step, .int .i64 phase, .bool fr, .bool dn, .slice ua un uc, .slice xa ms.length xc]) := T8.put6
          have BE : Hid (Below w.heap.size w (put6 w7 (w.heap.size + 1) (.int .i64 step) (.int .i64 phase) (.bool fr) (.bool dn) (.slice ua un uc) (.slice xa ms.length xc))) := below_put6 B8 (by omega) T8.lt _ _ _ _ _ _
          clear c0 c1 c2 c3 c4 c5 f0 f1 f2 f3 f4 f5
          obtain ⟨⟨c0, c1, c2, c3, c4, c5⟩, f0, f1, f2, f3, f4, f5⟩ := X8.all6
          obtain ⟨⟨d0, d1, d2, d3, d4, d5⟩, e0, e1, e2, e3, e4, e5⟩ := T8.all6
          clear X8 T8 V8 L8 B8 W7
          go_wp2_with fail
          obtain ⟨⟨r0, r1, r2, r3, r4, r5⟩, _⟩ := RX.out.all6
          unfold put6 at r0 r1 r2 r3 r4 r5
          refine bodyPost_ret (v := .agg #[.int .i64 step, .int .i64 phase, .bool fr, .bool dn, .slice ua un uc, .slice xa ms.length xc]) (by simp [results, Try.results27, go_sem, r0, r1, r2, r3, r4, r5]) rfl ?_
          exact ⟨_, _, rfl, VE.out, ME.out, BE.out⟩
end Go.Proofs.Ytinijeejfnehmaa

namespace Go.Proofs.Ytinijeejfnehmaa
set_option maxRecDepth 100000
open Go.ChangeShapes Go.WideShapes Go.ChangeAt Go.RowKit Go.Sort

set_option maxHeartbeats 4000000 in
set_option maxRecDepth 100000 in
theorem followed_early (v : Value) (es : List Ed) (n k s : Int) (T : StS) (vv vm : Value) (w : World) (h : EdR w v es) (hv : MlR w vv T.vals) (hm : LiR w vm T.mail) (hml : ∀ l ∈ T.mail, l.length ≤ 140737488355328) (hearly : ¬ (jobE n es k s = 0 ∧ mayR n.toNat k T = true ∧ T.done = false ∧ ¬ 100000 ≤ T.step)) :
    Calls Try.prog 18 #[.agg #[.int .i64 n, v, .int .i64 k, .int .i64 s], .agg #[.int .i64 T.step, .int .i64 T.phase, .bool T.fresh, .bool T.done, vv, vm]] w (StaP w (folE n es k s T)) := by
  have HR : Hid (EdR w v es) := h
  obtain ⟨a, cap, rfl, _, _, _, _⟩ := h
  have HCK : Hid (∀ X, EdR X (.slice a es.length cap) es → Calls Try.prog 13 #[.agg #[.int .i64 n, .slice a es.length cap, .int .i64 k, .int .i64 s]] X fun e w' => e = .returned (.int .i64 (jobE n es k s)) ∧ Below X.heap.size X w') := fun X hX => jobFault_any _ es n k s X hX
  have HV : Hid (MlR w vv T.vals) := hv
  have HM : Hid (LiR w vm T.mail) := hm
  obtain ⟨va, vc, rfl, hvc, hvm, _, _⟩ := hv
  obtain ⟨ma, mc, rfl, hmc, hmm, _⟩ := hm
  unfold maxLen at hvm hmm
  have HSM : Hid (∀ X, jobE n es k s = 0 → MlR X (.slice va T.vals.length vc) T.vals → LiR X (.slice ma T.mail.length mc) T.mail → Calls Try.prog 26 #[.agg #[.int .i64 n, .slice a es.length cap, .int .i64 k, .int .i64 s], .agg #[.int .i64 T.step, .int .i64 T.phase, .bool T.fresh, .bool T.done, .slice va T.vals.length vc, .slice ma T.mail.length mc]] X fun e w' => e = .returned (.bool (mayR n.toNat k T)) ∧ Below X.heap.size X w') := fun X hj h1 h2 => by
    obtain ⟨hf, _, _⟩ := jobE_zero hj
    obtain ⟨hn0, hn1, _, _⟩ := fault_ok hf
    obtain ⟨m, rfl⟩ : ∃ m : Nat, n = m := ⟨n.toNat, by omega⟩
    rw [Int.toNat_natCast]
    exact stateMay_any a es.length cap m k s T _ _ X h1 h2 (by omega) hml
  have HSC : Hid (∀ X, jobE n es k s = 0 → mayR n.toNat k T = true → MlR X (.slice va T.vals.length vc) T.vals → LiR X (.slice ma T.mail.length mc) T.mail → Calls Try.prog 27 #[.agg #[.int .i64 T.step, .int .i64 T.phase, .bool T.fresh, .bool T.done, .slice va T.vals.length vc, .slice ma T.mail.length mc]] X fun e w' => ∃ v1 v2, e = .returned (.agg #[.int .i64 T.step, .int .i64 T.phase, .bool T.fresh, .bool T.done, v1, v2]) ∧ w'.ownsRow X.heap.size 53 2 v1 T.vals.length (T.vals.flatMap encM) ∧ OwnLi w' X.heap.size v2 T.mail ∧ Below X.heap.size X w') := fun X hj hm h1 h2 => by
    obtain ⟨hf, _, _⟩ := jobE_zero hj
    obtain ⟨hn0, hn1, _, _⟩ := fault_ok hf
    obtain ⟨g1, g2, g3⟩ := mayR_size hm
    exact stateCopy_any T _ _ X h1 h2 (by omega) (by omega) fun l hl => by have := manyL_mem hl; omega
  have HE1 : Hid (jobE n es k s ≠ 0 → folE n es k s T = (jobE n es k s, st0)) := folE_bad
  have HE2 : Hid (jobE n es k s = 0 → mayR n.toNat k T = false → folE n es k s T = (9, st0)) := folE_no
  have HE3 : Hid (jobE n es k s = 0 → mayR n.toNat k T = true → T.done = true → folE n es k s T = (0, T)) := folE_done
  have HE4 : Hid (jobE n es k s = 0 → mayR n.toNat k T = true → T.done = false → 100000 ≤ T.step → folE n es k s T = (10, st0)) := folE_full
  have HEA : Hid (¬ (jobE n es k s = 0 ∧ mayR n.toNat k T = true ∧ T.done = false ∧ ¬ 100000 ≤ T.step)) := hearly
  clear hearly
  generalize folE n es k s T = R at *
  generalize mayR n.toNat k T = mr at *
  clear hml
  obtain ⟨step, phase, fr, dn, vs, ms⟩ := T
  simp only at HV HM hvc hvm hmc hmm HSM HSC HE1 HE2 HE3 HE4 HEA ⊢
  obtain ⟨W0, hW0⟩ : ∃ W0, W0 = ((w.alloc (.cells #[.int .i64 n, .slice a es.length cap, .int .i64 k, .int .i64 s] 26)).alloc (.cells #[.int .i64 step, .int .i64 phase, .bool fr, .bool dn, .slice va vs.length vc, .slice ma ms.length mc] 42)).alloc (.cells #[.int .i64 0, .int .i64 0, .bool false, .bool false, .slice none 0 0, .slice none 0 0] 42) := ⟨_, rfl⟩
  obtain ⟨Q0, T0, Z0, B0, s1, s2⟩ := boxes3 w #[.int .i64 n, .slice a es.length cap, .int .i64 k, .int .i64 s] #[.int .i64 step, .int .i64 phase, .bool fr, .bool dn, .slice va vs.length vc, .slice ma ms.length mc] #[.int .i64 0, .int .i64 0, .bool false, .bool false, .slice none 0 0, .slice none 0 0] 26 42 42 W0 hW0
  have BH : Hid (Below w.heap.size w W0) := B0
  have HK : Hid (∀ X, Below W0.heap.size W0 X → BX 26 X w.heap.size #[.int .i64 n, .slice a es.length cap, .int .i64 k, .int .i64 s] ∧ BX 42 X (w.heap.size + 1) #[.int .i64 step, .int .i64 phase, .bool fr, .bool dn, .slice va vs.length vc, .slice ma ms.length mc] ∧ BX 42 X (w.heap.size + 2) #[.int .i64 0, .int .i64 0, .bool false, .bool false, .slice none 0 0, .slice none 0 0] ∧ Below w.heap.size w X) := fun X hX => ⟨Q0.below hX (by omega), T0.below hX (by omega), Z0.below hX (by omega), BH.out.trans (hX.mono (by omega))⟩
  have HNO : Hid (∀ X f, Below W0.heap.size W0 X → R = (f, st0) → BX 42 (put6 X (w.heap.size + 2) (.int .i64 0) (.int .i64 0) (.bool false) (.bool false) (.slice none 0 0) (.slice none 0 0)) (w.heap.size + 2) #[.int .i64 0, .int .i64 0, .bool false, .bool false, .slice none 0 0, .slice none 0 0] ∧ StaP w R (.returned (.tuple #[.agg #[.int .i64 0, .int .i64 0, .bool false, .bool false, .slice none 0 0, .slice none 0 0], .int .i64 f])) (put6 X (w.heap.size + 2) (.int .i64 0) (.int .i64 0) (.bool false) (.bool false) (.slice none 0 0) (.slice none 0 0))) := fun X f hX hR => by
    obtain ⟨_, _, Z1, b1⟩ := HK.out X hX
    refine ⟨Z1.put6, ?_⟩
    rw [hR]
    exact StaP.no (below_put6 b1 (by omega) Z1.lt _ _ _ _ _ _)
  have R0 : Hid (EdR W0 (.slice a es.length cap) es) := HR.out.below BH.out (Nat.le_refl _)
  have HVX : Hid (∀ X, Below W0.heap.size W0 X → MlR X (.slice va vs.length vc) vs ∧ LiR X (.slice ma ms.length mc) ms) := fun X hX => ⟨HV.out.below (HK.out _ hX).2.2.2 (Nat.le_refl _), HM.out.below (HK.out _ hX).2.2.2 (Nat.le_refl _)⟩
  obtain ⟨q0, q1, q2, q3⟩ := Q0.all4
  clear Q0 T0 B0 Z0
  by_cases hj : jobE n es k s = 0
  · replace HSM : Hid (∀ X, Below W0.heap.size W0 X → Calls Try.prog 26 #[.agg #[.int .i64 n, .slice a es.length cap, .int .i64 k, .int .i64 s], .agg #[.int .i64 step, .int .i64 phase, .bool fr, .bool dn, .slice va vs.length vc, .slice ma ms.length mc]] X fun e w' => e = .returned (.bool mr) ∧ Below X.heap.size X w') := fun X hX => HSM.out X hj (HVX.out X hX).1 (HVX.out X hX).2
    replace HSC : Hid (mr = true → ∀ X, Below W0.heap.size W0 X → Calls Try.prog 27 #[.agg #[.int .i64 step, .int .i64 phase, .bool fr, .bool dn, .slice va vs.length vc, .slice ma ms.length mc]] X fun e w' => ∃ v1 v2, e = .returned (.agg #[.int .i64 step, .int .i64 phase, .bool fr, .bool dn, v1, v2]) ∧ w'.ownsRow X.heap.size 53 2 v1 vs.length (vs.flatMap encM) ∧ OwnLi w' X.heap.size v2 ms ∧ Below X.heap.size X w') := fun hmr X hX => HSC.out X hj hmr (HVX.out X hX).1 (HVX.out X hX).2
    replace HE2 : Hid (mr = false → R = (9, st0)) := HE2.out hj
    replace HE3 : Hid (mr = true → dn = true → R = (0, ⟨step, phase, fr, dn, vs, ms⟩)) := HE3.out hj
    replace HE4 : Hid (mr = true → dn = false → R = (10, st0)) := fun g1 g2 => HE4.out hj g1 g2 (Decidable.byContradiction fun g3 => HEA.out ⟨hj, g1, g2, g3⟩)
    have HST : Hid (mr = true → dn = false → 100000 ≤ step) := fun g1 g2 => Decidable.byContradiction fun g3 => HEA.out ⟨hj, g1, g2, g3⟩
    rw [hj] at HCK
    clear hj HE1 HEA
    go_enter Try.func18, Try.ntmps18
    go_upto_region 1 with fail
    rw [← hW0]
    clear hW0
    go_wp2_with fail
    refine (HCK.out _ R0.out).mono ?_
    rintro e w1 ⟨rfl, hb1⟩
    have A1 : Hid (Below W0.heap.size W0 w1) := hb1
    clear q0 q1 q2 q3 HCK hb1
    obtain ⟨Q1, T1, _, _⟩ := HK.out _ A1.out
    obtain ⟨q0, q1, q2, q3⟩ := Q1.all4
    obtain ⟨⟨c0, c1, c2, c3, c4, c5⟩, _⟩ := T1.all6
    have hs1 := A1.out.size
    clear Q1 T1
    go_wp2_with fail
    refine (HSM.out _ A1.out).mono ?_
    rintro e w2 ⟨rfl, hb2⟩
    have A2 : Hid (Below W0.heap.size W0 w2) := A1.out.trans (hb2.mono hs1)
    clear q0 q1 q2 q3 c0 c1 c2 c3 c4 c5 hb2 hs1 HSM A1
    obtain ⟨Q2, T2, Z2, hbw⟩ := HK.out _ A2.out
    obtain ⟨q0, q1, q2, q3⟩ := Q2.all4
    obtain ⟨⟨c0, c1, c2, c3, c4, c5⟩, _⟩ := T2.all6
    obtain ⟨⟨d0, d1, d2, d3, d4, d5⟩, e0, e1, e2, e3, e4, e5⟩ := Z2.all6
    have BW : Hid (Below w.heap.size w w2) := hbw
    clear Q2 T2 Z2 hbw
    cases hmr : mr
    · obtain ⟨rx, hp⟩ := HNO.out _ 9 A2.out (HE2.out hmr)
      have HP : Hid (StaP w R (.returned (.tuple #[.agg #[.int .i64 0, .int .i64 0, .bool false, .bool false, .slice none 0 0, .slice none 0 0], .int .i64 9])) (put6 w2 (w.heap.size + 2) (.int .i64 0) (.int .i64 0) (.bool false) (.bool false) (.slice none 0 0) (.slice none 0 0))) := hp
      have RX : Hid (BX 42 (put6 w2 (w.heap.size + 2) (.int .i64 0) (.int .i64 0) (.bool false) (.bool false) (.slice none 0 0) (.slice none 0 0)) (w.heap.size + 2) #[.int .i64 0, .int .i64 0, .bool false, .bool false, .slice none 0 0, .slice none 0 0]) := rx
      clear hmr hp rx
      go_wp2_with fail
      obtain ⟨⟨r0, r1, r2, r3, r4, r5⟩, _⟩ := RX.out.all6
      unfold put6 at r0 r1 r2 r3 r4 r5
      exact bodyPost_ret (v := .tuple #[.agg #[.int .i64 0, .int .i64 0, .bool false, .bool false, .slice none 0 0, .slice none 0 0], .int .i64 9]) (by simp [results, Try.results18, go_sem, r0, r1, r2, r3, r4, r5]) rfl HP.out
    · cases hdn : dn
      · obtain ⟨rx, hp⟩ := HNO.out _ 10 A2.out (HE4.out hmr hdn)
        have hst := HST.out hmr hdn
        have HP : Hid (StaP w R (.returned (.tuple #[.agg #[.int .i64 0, .int .i64 0, .bool false, .bool false, .slice none 0 0, .slice none 0 0], .int .i64 10])) (put6 w2 (w.heap.size + 2) (.int .i64 0) (.int .i64 0) (.bool false) (.bool false) (.slice none 0 0) (.slice none 0 0))) := hp
        have RX : Hid (BX 42 (put6 w2 (w.heap.size + 2) (.int .i64 0) (.int .i64 0) (.bool false) (.bool false) (.slice none 0 0) (.slice none 0 0)) (w.heap.size + 2) #[.int .i64 0, .int .i64 0, .bool false, .bool false, .slice none 0 0, .slice none 0 0]) := rx
        subst hdn
        clear hmr hp rx
        go_wp2_with fail
        obtain ⟨⟨r0, r1, r2, r3, r4, r5⟩, _⟩ := RX.out.all6
        unfold put6 at r0 r1 r2 r3 r4 r5
        exact bodyPost_ret (v := .tuple #[.agg #[.int .i64 0, .int .i64 0, .bool false, .bool false, .slice none 0 0, .slice none 0 0], .int .i64 10]) (by simp [results, Try.results18, go_sem, r0, r1, r2, r3, r4, r5]) rfl HP.out
      · have HRR : Hid (R = (0, ⟨step, phase, fr, dn, vs, ms⟩)) := HE3.out hmr hdn
        have HCC := HSC.out hmr
        have HC2 : Hid (∀ X, Below W0.heap.size W0 X → Calls Try.prog 27 #[.agg #[.int .i64 step, .int .i64 phase, .bool fr, .bool dn, .slice va vs.length vc, .slice ma ms.length mc]] X fun e w' => ∃ v1 v2, e = .returned (.agg #[.int .i64 step, .int .i64 phase, .bool fr, .bool dn, v1, v2]) ∧ w'.ownsRow X.heap.size 53 2 v1 vs.length (vs.flatMap encM) ∧ OwnLi w' X.heap.size v2 ms ∧ Below X.heap.size X w') := HCC
        subst hdn
        clear hmr HE2 HE3 HE4 HCC HST HSC
        go_wp2_with fail
        refine (HC2.out _ A2.out).mono ?_
        rintro e w3 ⟨v1, v2, rfl, hv1, hv2, hb3⟩
        have hs2 := A2.out.size
        have A3 : Hid (Below W0.heap.size W0 w3) := A2.out.trans (hb3.mono hs2)
        obtain ⟨Q3, T3, Z3, hbw⟩ := HK.out _ A3.out
        have VE : Hid ((put6 w3 (w.heap.size + 2) (.int .i64 step) (.int .i64 phase) (.bool fr) (.bool true) v1 v2).ownsRow w.heap.size 53 2 v1 vs.length (vs.flatMap encM)) := own_lower (own_off hv1 Z3 (by decide) (kept_put6 w3 (w.heap.size + 2) _ _ _ _ _ _)) (by omega)
        have ME : Hid (OwnLi (put6 w3 (w.heap.size + 2) (.int .i64 step) (.int .i64 phase) (.bool fr) (.bool true) v1 v2) w.heap.size v2 ms) := (hv2.off Z3 (by decide) (by decide) (kept_put6 w3 (w.heap.size + 2) _ _ _ _ _ _)).lower (by omega)
        have RX : Hid (BX 42 (put6 w3 (w.heap.size + 2) (.int .i64 step) (.int .i64 phase) (.bool fr) (.bool true) v1 v2) (w.heap.size + 2) #[.int .i64 step, .int .i64 phase, .bool fr, .bool true, v1, v2]) := Z3.put6
        have BE : Hid (Below w.heap.size w (put6 w3 (w.heap.size + 2) (.int .i64 step) (.int .i64 phase) (.bool fr) (.bool true) v1 v2)) := below_put6 hbw (by omega) Z3.lt _ _ _ _ _ _
        have HP : Hid (StaP w R (.returned (.tuple #[.agg #[.int .i64 step, .int .i64 phase, .bool fr, .bool true, v1, v2], .int .i64 0])) (put6 w3 (w.heap.size + 2) (.int .i64 step) (.int .i64 phase) (.bool fr) (.bool true) v1 v2)) := by
          show StaP _ _ _ _
          rw [HRR.out]
          exact StaP.yes (t := ⟨step, phase, fr, true, vs, ms⟩) VE.out ME.out BE.out
        clear q0 q1 q2 q3 c0 c1 c2 c3 c4 c5 d0 d1 d2 d3 d4 d5 e0 e1 e2 e3 e4 e5
        obtain ⟨⟨d0, d1, d2, d3, d4, d5⟩, e0, e1, e2, e3, e4, e5⟩ := Z3.all6
        obtain ⟨a1, n1, k1, rfl⟩ : ∃ a n c, v1 = .slice a n c := by
          rcases own_shapeK hv1 with ⟨e, _⟩ | ⟨g', c', e, _⟩
          · exact ⟨_, _, _, e⟩
          · exact ⟨_, _, _, e⟩
        obtain ⟨a2, k2, rfl⟩ := hv2.shape
        clear hv1 hv2 hb3 hs2 Q3 T3 Z3 hbw
        go_wp2_with fail
        obtain ⟨⟨r0, r1, r2, r3, r4, r5⟩, _⟩ := RX.out.all6
        unfold put6 at r0 r1 r2 r3 r4 r5
        exact bodyPost_ret (v := .tuple #[.agg #[.int .i64 step, .int .i64 phase, .bool fr, .bool true, .slice a1 n1 k1, .slice a2 ms.length k2], .int .i64 0]) (by simp [results, Try.results18, go_sem, r0, r1, r2, r3, r4, r5]) rfl HP.out
  · have HEE : R = (jobE n es k s, st0) := HE1.out hj
    generalize jobE n es k s = je at *
    have t0 : (je != 0) = true := by simpa using hj
    have HRE : Hid (R = (je, st0)) := HEE
    clear hj HE1 HE2 HE3 HE4 HSM HEE HEA HSC
    go_enter Try.func18, Try.ntmps18
    go_upto_region 1 with fail
    rw [← hW0]
    clear hW0
    go_wp2_with fail
    refine (HCK.out _ R0.out).mono ?_
    rintro e w1 ⟨rfl, hb1⟩
    obtain ⟨rx, hp⟩ := HNO.out _ je hb1 HRE.out
    have HP : Hid (StaP w R (.returned (.tuple #[.agg #[.int .i64 0, .int .i64 0, .bool false, .bool false, .slice none 0 0, .slice none 0 0], .int .i64 je])) (put6 w1 (w.heap.size + 2) (.int .i64 0) (.int .i64 0) (.bool false) (.bool false) (.slice none 0 0) (.slice none 0 0))) := hp
    have RX : Hid (BX 42 (put6 w1 (w.heap.size + 2) (.int .i64 0) (.int .i64 0) (.bool false) (.bool false) (.slice none 0 0) (.slice none 0 0)) (w.heap.size + 2) #[.int .i64 0, .int .i64 0, .bool false, .bool false, .slice none 0 0, .slice none 0 0]) := rx
    obtain ⟨_, _, Z1, _⟩ := HK.out _ hb1
    obtain ⟨⟨d0, d1, d2, d3, d4, d5⟩, e0, e1, e2, e3, e4, e5⟩ := Z1.all6
    clear hb1 q0 q1 q2 q3 HCK hp rx Z1
    go_wp2_with fail
    obtain ⟨⟨r0, r1, r2, r3, r4, r5⟩, _⟩ := RX.out.all6
    unfold put6 at r0 r1 r2 r3 r4 r5
    exact bodyPost_ret (v := .tuple #[.agg #[.int .i64 0, .int .i64 0, .bool false, .bool false, .slice none 0 0, .slice none 0 0], .int .i64 je]) (by simp [results, Try.results18, go_sem, r0, r1, r2, r3, r4, r5]) rfl HP.out
end Go.Proofs.Ytinijeejfnehmaa

namespace Go.Proofs.Ytinijeejfnehmaa
set_option maxRecDepth 100000
open Go.ChangeShapes Go.WideShapes Go.ChangeAt Go.RowKit

/-- Is it the vertex itself (fresh), or some of the mail (else). -/
def hereB (b : Bool) (x : Ml) (v : Int) (l : List Int) : Bool := (b && (x.1 == v)) || (!b && hasB l x.1)
theorem hasB_snoc {m : List Int} {k : Nat} {y z : Int} (h : m[k]? = some y) : hasB (m.take (k + 1)) z = (hasB (m.take k) z || (y == z)) := by
  unfold hasB
  rw [take_snoc h, List.any_append]
  simp
theorem labF_of {x : Ml} {t : Bool} (ht : t = true) : labF x t = ((x.1, x.1), true) := by subst ht; rfl
theorem labF_no {x : Ml} {t : Bool} (ht : t = false) : labF x t = (x, false) := by subst ht; rfl
theorem back_eq {v s : Int} {x : Ml} {b : Bool} {m : List Int} (hl : x.2 = -1) : wakeV (true, true) v s x b m = labF x (hereB b x v m) := by
  cases b
  · show hearF (true, true) x m = _
    unfold hearF hereB
    simp only
    rw [if_pos hl]
    simp
  · show beginF (true, true) v s x = _
    unfold beginF hereB
    simp only
    rw [if_pos hl]
    simp
theorem strong_stays {p : Bool} {v s : Int} {x : Ml} {b : Bool} {m : List Int} (hl : ¬ x.2 = -1) : wakeV (true, p) v s x b m = ((x.1, x.2), false) := by
  cases b
  · show hearF (true, p) x m = _
    unfold hearF; cases p <;> (simp only; rw [if_neg hl])
  · show beginF (true, p) v s x = _
    unfold beginF; cases p <;> (simp only; rw [if_neg hl])
end Go.Proofs.Ytinijeejfnehmaa

namespace Go.Proofs.Ytinijeejfnehmaa
set_option maxRecDepth 100000
open Go.ChangeShapes Go.WideShapes Go.ChangeAt Go.RowKit

/-- A value, whether it is said, and an error. -/
def WokP (w : World) (r : Wk) (e : Ending) (w' : World) : Prop :=
  e = .returned (.tuple #[.agg #[.int .i64 r.x.1, .int .i64 r.x.2], .bool r.b, .int .i64 r.f]) ∧ Below w.heap.size w w'

set_option maxHeartbeats 2000000 in
set_option maxRecDepth 100000 in
theorem woken_none {k v s p : Int} {x : Ml} {b : Bool} {m : List Int} (vm : Value) (h : jobF k p = none ∧ ¬ (k = 1 ∧ p = 0) ∧ ¬ (k = 2 ∧ p = 0) ∧ ¬ (k = 3 ∧ p = 0) ∧ ¬ (k = 3 ∧ p = 1)) (w : World) (hm : InR w vm m) :
    Calls Try.prog 28 #[.int .i64 k, .int .i64 v, .int .i64 s, .agg #[.int .i64 x.1, .int .i64 x.2], .int .i64 p, .bool b, vm] w (WokP w (wakeF k v s x p b m)) := by
  obtain ⟨a, cap, rfl⟩ := hm.shape
  clear hm
  rw [wakeF_none h.1]
  have HC : Hid (∀ X, Calls Try.prog 41 #[.int .i64 k, .int .i64 p] X fun e w' => e = .returned (.bool false) ∧ w' = X) := fun X => kindMay_none h.2 X
  obtain ⟨W0, hW0⟩ : ∃ W0, W0 = (w.alloc (.cells #[.int .i64 x.1, .int .i64 x.2] 53)).alloc (.cells #[.int .i64 0, .int .i64 0] 53) := ⟨_, rfl⟩
  obtain ⟨Q0, T0, B0, s1, s2⟩ := boxes2 w #[.int .i64 x.1, .int .i64 x.2] #[.int .i64 0, .int .i64 0] 53 53 W0 hW0
  have HE : Hid (∀ w', Below w.heap.size w w' → WokP w ⟨(0, 0), false, 3⟩ (.returned (.tuple #[.agg #[.int .i64 0, .int .i64 0], .bool false, .int .i64 3])) w') := fun w' hw => ⟨rfl, hw⟩
  generalize WokP w ⟨(0, 0), false, 3⟩ = P at *
  obtain ⟨t0, t1, t2, t3⟩ := T0.all2
  have RX : Hid (BX 53 (put2 W0 (w.heap.size + 1) (.int .i64 0) (.int .i64 0)) (w.heap.size + 1) #[.int .i64 0, .int .i64 0]) := T0.put2 _ _
  have HX : Hid (Below w.heap.size w (put2 W0 (w.heap.size + 1) (.int .i64 0) (.int .i64 0))) := below_put2 B0 (by omega) _ _
  clear Q0 T0 B0 h
  go_enter Try.func28, Try.ntmps28
  go_upto_region 1 with fail
  rw [← hW0]
  clear hW0
  go_wp2_with fail
  refine (HC.out _).mono ?_
  rintro e w1 ⟨rfl, hw⟩
  replace hw := hw.symm
  subst hw
  go_wp2_with fail
  obtain ⟨r0, r1, _⟩ := RX.out.all2
  unfold put2 at r0 r1
  exact bodyPost_ret (v := .tuple #[.agg #[.int .i64 0, .int .i64 0], .bool false, .int .i64 3]) (by simp [results, Try.results28, go_sem, r0, r1]) rfl (HE.out _ HX.out)

theorem wakeJ_no {j : Jb} {v s : Int} {x : Ml} {b : Bool} {m : List Int} (h : (inB v 0 199 && valB j x && mailB j m) = false) : wakeJ j v s x b m = ⟨(0, 0), false, 2⟩ := by
  unfold wakeJ; rw [h]; rfl
theorem wakeJ_yes {j : Jb} {v s : Int} {x : Ml} {b : Bool} {m : List Int} {y : Ml} {t : Bool} (h1 : inB v 0 199 = true) (h2 : valB j x = true) (h3 : mailB j m = true) (h : wakeV j v s x b m = (y, t)) : wakeJ j v s x b m = ⟨(y.1, y.2), t, 0⟩ := by
  unfold wakeJ; rw [h1, h2, h3, h]; rfl
theorem dist_low {v s : Int} {x : Ml} {m : List Int} {r : Ml × Bool} (h : lowV x m = r) : wakeV (false, false) v s x false m = r := h
theorem weak_low {v s : Int} {x : Ml} {m : List Int} {r : Ml × Bool} (h : lowV x m = r) : wakeV (false, true) v s x false m = r := h
theorem fwd_low {v s : Int} {x : Ml} {m : List Int} {r : Ml × Bool} (hl : x.2 = -1) (h : lowV x m = r) : wakeV (true, false) v s x false m = r := by
  show hearF (true, false) x m = r
  unfold hearF; simp only; rw [if_pos hl]; exact h
theorem fwd_new {v s : Int} {x : Ml} {m : List Int} (hl : x.2 = -1) : wakeV (true, false) v s x true m = ((v, -1), true) := by
  show beginF (true, false) v s x = _
  unfold beginF; simp only; rw [if_pos hl]
theorem dist_src {v s : Int} {x : Ml} {m : List Int} (h : v = s) : wakeV (false, false) v s x true m = ((0, -1), true) := by
  show beginF (false, false) v s x = _
  unfold beginF; simp only; rw [if_pos h]
theorem dist_oth {v s : Int} {x : Ml} {m : List Int} (h : ¬ v = s) : wakeV (false, false) v s x true m = ((-1, -1), false) := by
  show beginF (false, false) v s x = _
  unfold beginF; simp only; rw [if_neg h]
/-- What the document says of the least one. -/
theorem low_yes {x : Ml} {m : List Int} (hx : -1 ≤ x.1) (hm : ∀ y ∈ m, 0 ≤ y) (h : 0 ≤ leastF m ∧ (x.1 < 0 ∨ leastF m < x.1)) : lowV x m = ((leastF m, x.2), true) := by
  unfold lowV; rw [(low_eq x.1 m hx hm).1 h]
theorem low_no {x : Ml} {m : List Int} (hx : -1 ≤ x.1) (hm : ∀ y ∈ m, 0 ≤ y) (h : ¬ (0 ≤ leastF m ∧ (x.1 < 0 ∨ leastF m < x.1))) : lowV x m = ((x.1, x.2), false) := by
  unfold lowV; rw [(low_eq x.1 m hx hm).2 h]

set_option maxHeartbeats 8000000 in
set_option maxRecDepth 100000 in
theorem woken_job (j : Jb) (v s : Int) (x : Ml) (b : Bool) (m : List Int) (vm : Value) (w : World) (hm : InR w vm m) :
    Calls Try.prog 28 #[.int .i64 (Jb.k j), .int .i64 v, .int .i64 s, .agg #[.int .i64 x.1, .int .i64 x.2], .int .i64 (Jb.p j), .bool b, vm] w (WokP w (wakeJ j v s x b m)) := by
  have HR : Hid (InR w vm m) := hm
  obtain ⟨a, cap, rfl, hca, hma, _, _⟩ := hm
  unfold maxLen at hma
  have CJ : Hid (∀ X, Calls Try.prog 41 #[.int .i64 (Jb.k j), .int .i64 (Jb.p j)] X fun e w' => e = .returned (.bool true) ∧ w' = X) := fun X => kindMay_any j X
  have CI : Hid (∀ X, Calls Try.prog 14 #[.int .i64 v, .int .i64 0, .int .i64 199] X fun e w' => e = .returned (.bool (inB v 0 199)) ∧ w' = X) := fun X => in_any v 0 199 X
  have CV : Hid (∀ X, Calls Try.prog 42 #[.int .i64 (Jb.k j), .agg #[.int .i64 x.1, .int .i64 x.2]] X fun e w' => e = .returned (.bool (valB j x)) ∧ Below X.heap.size X w') := fun X => valueMay_any j x X
  have CT : Hid (∀ X, Calls Try.prog 43 #[.int .i64 (Jb.k j)] X fun e w' => e = .returned (.int .i64 (Jb.top j)) ∧ w' = X) := fun X => topR_any j X
  have CL : Hid (∀ X, InR X (.slice a m.length cap) m → Calls Try.prog 44 #[.slice a m.length cap] X fun e w' => e = .returned (.int .i64 (leastF m)) ∧ w' = X) := fun X hX => leastMail_any _ m X hX
  obtain ⟨W0, hW0⟩ : ∃ W0, W0 = (w.alloc (.cells #[.int .i64 x.1, .int .i64 x.2] 53)).alloc (.cells #[.int .i64 0, .int .i64 0] 53) := ⟨_, rfl⟩
  obtain ⟨Q0, T0, B0, s1, s2⟩ := boxes2 w #[.int .i64 x.1, .int .i64 x.2] #[.int .i64 0, .int .i64 0] 53 53 W0 hW0
  have Q1 : Hid (BX 53 W0 w.heap.size #[.int .i64 x.1, .int .i64 x.2]) := Q0
  have T1 : Hid (BX 53 W0 (w.heap.size + 1) #[.int .i64 0, .int .i64 0]) := T0
  have BH : Hid (Below w.heap.size w W0) := B0
  have HK : Hid (∀ X, Below W0.heap.size W0 X → BX 53 X w.heap.size #[.int .i64 x.1, .int .i64 x.2] ∧ BX 53 X (w.heap.size + 1) #[.int .i64 0, .int .i64 0] ∧ Below w.heap.size w X ∧ InR X (.slice a m.length cap) m) := fun X hX => ⟨Q1.out.below hX (by omega), T1.out.below hX (by omega), BH.out.trans (hX.mono (by omega)), HR.out.below (BH.out.trans (hX.mono (by omega))) (Nat.le_refl _)⟩
  have A0 : Hid (Below W0.heap.size W0 W0) := Below.refl _ _
  obtain ⟨q0, q1, _⟩ := Q0.all2
  clear Q0 T0 B0
  have HE : Hid (∀ (r : Wk) w', wakeJ j v s x b m = r → Below w.heap.size w w' → WokP w (wakeJ j v s x b m) (.returned (.tuple #[.agg #[.int .i64 r.x.1, .int .i64 r.x.2], .bool r.b, .int .i64 r.f])) w') := fun r w' hr hw => ⟨by rw [hr], hw⟩
  generalize WokP w (wakeJ j v s x b m) = P at *
  obtain ⟨kk, hkk⟩ : ∃ kk, Jb.k j = kk := ⟨_, rfl⟩
  obtain ⟨pp, hpp⟩ : ∃ pp, Jb.p j = pp := ⟨_, rfl⟩
  have HKK : Hid (Jb.k j = kk) := hkk
  have HPP : Hid (Jb.p j = pp) := hpp
  rw [hkk] at CJ CV CT ⊢
  rw [hpp] at CJ ⊢
  clear hkk hpp
  cases h1 : inB v 0 199
  · have HN : Hid (wakeJ j v s x b m = ⟨(0, 0), false, 2⟩) := wakeJ_no (by rw [h1]; rfl)
    rw [h1] at CI
    clear h1 CT CL CV
    go_enter Try.func28, Try.ntmps28
    go_upto_region 1 with fail
    rw [← hW0]
    clear hW0
    go_wp2_with fail
    refine (CJ.out _).mono ?_
    rintro e w1 ⟨rfl, hw⟩
    replace hw := hw.symm
    subst hw
    go_wp2_with fail
    refine (CI.out _).mono ?_
    rintro e w1 ⟨rfl, hw⟩
    replace hw := hw.symm
    subst hw
    obtain ⟨_, TE, BE, _⟩ := HK.out _ A0.out
    obtain ⟨t0, t1, t2, t3⟩ := TE.all2
    have RX : Hid (BX 53 (put2 W0 (w.heap.size + 1) (.int .i64 0) (.int .i64 0)) (w.heap.size + 1) #[.int .i64 0, .int .i64 0]) := TE.put2 _ _
    have HX : Hid (Below w.heap.size w (put2 W0 (w.heap.size + 1) (.int .i64 0) (.int .i64 0))) := below_put2 BE (by omega) _ _
    have HQ : Hid (wakeJ j v s x b m = ⟨(0, 0), false, 2⟩) := HN.out
    clear TE BE
    go_wp2_with fail
    obtain ⟨r0, r1, _⟩ := RX.out.all2
    unfold put2 at r0 r1
    exact bodyPost_ret (v := .tuple #[.agg #[.int .i64 0, .int .i64 0], .bool false, .int .i64 2]) (by simp [results, Try.results28, go_sem, r0, r1]) rfl (HE.out _ _ HQ.out HX.out)
  · cases h2 : valB j x
    · have HN : Hid (wakeJ j v s x b m = ⟨(0, 0), false, 2⟩) := wakeJ_no (by rw [h1, h2]; rfl)
      rw [h1] at CI
      rw [h2] at CV
      clear h1 h2 CT CL
      go_enter Try.func28, Try.ntmps28
      go_upto_region 1 with fail
      rw [← hW0]
      clear hW0
      go_wp2_with fail
      refine (CJ.out _).mono ?_
      rintro e w1 ⟨rfl, hw⟩
      replace hw := hw.symm
      subst hw
      go_wp2_with fail
      refine (CI.out _).mono ?_
      rintro e w1 ⟨rfl, hw⟩
      replace hw := hw.symm
      subst hw
      go_wp2_with fail
      refine (CV.out _).mono ?_
      rintro e w2 ⟨rfl, hb2⟩
      have A2 : Hid (Below W0.heap.size W0 w2) := hb2
      clear hb2 q0 q1
      obtain ⟨_, TE, BE, _⟩ := HK.out _ A2.out
      obtain ⟨t0, t1, t2, t3⟩ := TE.all2
      have RX : Hid (BX 53 (put2 w2 (w.heap.size + 1) (.int .i64 0) (.int .i64 0)) (w.heap.size + 1) #[.int .i64 0, .int .i64 0]) := TE.put2 _ _
      have HX : Hid (Below w.heap.size w (put2 w2 (w.heap.size + 1) (.int .i64 0) (.int .i64 0))) := below_put2 BE (by omega) _ _
      have HQ : Hid (wakeJ j v s x b m = ⟨(0, 0), false, 2⟩) := HN.out
      clear TE BE
      go_wp2_with fail
      obtain ⟨r0, r1, _⟩ := RX.out.all2
      unfold put2 at r0 r1
      exact bodyPost_ret (v := .tuple #[.agg #[.int .i64 0, .int .i64 0], .bool false, .int .i64 2]) (by simp [results, Try.results28, go_sem, r0, r1]) rfl (HE.out _ _ HQ.out HX.out)
    · have hxb : -1 ≤ x.1 ∧ -1 ≤ x.2 := by
        have h2' := h2
        unfold valB at h2'
        rw [Bool.and_eq_true] at h2'
        exact ⟨(inB_iff.1 h2'.1).1, (inB_iff.1 h2'.2).1⟩
      have HXB : Hid (-1 ≤ x.1 ∧ -1 ≤ x.2) := hxb
      have H1 : Hid (inB v 0 199 = true) := h1
      have H2 : Hid (valB j x = true) := h2
      rw [h1] at CI
      rw [h2] at CV
      clear h1 h2 hxb
      obtain ⟨T, hT⟩ : ∃ T, Jb.top j = T := ⟨_, rfl⟩
      have HTT : Hid (Jb.top j = T) := hT
      rw [hT] at CT
      clear hT
      have HMB : Hid (mailB j m = m.all fun y => inB y 0 T) := by show mailB j m = _; rw [← HTT.out]; rfl
      go_enter Try.func28, Try.ntmps28
      go_upto_region 1 with fail
      rw [← hW0]
      clear hW0
      go_wp2_with fail
      refine (CJ.out _).mono ?_
      rintro e w1 ⟨rfl, hw⟩
      replace hw := hw.symm
      subst hw
      go_wp2_with fail
      refine (CI.out _).mono ?_
      rintro e w1 ⟨rfl, hw⟩
      replace hw := hw.symm
      subst hw
      go_wp2_with fail
      refine (CV.out _).mono ?_
      rintro e w2 ⟨rfl, hb2⟩
      have A2 : Hid (Below W0.heap.size W0 w2) := hb2
      clear hb2 q0 q1
      clear CJ CI CV
      go_wp2_with fail
      go_loopw [17] (fun i wr => ∃ k : Nat, k ≤ m.length ∧ i = .int .i64 k ∧ ((m.take k).all fun y => inB y 0 T) = true ∧ Below W0.heap.size W0 wr) (fun i _ => m.length - (intOf i).toNat)
      case atStart => exact ⟨0, by omega, rfl, rfl, A2.out⟩
      case round =>
        obtain ⟨k, hk, rfl, hh, hb⟩ := hrel
        have HH : Hid (((m.take k).all fun y => inB y 0 T) = true) := hh
        have A3 : Hid (Below W0.heap.size W0 wr) := hb
        clear hh hb
        by_cases hlt : k < m.length
        · obtain ⟨_, _, _, R3⟩ := HK.out _ A3.out
          obtain ⟨xa, oa, cap', e1, _, _, la, hva⟩ := InR.at R3 (by omega)
          injection e1 with e1 _ e3
          subst e1 e3
          obtain ⟨y, hy⟩ := getX hlt
          have p0 : (0 : Int) ≤ (k : Int) := by omega
          have p1 : (k : Int) < (m.length : Int) := by omega
          have c1 := hva k y hy
          have HY : Hid (m[k]? = some y) := hy
          clear hva hy R3
          cases hin : inB y 0 T
          · have HN : Hid (wakeJ j v s x b m = ⟨(0, 0), false, 2⟩) := wakeJ_no (by
              have hmf : mailB j m = false := by
                rw [HMB.out]
                refine Bool.eq_false_iff.2 fun hall => ?_
                have := List.all_eq_true.1 hall y (List.mem_of_getElem? HY.out)
                rw [hin] at this
                cases this
              rw [hmf, Bool.and_false])
            have C2 : Hid (∀ X, Calls Try.prog 14 #[.int .i64 y, .int .i64 0, .int .i64 T] X fun e w' => e = .returned (.bool false) ∧ w' = X) := fun X => in_is hin X
            clear hin
            go_wp2_with fail
            go_quiet (first | (go_at_call 43; exact Calls.quiet_of_same (CT.out _)) | (go_at_call 14; exact Calls.quiet_of_same (C2.out _)))
            have A4 : Hid (Below W0.heap.size W0 (wr.drewN nq)) := below_drewN A3.out _
            generalize wr.drewN nq = w4 at *
            obtain ⟨_, TE, BE, _⟩ := HK.out _ A4.out
            obtain ⟨t0, t1, t2, t3⟩ := TE.all2
            have RX : Hid (BX 53 (put2 w4 (w.heap.size + 1) (.int .i64 0) (.int .i64 0)) (w.heap.size + 1) #[.int .i64 0, .int .i64 0]) := TE.put2 _ _
            have HX : Hid (Below w.heap.size w (put2 w4 (w.heap.size + 1) (.int .i64 0) (.int .i64 0))) := below_put2 BE (by omega) _ _
            have HQ : Hid (wakeJ j v s x b m = ⟨(0, 0), false, 2⟩) := HN.out
            clear TE BE
            go_wp2_with fail
            obtain ⟨r0, r1, _⟩ := RX.out.all2
            unfold put2 at r0 r1
            exact bodyPost_ret (v := .tuple #[.agg #[.int .i64 0, .int .i64 0], .bool false, .int .i64 2]) (by simp [results, Try.results28, go_sem, r0, r1]) rfl (HE.out _ _ HQ.out HX.out)
          · have HF : Hid (((m.take (k + 1)).all fun y => inB y 0 T) = true) := by
              show ((m.take (k + 1)).all fun y => inB y 0 T) = true
              rw [take_snoc HY.out, List.all_append, HH.out]
              simp [hin]
            have C2 : Hid (∀ X, Calls Try.prog 14 #[.int .i64 y, .int .i64 0, .int .i64 T] X fun e w' => e = .returned (.bool true) ∧ w' = X) := fun X => in_is hin X
            clear hin
            go_wp2_with fail
            go_quiet (first | (go_at_call 43; exact Calls.quiet_of_same (CT.out _)) | (go_at_call 14; exact Calls.quiet_of_same (C2.out _)))
            go_wp2_with fail
            go_roundw
            case rel => exact ⟨k + 1, by omega, by go_num, HF.out, below_drewN A3.out _⟩
            case measure => simp [intOf]; omega
        · have HMA : Hid (mailB j m = true) := by
            show mailB j m = true
            rw [HMB.out]
            have := HH.out
            rwa [List.take_of_length_le (by omega)] at this
          have HMN : Hid (∀ y ∈ m, 0 ≤ y) := fun y hy => (mailB_iff.1 HMA.out y hy).1
          obtain ⟨Q3, _, _, R3⟩ := HK.out _ A3.out
          have R4 : Hid (InR wr (.slice a m.length cap) m) := R3
          obtain ⟨q0, q1, _⟩ := Q3.all2
          clear Q3 R3 HMB CT HH
          go_wp2_with fail
          refine (CL.out _ R4.out).mono ?_
          rintro e w5 ⟨rfl, hw5⟩
          replace hw5 := hw5.symm
          subst hw5
          obtain ⟨L, hL⟩ : ∃ L, leastF m = L := ⟨_, rfl⟩
          have HL : Hid (leastF m = L) := hL
          rw [hL]
          clear hL CL R4
          revert HKK HPP H2 HMA HTT HE
          revert j
          refine jb_cases ?_ ?_ ?_ ?_
          · intro HE HKK HPP H2 HTT HMA
            have hk : kk = 1 := HKK.out.symm
            have hp : pp = 0 := HPP.out.symm
            subst hk hp
            cases b
            · by_cases hc : 0 ≤ L ∧ (x.1 < 0 ∨ L < x.1)
              · have HC : Hid (0 ≤ L ∧ (x.1 < 0 ∨ L < x.1)) := hc
                have c0 : L ≥ 0 := hc.1
                by_cases c1 : x.1 < 0
                · clear hc
                  obtain ⟨_, TE, BE, _⟩ := HK.out _ A3.out
                  obtain ⟨t0, t1, t2, t3⟩ := TE.all2
                  have RX : Hid (BX 53 (put2 wr (w.heap.size + 1) (.int .i64 L) (.int .i64 x.2)) (w.heap.size + 1) #[.int .i64 L, .int .i64 x.2]) := TE.put2 _ _
                  have HX : Hid (Below w.heap.size w (put2 wr (w.heap.size + 1) (.int .i64 L) (.int .i64 x.2))) := below_put2 BE (by omega) _ _
                  have HQ : Hid (wakeJ (false, false) v s x false m = ⟨(L, x.2), true, 0⟩) := wakeJ_yes (y := (L, x.2)) H1.out H2.out HMA.out (dist_low (by have := low_yes HXB.out.1 HMN.out (by rw [HL.out]; exact HC.out); rwa [HL.out] at this))
                  clear TE BE
                  go_wp2_with fail
                  obtain ⟨r0, r1, _⟩ := RX.out.all2
                  unfold put2 at r0 r1
                  exact bodyPost_ret (v := .tuple #[.agg #[.int .i64 L, .int .i64 x.2], .bool true, .int .i64 0]) (by simp [results, Try.results28, go_sem, r0, r1]) rfl (HE.out _ _ HQ.out HX.out)
                · have c2 : L < x.1 := by rcases hc.2 with h | h; exact absurd h c1; exact h
                  clear hc
                  obtain ⟨_, TE, BE, _⟩ := HK.out _ A3.out
                  obtain ⟨t0, t1, t2, t3⟩ := TE.all2
                  have RX : Hid (BX 53 (put2 wr (w.heap.size + 1) (.int .i64 L) (.int .i64 x.2)) (w.heap.size + 1) #[.int .i64 L, .int .i64 x.2]) := TE.put2 _ _
                  have HX : Hid (Below w.heap.size w (put2 wr (w.heap.size + 1) (.int .i64 L) (.int .i64 x.2))) := below_put2 BE (by omega) _ _
                  have HQ : Hid (wakeJ (false, false) v s x false m = ⟨(L, x.2), true, 0⟩) := wakeJ_yes (y := (L, x.2)) H1.out H2.out HMA.out (dist_low (by have := low_yes HXB.out.1 HMN.out (by rw [HL.out]; exact HC.out); rwa [HL.out] at this))
                  clear TE BE
                  go_wp2_with fail
                  obtain ⟨r0, r1, _⟩ := RX.out.all2
                  unfold put2 at r0 r1
                  exact bodyPost_ret (v := .tuple #[.agg #[.int .i64 L, .int .i64 x.2], .bool true, .int .i64 0]) (by simp [results, Try.results28, go_sem, r0, r1]) rfl (HE.out _ _ HQ.out HX.out)
              · have HC : Hid (¬ (0 ≤ L ∧ (x.1 < 0 ∨ L < x.1))) := hc
                by_cases c0 : L ≥ 0
                · have c1 : ¬ x.1 < 0 := fun h => hc ⟨c0, .inl h⟩
                  have c2 : ¬ L < x.1 := fun h => hc ⟨c0, .inr h⟩
                  clear hc
                  obtain ⟨_, TE, BE, _⟩ := HK.out _ A3.out
                  obtain ⟨t0, t1, t2, t3⟩ := TE.all2
                  have RX : Hid (BX 53 (put2 wr (w.heap.size + 1) (.int .i64 x.1) (.int .i64 x.2)) (w.heap.size + 1) #[.int .i64 x.1, .int .i64 x.2]) := TE.put2 _ _
                  have HX : Hid (Below w.heap.size w (put2 wr (w.heap.size + 1) (.int .i64 x.1) (.int .i64 x.2))) := below_put2 BE (by omega) _ _
                  have HQ : Hid (wakeJ (false, false) v s x false m = ⟨(x.1, x.2), false, 0⟩) := wakeJ_yes (y := (x.1, x.2)) H1.out H2.out HMA.out (dist_low (low_no HXB.out.1 HMN.out (by rw [HL.out]; exact HC.out)))
                  clear TE BE
                  go_wp2_with fail
                  obtain ⟨r0, r1, _⟩ := RX.out.all2
                  unfold put2 at r0 r1
                  exact bodyPost_ret (v := .tuple #[.agg #[.int .i64 x.1, .int .i64 x.2], .bool false, .int .i64 0]) (by simp [results, Try.results28, go_sem, r0, r1]) rfl (HE.out _ _ HQ.out HX.out)
                · clear hc
                  obtain ⟨_, TE, BE, _⟩ := HK.out _ A3.out
                  obtain ⟨t0, t1, t2, t3⟩ := TE.all2
                  have RX : Hid (BX 53 (put2 wr (w.heap.size + 1) (.int .i64 x.1) (.int .i64 x.2)) (w.heap.size + 1) #[.int .i64 x.1, .int .i64 x.2]) := TE.put2 _ _
                  have HX : Hid (Below w.heap.size w (put2 wr (w.heap.size + 1) (.int .i64 x.1) (.int .i64 x.2))) := below_put2 BE (by omega) _ _
                  have HQ : Hid (wakeJ (false, false) v s x false m = ⟨(x.1, x.2), false, 0⟩) := wakeJ_yes (y := (x.1, x.2)) H1.out H2.out HMA.out (dist_low (low_no HXB.out.1 HMN.out (by rw [HL.out]; exact HC.out)))
                  clear TE BE
                  go_wp2_with fail
                  obtain ⟨r0, r1, _⟩ := RX.out.all2
                  unfold put2 at r0 r1
                  exact bodyPost_ret (v := .tuple #[.agg #[.int .i64 x.1, .int .i64 x.2], .bool false, .int .i64 0]) (by simp [results, Try.results28, go_sem, r0, r1]) rfl (HE.out _ _ HQ.out HX.out)
            · by_cases c0 : v = s
              · have d0 : (v == s) = true := by simpa using c0
                have HC : Hid (v = s) := c0
                clear c0
                obtain ⟨_, TE, BE, _⟩ := HK.out _ A3.out
                obtain ⟨t0, t1, t2, t3⟩ := TE.all2
                have RX : Hid (BX 53 (put2 wr (w.heap.size + 1) (.int .i64 0) (.int .i64 (-1))) (w.heap.size + 1) #[.int .i64 0, .int .i64 (-1)]) := TE.put2 _ _
                have HX : Hid (Below w.heap.size w (put2 wr (w.heap.size + 1) (.int .i64 0) (.int .i64 (-1)))) := below_put2 BE (by omega) _ _
                have HQ : Hid (wakeJ (false, false) v s x true m = ⟨(0, (-1)), true, 0⟩) := wakeJ_yes (y := (0, (-1))) H1.out H2.out HMA.out (dist_src HC.out)
                clear TE BE
                go_wp2_with fail
                obtain ⟨r0, r1, _⟩ := RX.out.all2
                unfold put2 at r0 r1
                exact bodyPost_ret (v := .tuple #[.agg #[.int .i64 0, .int .i64 (-1)], .bool true, .int .i64 0]) (by simp [results, Try.results28, go_sem, r0, r1]) rfl (HE.out _ _ HQ.out HX.out)
              · have d0 : (v == s) = false := by simpa using c0
                have HC : Hid (¬ v = s) := c0
                clear c0
                obtain ⟨_, TE, BE, _⟩ := HK.out _ A3.out
                obtain ⟨t0, t1, t2, t3⟩ := TE.all2
                have RX : Hid (BX 53 (put2 wr (w.heap.size + 1) (.int .i64 (-1)) (.int .i64 (-1))) (w.heap.size + 1) #[.int .i64 (-1), .int .i64 (-1)]) := TE.put2 _ _
                have HX : Hid (Below w.heap.size w (put2 wr (w.heap.size + 1) (.int .i64 (-1)) (.int .i64 (-1)))) := below_put2 BE (by omega) _ _
                have HQ : Hid (wakeJ (false, false) v s x true m = ⟨((-1), (-1)), false, 0⟩) := wakeJ_yes (y := ((-1), (-1))) H1.out H2.out HMA.out (dist_oth HC.out)
                clear TE BE
                go_wp2_with fail
                obtain ⟨r0, r1, _⟩ := RX.out.all2
                unfold put2 at r0 r1
                exact bodyPost_ret (v := .tuple #[.agg #[.int .i64 (-1), .int .i64 (-1)], .bool false, .int .i64 0]) (by simp [results, Try.results28, go_sem, r0, r1]) rfl (HE.out _ _ HQ.out HX.out)
          · intro HE HKK HPP H2 HTT HMA
            have hk : kk = 2 := HKK.out.symm
            have hp : pp = 0 := HPP.out.symm
            subst hk hp
            cases b
            · by_cases hc : 0 ≤ L ∧ (x.1 < 0 ∨ L < x.1)
              · have HC : Hid (0 ≤ L ∧ (x.1 < 0 ∨ L < x.1)) := hc
                have c0 : L ≥ 0 := hc.1
                by_cases c1 : x.1 < 0
                · clear hc
                  obtain ⟨_, TE, BE, _⟩ := HK.out _ A3.out
                  obtain ⟨t0, t1, t2, t3⟩ := TE.all2
                  have RX : Hid (BX 53 (put2 wr (w.heap.size + 1) (.int .i64 L) (.int .i64 x.2)) (w.heap.size + 1) #[.int .i64 L, .int .i64 x.2]) := TE.put2 _ _
                  have HX : Hid (Below w.heap.size w (put2 wr (w.heap.size + 1) (.int .i64 L) (.int .i64 x.2))) := below_put2 BE (by omega) _ _
                  have HQ : Hid (wakeJ (false, true) v s x false m = ⟨(L, x.2), true, 0⟩) := wakeJ_yes (y := (L, x.2)) H1.out H2.out HMA.out (weak_low (by have := low_yes HXB.out.1 HMN.out (by rw [HL.out]; exact HC.out); rwa [HL.out] at this))
                  clear TE BE
                  go_wp2_with fail
                  obtain ⟨r0, r1, _⟩ := RX.out.all2
                  unfold put2 at r0 r1
                  exact bodyPost_ret (v := .tuple #[.agg #[.int .i64 L, .int .i64 x.2], .bool true, .int .i64 0]) (by simp [results, Try.results28, go_sem, r0, r1]) rfl (HE.out _ _ HQ.out HX.out)
                · have c2 : L < x.1 := by rcases hc.2 with h | h; exact absurd h c1; exact h
                  clear hc
                  obtain ⟨_, TE, BE, _⟩ := HK.out _ A3.out
                  obtain ⟨t0, t1, t2, t3⟩ := TE.all2
                  have RX : Hid (BX 53 (put2 wr (w.heap.size + 1) (.int .i64 L) (.int .i64 x.2)) (w.heap.size + 1) #[.int .i64 L, .int .i64 x.2]) := TE.put2 _ _
                  have HX : Hid (Below w.heap.size w (put2 wr (w.heap.size + 1) (.int .i64 L) (.int .i64 x.2))) := below_put2 BE (by omega) _ _
                  have HQ : Hid (wakeJ (false, true) v s x false m = ⟨(L, x.2), true, 0⟩) := wakeJ_yes (y := (L, x.2)) H1.out H2.out HMA.out (weak_low (by have := low_yes HXB.out.1 HMN.out (by rw [HL.out]; exact HC.out); rwa [HL.out] at this))
                  clear TE BE
                  go_wp2_with fail
                  obtain ⟨r0, r1, _⟩ := RX.out.all2
                  unfold put2 at r0 r1
                  exact bodyPost_ret (v := .tuple #[.agg #[.int .i64 L, .int .i64 x.2], .bool true, .int .i64 0]) (by simp [results, Try.results28, go_sem, r0, r1]) rfl (HE.out _ _ HQ.out HX.out)
              · have HC : Hid (¬ (0 ≤ L ∧ (x.1 < 0 ∨ L < x.1))) := hc
                by_cases c0 : L ≥ 0
                · have c1 : ¬ x.1 < 0 := fun h => hc ⟨c0, .inl h⟩
                  have c2 : ¬ L < x.1 := fun h => hc ⟨c0, .inr h⟩
                  clear hc
                  obtain ⟨_, TE, BE, _⟩ := HK.out _ A3.out
                  obtain ⟨t0, t1, t2, t3⟩ := TE.all2
                  have RX : Hid (BX 53 (put2 wr (w.heap.size + 1) (.int .i64 x.1) (.int .i64 x.2)) (w.heap.size + 1) #[.int .i64 x.1, .int .i64 x.2]) := TE.put2 _ _
                  have HX : Hid (Below w.heap.size w (put2 wr (w.heap.size + 1) (.int .i64 x.1) (.int .i64 x.2))) := below_put2 BE (by omega) _ _
                  have HQ : Hid (wakeJ (false, true) v s x false m = ⟨(x.1, x.2), false, 0⟩) := wakeJ_yes (y := (x.1, x.2)) H1.out H2.out HMA.out (weak_low (low_no HXB.out.1 HMN.out (by rw [HL.out]; exact HC.out)))
                  clear TE BE
                  go_wp2_with fail
                  obtain ⟨r0, r1, _⟩ := RX.out.all2
                  unfold put2 at r0 r1
                  exact bodyPost_ret (v := .tuple #[.agg #[.int .i64 x.1, .int .i64 x.2], .bool false, .int .i64 0]) (by simp [results, Try.results28, go_sem, r0, r1]) rfl (HE.out _ _ HQ.out HX.out)
                · clear hc
                  obtain ⟨_, TE, BE, _⟩ := HK.out _ A3.out
                  obtain ⟨t0, t1, t2, t3⟩ := TE.all2
                  have RX : Hid (BX 53 (put2 wr (w.heap.size + 1) (.int .i64 x.1) (.int .i64 x.2)) (w.heap.size + 1) #[.int .i64 x.1, .int .i64 x.2]) := TE.put2 _ _
                  have HX : Hid (Below w.heap.size w (put2 wr (w.heap.size + 1) (.int .i64 x.1) (.int .i64 x.2))) := below_put2 BE (by omega) _ _
                  have HQ : Hid (wakeJ (false, true) v s x false m = ⟨(x.1, x.2), false, 0⟩) := wakeJ_yes (y := (x.1, x.2)) H1.out H2.out HMA.out (weak_low (low_no HXB.out.1 HMN.out (by rw [HL.out]; exact HC.out)))
                  clear TE BE
                  go_wp2_with fail
                  obtain ⟨r0, r1, _⟩ := RX.out.all2
                  unfold put2 at r0 r1
                  exact bodyPost_ret (v := .tuple #[.agg #[.int .i64 x.1, .int .i64 x.2], .bool false, .int .i64 0]) (by simp [results, Try.results28, go_sem, r0, r1]) rfl (HE.out _ _ HQ.out HX.out)
            · obtain ⟨_, TE, BE, _⟩ := HK.out _ A3.out
              obtain ⟨t0, t1, t2, t3⟩ := TE.all2
              have RX : Hid (BX 53 (put2 wr (w.heap.size + 1) (.int .i64 v) (.int .i64 (-1))) (w.heap.size + 1) #[.int .i64 v, .int .i64 (-1)]) := TE.put2 _ _
              have HX : Hid (Below w.heap.size w (put2 wr (w.heap.size + 1) (.int .i64 v) (.int .i64 (-1)))) := below_put2 BE (by omega) _ _
              have HQ : Hid (wakeJ (false, true) v s x true m = ⟨(v, (-1)), true, 0⟩) := wakeJ_yes (y := (v, (-1))) H1.out H2.out HMA.out (rfl)
              clear TE BE
              go_wp2_with fail
              obtain ⟨r0, r1, _⟩ := RX.out.all2
              unfold put2 at r0 r1
              exact bodyPost_ret (v := .tuple #[.agg #[.int .i64 v, .int .i64 (-1)], .bool true, .int .i64 0]) (by simp [results, Try.results28, go_sem, r0, r1]) rfl (HE.out _ _ HQ.out HX.out)
          · intro HE HKK HPP H2 HTT HMA
            have hk : kk = 3 := HKK.out.symm
            have hp : pp = 0 := HPP.out.symm
            subst hk hp
            by_cases hl : x.2 = -1
            · have HLB : Hid (x.2 = -1) := hl
              have d9 : ¬ x.2 ≥ 0 := by omega
              clear hl
              cases b
              · by_cases hc : 0 ≤ L ∧ (x.1 < 0 ∨ L < x.1)
                · have HC : Hid (0 ≤ L ∧ (x.1 < 0 ∨ L < x.1)) := hc
                  have c0 : L ≥ 0 := hc.1
                  by_cases c1 : x.1 < 0
                  · clear hc
                    obtain ⟨_, TE, BE, _⟩ := HK.out _ A3.out
                    obtain ⟨t0, t1, t2, t3⟩ := TE.all2
                    have RX : Hid (BX 53 (put2 wr (w.heap.size + 1) (.int .i64 L) (.int .i64 x.2)) (w.heap.size + 1) #[.int .i64 L, .int .i64 x.2]) := TE.put2 _ _
                    have HX : Hid (Below w.heap.size w (put2 wr (w.heap.size + 1) (.int .i64 L) (.int .i64 x.2))) := below_put2 BE (by omega) _ _
                    have HQ : Hid (wakeJ (true, false) v s x false m = ⟨(L, x.2), true, 0⟩) := wakeJ_yes (y := (L, x.2)) H1.out H2.out HMA.out (fwd_low HLB.out (by have := low_yes HXB.out.1 HMN.out (by rw [HL.out]; exact HC.out); rwa [HL.out] at this))
                    clear TE BE
                    go_wp2_with fail
                    obtain ⟨r0, r1, _⟩ := RX.out.all2
                    unfold put2 at r0 r1
                    exact bodyPost_ret (v := .tuple #[.agg #[.int .i64 L, .int .i64 x.2], .bool true, .int .i64 0]) (by simp [results, Try.results28, go_sem, r0, r1]) rfl (HE.out _ _ HQ.out HX.out)
                  · have c2 : L < x.1 := by rcases hc.2 with h | h; exact absurd h c1; exact h
                    clear hc
                    obtain ⟨_, TE, BE, _⟩ := HK.out _ A3.out
                    obtain ⟨t0, t1, t2, t3⟩ := TE.all2
                    have RX : Hid (BX 53 (put2 wr (w.heap.size + 1) (.int .i64 L) (.int .i64 x.2)) (w.heap.size + 1) #[.int .i64 L, .int .i64 x.2]) := TE.put2 _ _
                    have HX : Hid (Below w.heap.size w (put2 wr (w.heap.size + 1) (.int .i64 L) (.int .i64 x.2))) := below_put2 BE (by omega) _ _
                    have HQ : Hid (wakeJ (true, false) v s x false m = ⟨(L, x.2), true, 0⟩) := wakeJ_yes (y := (L, x.2)) H1.out H2.out HMA.out (fwd_low HLB.out (by have := low_yes HXB.out.1 HMN.out (by rw [HL.out]; exact HC.out); rwa [HL.out] at this))
                    clear TE BE
                    go_wp2_with fail
                    obtain ⟨r0, r1, _⟩ := RX.out.all2
                    unfold put2 at r0 r1
                    exact bodyPost_ret (v := .tuple #[.agg #[.int .i64 L, .int .i64 x.2], .bool true, .int .i64 0]) (by simp [results, Try.results28, go_sem, r0, r1]) rfl (HE.out _ _ HQ.out HX.out)
                · have HC : Hid (¬ (0 ≤ L ∧ (x.1 < 0 ∨ L < x.1))) := hc
                  by_cases c0 : L ≥ 0
                  · have c1 : ¬ x.1 < 0 := fun h => hc ⟨c0, .inl h⟩
                    have c2 : ¬ L < x.1 := fun h => hc ⟨c0, .inr h⟩
                    clear hc
                    obtain ⟨_, TE, BE, _⟩ := HK.out _ A3.out
                    obtain ⟨t0, t1, t2, t3⟩ := TE.all2
                    have RX : Hid (BX 53 (put2 wr (w.heap.size + 1) (.int .i64 x.1) (.int .i64 x.2)) (w.heap.size + 1) #[.int .i64 x.1, .int .i64 x.2]) := TE.put2 _ _
                    have HX : Hid (Below w.heap.size w (put2 wr (w.heap.size + 1) (.int .i64 x.1) (.int .i64 x.2))) := below_put2 BE (by omega) _ _
                    have HQ : Hid (wakeJ (true, false) v s x false m = ⟨(x.1, x.2), false, 0⟩) := wakeJ_yes (y := (x.1, x.2)) H1.out H2.out HMA.out (fwd_low HLB.out (low_no HXB.out.1 HMN.out (by rw [HL.out]; exact HC.out)))
                    clear TE BE
                    go_wp2_with fail
                    obtain ⟨r0, r1, _⟩ := RX.out.all2
                    unfold put2 at r0 r1
                    exact bodyPost_ret (v := .tuple #[.agg #[.int .i64 x.1, .int .i64 x.2], .bool false, .int .i64 0]) (by simp [results, Try.results28, go_sem, r0, r1]) rfl (HE.out _ _ HQ.out HX.out)
                  · clear hc
                    obtain ⟨_, TE, BE, _⟩ := HK.out _ A3.out
                    obtain ⟨t0, t1, t2, t3⟩ := TE.all2
                    have RX : Hid (BX 53 (put2 wr (w.heap.size + 1) (.int .i64 x.1) (.int .i64 x.2)) (w.heap.size + 1) #[.int .i64 x.1, .int .i64 x.2]) := TE.put2 _ _
                    have HX : Hid (Below w.heap.size w (put2 wr (w.heap.size + 1) (.int .i64 x.1) (.int .i64 x.2))) := below_put2 BE (by omega) _ _
                    have HQ : Hid (wakeJ (true, false) v s x false m = ⟨(x.1, x.2), false, 0⟩) := wakeJ_yes (y := (x.1, x.2)) H1.out H2.out HMA.out (fwd_low HLB.out (low_no HXB.out.1 HMN.out (by rw [HL.out]; exact HC.out)))
                    clear TE BE
                    go_wp2_with fail
                    obtain ⟨r0, r1, _⟩ := RX.out.all2
                    unfold put2 at r0 r1
                    exact bodyPost_ret (v := .tuple #[.agg #[.int .i64 x.1, .int .i64 x.2], .bool false, .int .i64 0]) (by simp [results, Try.results28, go_sem, r0, r1]) rfl (HE.out _ _ HQ.out HX.out)
              · obtain ⟨_, TE, BE, _⟩ := HK.out _ A3.out
                obtain ⟨t0, t1, t2, t3⟩ := TE.all2
                have RX : Hid (BX 53 (put2 wr (w.heap.size + 1) (.int .i64 v) (.int .i64 (-1))) (w.heap.size + 1) #[.int .i64 v, .int .i64 (-1)]) := TE.put2 _ _
                have HX : Hid (Below w.heap.size w (put2 wr (w.heap.size + 1) (.int .i64 v) (.int .i64 (-1)))) := below_put2 BE (by omega) _ _
                have HQ : Hid (wakeJ (true, false) v s x true m = ⟨(v, (-1)), true, 0⟩) := wakeJ_yes (y := (v, (-1))) H1.out H2.out HMA.out (fwd_new HLB.out)
                clear TE BE
                go_wp2_with fail
                obtain ⟨r0, r1, _⟩ := RX.out.all2
                unfold put2 at r0 r1
                exact bodyPost_ret (v := .tuple #[.agg #[.int .i64 v, .int .i64 (-1)], .bool true, .int .i64 0]) (by simp [results, Try.results28, go_sem, r0, r1]) rfl (HE.out _ _ HQ.out HX.out)
            · have HLB : Hid (¬ x.2 = -1) := hl
              have d9 : x.2 ≥ 0 := by have := HXB.out.2; omega
              clear hl
              obtain ⟨_, TE, BE, _⟩ := HK.out _ A3.out
              obtain ⟨t0, t1, t2, t3⟩ := TE.all2
              have RX : Hid (BX 53 (put2 wr (w.heap.size + 1) (.int .i64 x.1) (.int .i64 x.2)) (w.heap.size + 1) #[.int .i64 x.1, .int .i64 x.2]) := TE.put2 _ _
              have HX : Hid (Below w.heap.size w (put2 wr (w.heap.size + 1) (.int .i64 x.1) (.int .i64 x.2))) := below_put2 BE (by omega) _ _
              have HQ : Hid (wakeJ (true, false) v s x b m = ⟨(x.1, x.2), false, 0⟩) := wakeJ_yes (y := (x.1, x.2)) H1.out H2.out HMA.out (strong_stays HLB.out)
              clear TE BE
              go_wp2_with fail
              obtain ⟨r0, r1, _⟩ := RX.out.all2
              unfold put2 at r0 r1
              exact bodyPost_ret (v := .tuple #[.agg #[.int .i64 x.1, .int .i64 x.2], .bool false, .int .i64 0]) (by simp [results, Try.results28, go_sem, r0, r1]) rfl (HE.out _ _ HQ.out HX.out)
          · intro HE HKK HPP H2 HTT HMA
            have hk : kk = 3 := HKK.out.symm
            have hp : pp = 1 := HPP.out.symm
            subst hk hp
            by_cases hl : x.2 = -1
            · have HLB : Hid (x.2 = -1) := hl
              have d9 : ¬ x.2 ≥ 0 := by omega
              clear hl
              cases b
              · have HST : Hid (hereB false x v (m.take 0) = false) := by show hereB false x v (m.take 0) = false; simp [hereB, hasB]
                go_wp2_with fail
                go_loopw [19, 20] (fun u i wr => ∃ (k : Nat) (t : Bool), k ≤ m.length ∧ i = .int .i64 k ∧ u = .bool t ∧ hereB false x v (m.take k) = t ∧ Below W0.heap.size W0 wr) (fun _ i _ => m.length - (intOf i).toNat)
                case atStart => exact ⟨0, false, by omega, rfl, rfl, HST.out, A3.out⟩
                case round =>
                  obtain ⟨k, t, hk, rfl, rfl, ht, hb⟩ := hrel
                  have HT : Hid (hereB false x v (m.take k) = t) := ht
                  have A6 : Hid (Below W0.heap.size W0 wr) := hb
                  clear ht hb q0 q1
                  obtain ⟨Q6, _, _, R6⟩ := HK.out _ A6.out
                  obtain ⟨q0, q1, _⟩ := Q6.all2
                  clear Q6
                  by_cases hlt : k < m.length
                  · obtain ⟨xa, oa, cap', e1, _, _, la, hva⟩ := InR.at R6 (by omega)
                    injection e1 with e1 _ e3
                    subst e1 e3
                    obtain ⟨y, hy⟩ := getX hlt
                    have p0 : (0 : Int) ≤ (k : Int) := by omega
                    have p1 : (k : Int) < (m.length : Int) := by omega
                    have c1 := hva k y hy
                    have HY : Hid (m[k]? = some y) := hy
                    clear hva hy R6
                    cases t
                    · by_cases ey : y = x.1
                      · have d1 : (y == x.1) = true := by simpa using ey
                        have HF : Hid (hereB false x v (m.take (k + 1)) = true) := by
                          show hereB false x v (m.take (k + 1)) = true
                          have := HT.out
                          unfold hereB at this ⊢
                          rw [hasB_snoc HY.out]
                          rw [d1]
                          simp
                        go_wp2_with fail
                        go_quiet (fail)
                        go_wp2_with fail
                        go_roundw
                        case rel => exact ⟨k + 1, true, by omega, by go_num, rfl, HF.out, below_drewN A6.out _⟩
                        case measure => simp [intOf]; omega
                      · have d1 : (y == x.1) = false := by simpa using ey
                        clear ey
                        have HF : Hid (hereB false x v (m.take (k + 1)) = false) := by
                          show hereB false x v (m.take (k + 1)) = false
                          have := HT.out
                          unfold hereB at this ⊢
                          rw [hasB_snoc HY.out]
                          rw [d1]
                          simpa using this
                        go_wp2_with fail
                        go_quiet (fail)
                        go_wp2_with fail
                        go_roundw
                        case rel => exact ⟨k + 1, false, by omega, by go_num, rfl, HF.out, below_drewN A6.out _⟩
                        case measure => simp [intOf]; omega
                    · have HF : Hid (hereB false x v (m.take (k + 1)) = true) := by
                        show hereB false x v (m.take (k + 1)) = true
                        have := HT.out
                        unfold hereB at this ⊢
                        rw [hasB_snoc HY.out]
                        have h2 : hasB (m.take k) x.1 = true := by simpa using this
                        rw [h2]
                        simp
                      go_wp2_with fail
                      go_quiet (fail)
                      go_wp2_with fail
                      go_roundw
                      case rel => exact ⟨k + 1, true, by omega, by go_num, rfl, HF.out, below_drewN A6.out _⟩
                      case measure => simp [intOf]; omega
                  · have HF : Hid (hereB false x v m = t) := by
                      show hereB false x v m = t
                      have := HT.out
                      rwa [List.take_of_length_le (by omega)] at this
                    clear R6
                    cases t
                    · obtain ⟨_, TE, BE, _⟩ := HK.out _ A6.out
                      obtain ⟨t0, t1, t2, t3⟩ := TE.all2
                      have RX : Hid (BX 53 (put2 wr (w.heap.size + 1) (.int .i64 x.1) (.int .i64 x.2)) (w.heap.size + 1) #[.int .i64 x.1, .int .i64 x.2]) := TE.put2 _ _
                      have HX : Hid (Below w.heap.size w (put2 wr (w.heap.size + 1) (.int .i64 x.1) (.int .i64 x.2))) := below_put2 BE (by omega) _ _
                      have HQ : Hid (wakeJ (true, true) v s x false m = ⟨(x.1, x.2), false, 0⟩) := wakeJ_yes (y := (x.1, x.2)) H1.out H2.out HMA.out (by rw [back_eq HLB.out]; exact labF_no HF.out)
                      clear TE BE
                      go_wp2_with fail
                      obtain ⟨r0, r1, _⟩ := RX.out.all2
                      unfold put2 at r0 r1
                      exact bodyPost_ret (v := .tuple #[.agg #[.int .i64 x.1, .int .i64 x.2], .bool false, .int .i64 0]) (by simp [results, Try.results28, go_sem, r0, r1]) rfl (HE.out _ _ HQ.out HX.out)
                    · obtain ⟨_, TE, BE, _⟩ := HK.out _ A6.out
                      obtain ⟨t0, t1, t2, t3⟩ := TE.all2
                      have RX : Hid (BX 53 (put2 wr (w.heap.size + 1) (.int .i64 x.1) (.int .i64 x.1)) (w.heap.size + 1) #[.int .i64 x.1, .int .i64 x.1]) := TE.put2 _ _
                      have HX : Hid (Below w.heap.size w (put2 wr (w.heap.size + 1) (.int .i64 x.1) (.int .i64 x.1))) := below_put2 BE (by omega) _ _
                      have HQ : Hid (wakeJ (true, true) v s x false m = ⟨(x.1, x.1), true, 0⟩) := wakeJ_yes (y := (x.1, x.1)) H1.out H2.out HMA.out (by rw [back_eq HLB.out]; exact labF_of HF.out)
                      clear TE BE
                      go_wp2_with fail
                      obtain ⟨r0, r1, _⟩ := RX.out.all2
                      unfold put2 at r0 r1
                      exact bodyPost_ret (v := .tuple #[.agg #[.int .i64 x.1, .int .i64 x.1], .bool true, .int .i64 0]) (by simp [results, Try.results28, go_sem, r0, r1]) rfl (HE.out _ _ HQ.out HX.out)
              · obtain ⟨h0, hh0⟩ : ∃ h0, (x.1 == v) = h0 := ⟨_, rfl⟩
                have HST : Hid (hereB true x v (m.take 0) = h0) := by show hereB true x v (m.take 0) = h0; rw [← hh0]; simp [hereB, hasB]
                go_wp2_with fail
                go_loopw [19, 20] (fun u i wr => ∃ (k : Nat) (t : Bool), k ≤ m.length ∧ i = .int .i64 k ∧ u = .bool t ∧ hereB true x v (m.take k) = t ∧ Below W0.heap.size W0 wr) (fun _ i _ => m.length - (intOf i).toNat)
                case atStart => exact ⟨0, h0, by omega, rfl, rfl, HST.out, A3.out⟩
                case round =>
                  obtain ⟨k, t, hk, rfl, rfl, ht, hb⟩ := hrel
                  have HT : Hid (hereB true x v (m.take k) = t) := ht
                  have A6 : Hid (Below W0.heap.size W0 wr) := hb
                  clear ht hb q0 q1
                  obtain ⟨Q6, _, _, R6⟩ := HK.out _ A6.out
                  obtain ⟨q0, q1, _⟩ := Q6.all2
                  clear Q6
                  by_cases hlt : k < m.length
                  · obtain ⟨xa, oa, cap', e1, _, _, la, hva⟩ := InR.at R6 (by omega)
                    injection e1 with e1 _ e3
                    subst e1 e3
                    obtain ⟨y, hy⟩ := getX hlt
                    have p0 : (0 : Int) ≤ (k : Int) := by omega
                    have p1 : (k : Int) < (m.length : Int) := by omega
                    have c1 := hva k y hy
                    have HY : Hid (m[k]? = some y) := hy
                    clear hva hy R6
                    cases t
                    · have HF : Hid (hereB true x v (m.take (k + 1)) = false) := by
                        show hereB true x v (m.take (k + 1)) = false
                        have := HT.out
                        unfold hereB at this ⊢
                        rw [hasB_snoc HY.out]
                        simpa using this
                      go_wp2_with fail
                      go_quiet (fail)
                      go_wp2_with fail
                      go_roundw
                      case rel => exact ⟨k + 1, false, by omega, by go_num, rfl, HF.out, below_drewN A6.out _⟩
                      case measure => simp [intOf]; omega
                    · have HF : Hid (hereB true x v (m.take (k + 1)) = true) := by
                        show hereB true x v (m.take (k + 1)) = true
                        have := HT.out
                        unfold hereB at this ⊢
                        rw [hasB_snoc HY.out]
                        simpa using this
                      go_wp2_with fail
                      go_quiet (fail)
                      go_wp2_with fail
                      go_roundw
                      case rel => exact ⟨k + 1, true, by omega, by go_num, rfl, HF.out, below_drewN A6.out _⟩
                      case measure => simp [intOf]; omega
                  · have HF : Hid (hereB true x v m = t) := by
                      show hereB true x v m = t
                      have := HT.out
                      rwa [List.take_of_length_le (by omega)] at this
                    clear R6
                    cases t
                    · obtain ⟨_, TE, BE, _⟩ := HK.out _ A6.out
                      obtain ⟨t0, t1, t2, t3⟩ := TE.all2
                      have RX : Hid (BX 53 (put2 wr (w.heap.size + 1) (.int .i64 x.1) (.int .i64 x.2)) (w.heap.size + 1) #[.int .i64 x.1, .int .i64 x.2]) := TE.put2 _ _
                      have HX : Hid (Below w.heap.size w (put2 wr (w.heap.size + 1) (.int .i64 x.1) (.int .i64 x.2))) := below_put2 BE (by omega) _ _
                      have HQ : Hid (wakeJ (true, true) v s x true m = ⟨(x.1, x.2), false, 0⟩) := wakeJ_yes (y := (x.1, x.2)) H1.out H2.out HMA.out (by rw [back_eq HLB.out]; exact labF_no HF.out)
                      clear TE BE
                      go_wp2_with fail
                      obtain ⟨r0, r1, _⟩ := RX.out.all2
                      unfold put2 at r0 r1
                      exact bodyPost_ret (v := .tuple #[.agg #[.int .i64 x.1, .int .i64 x.2], .bool false, .int .i64 0]) (by simp [results, Try.results28, go_sem, r0, r1]) rfl (HE.out _ _ HQ.out HX.out)
                    · obtain ⟨_, TE, BE, _⟩ := HK.out _ A6.out
                      obtain ⟨t0, t1, t2, t3⟩ := TE.all2
                      have RX : Hid (BX 53 (put2 wr (w.heap.size + 1) (.int .i64 x.1) (.int .i64 x.1)) (w.heap.size + 1) #[.int .i64 x.1, .int .i64 x.1]) := TE.put2 _ _
                      have HX : Hid (Below w.heap.size w (put2 wr (w.heap.size + 1) (.int .i64 x.1) (.int .i64 x.1))) := below_put2 BE (by omega) _ _
                      have HQ : Hid (wakeJ (true, true) v s x true m = ⟨(x.1, x.1), true, 0⟩) := wakeJ_yes (y := (x.1, x.1)) H1.out H2.out HMA.out (by rw [back_eq HLB.out]; exact labF_of HF.out)
                      clear TE BE
                      go_wp2_with fail
                      obtain ⟨r0, r1, _⟩ := RX.out.all2
                      unfold put2 at r0 r1
                      exact bodyPost_ret (v := .tuple #[.agg #[.int .i64 x.1, .int .i64 x.1], .bool true, .int .i64 0]) (by simp [results, Try.results28, go_sem, r0, r1]) rfl (HE.out _ _ HQ.out HX.out)
            · have HLB : Hid (¬ x.2 = -1) := hl
              have d9 : x.2 ≥ 0 := by have := HXB.out.2; omega
              clear hl
              obtain ⟨_, TE, BE, _⟩ := HK.out _ A3.out
              obtain ⟨t0, t1, t2, t3⟩ := TE.all2
              have RX : Hid (BX 53 (put2 wr (w.heap.size + 1) (.int .i64 x.1) (.int .i64 x.2)) (w.heap.size + 1) #[.int .i64 x.1, .int .i64 x.2]) := TE.put2 _ _
              have HX : Hid (Below w.heap.size w (put2 wr (w.heap.size + 1) (.int .i64 x.1) (.int .i64 x.2))) := below_put2 BE (by omega) _ _
              have HQ : Hid (wakeJ (true, true) v s x b m = ⟨(x.1, x.2), false, 0⟩) := wakeJ_yes (y := (x.1, x.2)) H1.out H2.out HMA.out (strong_stays HLB.out)
              clear TE BE
              go_wp2_with fail
              obtain ⟨r0, r1, _⟩ := RX.out.all2
              unfold put2 at r0 r1
              exact bodyPost_ret (v := .tuple #[.agg #[.int .i64 x.1, .int .i64 x.2], .bool false, .int .i64 0]) (by simp [results, Try.results28, go_sem, r0, r1]) rfl (HE.out _ _ HQ.out HX.out)
theorem woken_any (k v s : Int) (x : Ml) (p : Int) (b : Bool) (m : List Int) (vm : Value) (w : World) (hm : InR w vm m) :
    Calls Try.prog 28 #[.int .i64 k, .int .i64 v, .int .i64 s, .agg #[.int .i64 x.1, .int .i64 x.2], .int .i64 p, .bool b, vm] w (WokP w (wakeF k v s x p b m)) := by
  rcases jobF_cases k p with h | ⟨j, rfl, rfl⟩
  · exact woken_none vm h w hm
  · rw [wakeF_of]
    exact woken_job j v s x b m vm w hm
end Go.Proofs.Ytinijeejfnehmaa

namespace Go.Proofs.Ytinijeejfnehmaa
set_option maxRecDepth 100000
open Go.ChangeShapes Go.WideShapes Go.ChangeAt Go.RowKit

set_option maxHeartbeats 2000000 in
set_option maxRecDepth 100000 in
theorem said_none {k p n : Int} {x : Ml} (h : jobF k p = none ∧ ¬ (k = 1 ∧ p = 0) ∧ ¬ (k = 2 ∧ p = 0) ∧ ¬ (k = 3 ∧ p = 0) ∧ ¬ (k = 3 ∧ p = 1)) (w : World) :
    Calls Try.prog 30 #[.int .i64 k, .agg #[.int .i64 x.1, .int .i64 x.2], .int .i64 p, .int .i64 n] w fun e w' => e = .returned (.tuple #[.int .i64 (saidF k x p n).1, .int .i64 (saidF k x p n).2]) ∧ Below w.heap.size w w' := by
  rw [saidF_none h.1]
  have HC : Hid (∀ X, Calls Try.prog 41 #[.int .i64 k, .int .i64 p] X fun e w' => e = .returned (.bool false) ∧ w' = X) := fun X => kindMay_none h.2 X
  have HB : Hid (∀ o, Below w.heap.size w (w.alloc o)) := fun o => below_alloc w o
  clear h
  go_enter Try.func30, Try.ntmps30
  go_wp2_with fail
  refine (HC.out _).mono ?_
  rintro e w1 ⟨rfl, hw⟩
  replace hw := hw.symm
  subst hw
  go_wp2_with fail
  go_ret2
  exact ⟨rfl, HB.out _⟩

theorem jb_dist : ∀ j : Jb, (j = (false, false)) ∨ ((Jb.k j != 1) = true ∧ (∀ a n, sayJ j a n = a)) := jb_cases (.inl rfl) (.inr ⟨rfl, fun _ _ => rfl⟩) (.inr ⟨rfl, fun _ _ => rfl⟩) (.inr ⟨rfl, fun _ _ => rfl⟩)

set_option maxHeartbeats 4000000 in
set_option maxRecDepth 100000 in
theorem said_job (j : Jb) (x : Ml) (n : Int) (w : World) :
    Calls Try.prog 30 #[.int .i64 (Jb.k j), .agg #[.int .i64 x.1, .int .i64 x.2], .int .i64 (Jb.p j), .int .i64 n] w fun e w' => e = .returned (.tuple #[.int .i64 (saidJ j x n).1, .int .i64 (saidJ j x n).2]) ∧ Below w.heap.size w w' := by
  have CJ : Hid (∀ X, Calls Try.prog 41 #[.int .i64 (Jb.k j), .int .i64 (Jb.p j)] X fun e w' => e = .returned (.bool true) ∧ w' = X) := fun X => kindMay_any j X
  have CV : Hid (∀ X, Calls Try.prog 42 #[.int .i64 (Jb.k j), .agg #[.int .i64 x.1, .int .i64 x.2]] X fun e w' => e = .returned (.bool (valB j x)) ∧ Below X.heap.size X w') := fun X => valueMay_any j x X
  have CW : Hid (∀ X, Calls Try.prog 14 #[.int .i64 n, .int .i64 0, .int .i64 1099511627776] X fun e w' => e = .returned (.bool (inB n 0 1099511627776)) ∧ w' = X) := fun X => in_any n 0 _ X
  obtain ⟨W0, hW0⟩ : ∃ W0, W0 = w.alloc (.cells #[.int .i64 x.1, .int .i64 x.2] 53) := ⟨_, rfl⟩
  have Q0 : BX 53 W0 w.heap.size #[.int .i64 x.1, .int .i64 x.2] := by rw [hW0]; exact BX.new _ _ _
  have BH : Hid (Below w.heap.size w W0) := by show Below _ _ _; rw [hW0]; exact below_alloc _ _
  have s1 : w.heap.size + 1 ≤ W0.heap.size := by rw [hW0]; simp
  have HK : Hid (∀ X, Below W0.heap.size W0 X → BX 53 X w.heap.size #[.int .i64 x.1, .int .i64 x.2] ∧ Below w.heap.size w X) := fun X hX => ⟨Q0.below hX (by omega), BH.out.trans (hX.mono (by omega))⟩
  obtain ⟨q0, q1, _⟩ := Q0.all2
  clear Q0
  cases h1 : valB j x
  · have HW : saidJ j x n = (0, 2) := by unfold saidJ; rw [h1]; simp
    rw [HW]
    rw [h1] at CV
    generalize Jb.k j = kk at *
    generalize Jb.p j = pp at *
    clear HW h1
    go_enter Try.func30, Try.ntmps30
    go_upto_region 1 with fail
    rw [← hW0]
    clear hW0
    go_wp2_with fail
    refine (CJ.out _).mono ?_
    rintro e w1 ⟨rfl, hw⟩
    replace hw := hw.symm
    subst hw
    go_wp2_with fail
    refine (CV.out _).mono ?_
    rintro e w2 ⟨rfl, hb2⟩
    have B2 : Hid (Below w.heap.size w w2) := (HK.out _ hb2).2
    clear hb2 q0 q1
    go_wp2_with fail
    go_ret2
    exact ⟨rfl, B2.out⟩
  · have hxb : -1 ≤ x.1 ∧ x.1 ≤ Jb.top j := by
      unfold valB at h1
      rw [Bool.and_eq_true] at h1
      exact inB_iff.1 h1.1
    by_cases h2 : x.1 = -1
    · have HW : saidJ j x n = (0, 2) := by unfold saidJ; rw [h1]; simp [h2]
      rw [HW]
      rw [h1] at CV
      have d2 : x.1 < 0 := by omega
      generalize Jb.k j = kk at *
      generalize Jb.p j = pp at *
      clear HW h1 h2 hxb
      go_enter Try.func30, Try.ntmps30
      go_upto_region 1 with fail
      rw [← hW0]
      clear hW0
      go_wp2_with fail
      refine (CJ.out _).mono ?_
      rintro e w1 ⟨rfl, hw⟩
      replace hw := hw.symm
      subst hw
      go_wp2_with fail
      refine (CV.out _).mono ?_
      rintro e w2 ⟨rfl, hb2⟩
      obtain ⟨Q2, b2⟩ := HK.out _ hb2
      have B2 : Hid (Below w.heap.size w w2) := b2
      clear hb2 q0 q1 b2
      obtain ⟨q0, q1, _⟩ := Q2.all2
      clear Q2
      go_wp2_with fail
      go_ret2
      exact ⟨rfl, B2.out⟩
    · have d2 : ¬ x.1 < 0 := by omega
      cases h3 : inB n 0 1099511627776
      · have HW : saidJ j x n = (0, 2) := by unfold saidJ; rw [h1, h3]; simp
        rw [HW]
        rw [h1] at CV
        rw [h3] at CW
        generalize Jb.k j = kk at *
        generalize Jb.p j = pp at *
        clear HW h1 h2 h3 hxb
        go_enter Try.func30, Try.ntmps30
        go_upto_region 1 with fail
        rw [← hW0]
        clear hW0
        go_wp2_with fail
        refine (CJ.out _).mono ?_
        rintro e w1 ⟨rfl, hw⟩
        replace hw := hw.symm
        subst hw
        go_wp2_with fail
        refine (CV.out _).mono ?_
        rintro e w2 ⟨rfl, hb2⟩
        obtain ⟨Q2, b2⟩ := HK.out _ hb2
        have B2 : Hid (Below w.heap.size w w2) := b2
        clear hb2 q0 q1 b2
        obtain ⟨q0, q1, _⟩ := Q2.all2
        clear Q2
        go_wp2_with fail
        refine (CW.out _).mono ?_
        rintro e w3 ⟨rfl, hw⟩
        replace hw := hw.symm
        subst hw
        go_wp2_with fail
        go_ret2
        exact ⟨rfl, B2.out⟩
      · have hnb := inB_iff.1 h3
        have HW : saidJ j x n = if sayJ j x.1 n ≤ Jb.top j then (sayJ j x.1 n, 0) else (0, 6) := by unfold saidJ; rw [h1, h3]; simp [h2]
        rw [HW]
        rw [h1] at CV
        rw [h3] at CW
        clear HW h1 h3
        rcases jb_dist j with rfl | ⟨hk1, hsay⟩
        · have ht : Jb.top (false, false) = 4398046511104 := rfl
          rw [ht] at hxb ⊢
          have hs : sayJ (false, false) x.1 n = x.1 + n := rfl
          rw [hs]
          have hk : Jb.k (false, false) = 1 := rfl
          rw [hk] at CJ CV ⊢
          generalize Jb.p (false, false) = pp at *
          have wn : IntKind.i64.wrap (x.1 + n) = x.1 + n := wrap_id64 (by omega) (by omega)
          clear ht hs hk
          by_cases h4 : x.1 + n ≤ 4398046511104
          · rw [if_pos h4]
            have d4 : ¬ x.1 + n > 4398046511104 := by omega
            clear h4 h2 hxb hnb
            go_enter Try.func30, Try.ntmps30
            go_upto_region 1 with fail
            rw [← hW0]
            clear hW0
            go_wp2_with fail
            refine (CJ.out _).mono ?_
            rintro e w1 ⟨rfl, hw⟩
            replace hw := hw.symm
            subst hw
            go_wp2_with fail
            refine (CV.out _).mono ?_
            rintro e w2 ⟨rfl, hb2⟩
            obtain ⟨Q2, b2⟩ := HK.out _ hb2
            have B2 : Hid (Below w.heap.size w w2) := b2
            clear hb2 q0 q1 b2
            obtain ⟨q0, q1, _⟩ := Q2.all2
            clear Q2
            go_wp2_with fail
            refine (CW.out _).mono ?_
            rintro e w3 ⟨rfl, hw⟩
            replace hw := hw.symm
            subst hw
            go_wp2_with fail
            go_ret2
            exact ⟨rfl, B2.out⟩
          · rw [if_neg h4]
            have d4 : x.1 + n > 4398046511104 := by omega
            clear h4 h2 hxb hnb
            go_enter Try.func30, Try.ntmps30
            go_upto_region 1 with fail
            rw [← hW0]
            clear hW0
            go_wp2_with fail
            refine (CJ.out _).mono ?_
            rintro e w1 ⟨rfl, hw⟩
            replace hw := hw.symm
            subst hw
            go_wp2_with fail
            refine (CV.out _).mono ?_
            rintro e w2 ⟨rfl, hb2⟩
            obtain ⟨Q2, b2⟩ := HK.out _ hb2
            have B2 : Hid (Below w.heap.size w w2) := b2
            clear hb2 q0 q1 b2
            obtain ⟨q0, q1, _⟩ := Q2.all2
            clear Q2
            go_wp2_with fail
            refine (CW.out _).mono ?_
            rintro e w3 ⟨rfl, hw⟩
            replace hw := hw.symm
            subst hw
            go_wp2_with fail
            go_ret2
            exact ⟨rfl, B2.out⟩
        · rw [hsay, if_pos hxb.2]
          generalize Jb.k j = kk at *
          generalize Jb.p j = pp at *
          clear h2 hxb hnb hsay
          go_enter Try.func30, Try.ntmps30
          go_upto_region 1 with fail
          rw [← hW0]
          clear hW0
          go_wp2_with fail
          refine (CJ.out _).mono ?_
          rintro e w1 ⟨rfl, hw⟩
          replace hw := hw.symm
          subst hw
          go_wp2_with fail
          refine (CV.out _).mono ?_
          rintro e w2 ⟨rfl, hb2⟩
          obtain ⟨Q2, b2⟩ := HK.out _ hb2
          have B2 : Hid (Below w.heap.size w w2) := b2
          clear hb2 q0 q1 b2
          obtain ⟨q0, q1, _⟩ := Q2.all2
          clear Q2
          go_wp2_with fail
          refine (CW.out _).mono ?_
          rintro e w3 ⟨rfl, hw⟩
          replace hw := hw.symm
          subst hw
          go_wp2_with fail
          go_ret2
          exact ⟨rfl, B2.out⟩
theorem said_any (k : Int) (x : Ml) (p n : Int) (w : World) :
    Calls Try.prog 30 #[.int .i64 k, .agg #[.int .i64 x.1, .int .i64 x.2], .int .i64 p, .int .i64 n] w fun e w' => e = .returned (.tuple #[.int .i64 (saidF k x p n).1, .int .i64 (saidF k x p n).2]) ∧ Below w.heap.size w w' := by
  rcases jobF_cases k p with h | ⟨j, rfl, rfl⟩
  · exact said_none h w
  · rw [saidF_of]
    exact said_job j x n w
end Go.Proofs.Ytinijeejfnehmaa

namespace Go.Proofs.Ytinijeejfnehmaa
set_option maxRecDepth 100000
open Go.ChangeShapes Go.WideShapes Go.ChangeAt Go.RowKit

def insNS (n : Int) (s : List Int × Bool) (x : Int) : List Int × Bool := if s.2 = false ∧ n < x then (s.1 ++ [n] ++ [x], true) else (s.1 ++ [x], s.2)
def insNP (l : List Int) (n : Int) : List Int × Bool := l.foldl (insNS n) ([], false)
def insN (l : List Int) (n : Int) : List Int := if (insNP l n).2 = true then (insNP l n).1 else (insNP l n).1 ++ [n]
theorem insNP_snoc (l : List Int) (n x : Int) : insNP (l ++ [x]) n = insNS n (insNP l n) x := by unfold insNP; rw [List.foldl_append]; rfl
theorem insNP_ok {n : Int} : ∀ {l : List Int}, (l.Pairwise fun a b => a ≤ b) → ((insNP l n).2 = false → (insNP l n).1 = l ∧ ∀ y ∈ l, y ≤ n) ∧ ((insNP l n).2 = true → (insNP l n).1.Perm (n :: l) ∧ ((insNP l n).1.Pairwise fun a b => a ≤ b) ∧ ∃ y ∈ l, n < y) := by
  have key : ∀ (k : Nat) (l : List Int), l.length = k → (l.Pairwise fun a b => a ≤ b) → ((insNP l n).2 = false → (insNP l n).1 = l ∧ ∀ y ∈ l, y ≤ n) ∧ ((insNP l n).2 = true → (insNP l n).1.Perm (n :: l) ∧ ((insNP l n).1.Pairwise fun a b => a ≤ b) ∧ ∃ y ∈ l, n < y) := by
    intro k
    induction k with
    | zero =>
      intro l hk _
      have : l = [] := List.eq_nil_of_length_eq_zero hk
      subst this
      exact ⟨fun _ => ⟨rfl, by simp⟩, fun h => (by cases h)⟩
    | succ k ih =>
      intro l hk hl
      rcases List.eq_nil_or_concat l with rfl | ⟨m, x, rfl⟩
      · simp at hk
      · rw [List.concat_eq_append] at hk hl ⊢
        obtain ⟨p1, _, p3⟩ := List.pairwise_append.1 hl
        have p3' : ∀ y ∈ m, y ≤ x := fun y hy => p3 y hy x (by simp)
        obtain ⟨h1, h2⟩ := ih m (by simp at hk; omega) p1
        rw [insNP_snoc]
        unfold insNS
        cases hb : (insNP m n).2 with
        | false =>
          obtain ⟨e1, e2⟩ := h1 hb
          by_cases hx : n < x
          · rw [if_pos ⟨rfl, hx⟩]
            refine ⟨fun h => (by cases h), fun _ => ?_⟩
            simp only [e1]
            refine ⟨?_, ?_, x, by simp, hx⟩
            · rw [List.append_assoc]
              exact List.perm_middle
            · rw [List.pairwise_append, List.pairwise_append]
              refine ⟨⟨p1, List.pairwise_singleton _ _, fun y hy z hz => ?_⟩, List.pairwise_singleton _ _, fun y hy z hz => ?_⟩
              · simp at hz; rw [hz]; exact e2 y hy
              · simp at hz
                rw [hz]
                rcases List.mem_append.1 hy with hy | hy
                · exact p3' y hy
                · simp at hy; omega
          · rw [if_neg (fun g => hx g.2)]
            refine ⟨fun _ => ⟨by simp only [e1], fun y hy => ?_⟩, fun h => (by cases h)⟩
            rcases List.mem_append.1 hy with hy | hy
            · exact e2 y hy
            · simp at hy; omega
        | true =>
          rw [if_neg (fun g => by cases g.1)]
          obtain ⟨e1, e2, y0, hy0, hn0⟩ := h2 hb
          refine ⟨fun h => (by cases h), fun _ => ⟨?_, ?_, y0, by simp [hy0], hn0⟩⟩
          · simp only
            exact e1.append_right [x]
          · simp only
            rw [List.pairwise_append]
            refine ⟨e2, List.pairwise_singleton _ _, fun y hy z hz => ?_⟩
            simp at hz
            rw [hz]
            have h3 := p3' y0 hy0
            rcases List.mem_cons.1 (e1.mem_iff.1 hy) with rfl | hy
            · omega
            · exact p3' y hy
  exact fun {l} hl => key l.length l rfl hl
theorem insN_ok {l : List Int} {n : Int} (hl : l.Pairwise fun a b => a ≤ b) : (insN l n).Perm (n :: l) ∧ (insN l n).Pairwise fun a b => a ≤ b := by
  obtain ⟨h1, h2⟩ := insNP_ok (n := n) hl
  unfold insN
  cases hb : (insNP l n).2 with
  | false =>
    obtain ⟨e1, e2⟩ := h1 hb
    rw [if_neg (by simp), e1]
    refine ⟨List.perm_append_comm, ?_⟩
    rw [List.pairwise_append]
    exact ⟨hl, List.pairwise_singleton _ _, fun y hy z hz => by simp at hz; rw [hz]; exact e2 y hy⟩
  | true =>
    rw [if_pos rfl]
    exact ⟨(h2 hb).1, (h2 hb).2.1⟩
/-- What is told in turn stands in order. -/
theorem insN_sort (m : List Int) (x : Int) : insN (sortN m) x = sortN (m ++ [x]) := by
  obtain ⟨h1, h2⟩ := insN_ok (n := x) (sortN_ris m)
  refine sortN_uniq (h1.trans ?_) h2
  exact ((sortN_perm m).cons x).trans (List.perm_append_singleton x m).symm
theorem insN_len (l : List Int) (n : Int) (hl : l.Pairwise fun a b => a ≤ b) : (insN l n).length = l.length + 1 := by rw [(insN_ok hl).1.length_eq]; rfl
theorem insNS_len (n x : Int) (s : List Int × Bool) : (insNS n s x).1.length ≤ s.1.length + 2 := by
  unfold insNS
  split <;> simp
theorem insNP_len (n : Int) (l : List Int) : (insNP l n).1.length ≤ 2 * l.length := by
  have key : ∀ (l : List Int) (s : List Int × Bool), (l.foldl (insNS n) s).1.length ≤ s.1.length + 2 * l.length := by
    intro l
    induction l with
    | nil => intro s; exact Nat.le_refl _
    | cons x l ih =>
      intro s
      have h1 := ih (insNS n s x)
      have h2 := insNS_len n x s
      rw [List.foldl_cons, List.length_cons]
      omega
  have := key l ([], false)
  simp only [List.length_nil, Nat.zero_add] at this
  exact this

set_option maxHeartbeats 2000000 in
set_option maxRecDepth 100000 in
theorem numberIn_any (v : Value) (l : List Int) (n : Int) (w : World) (h : InR w v l) (hl : l.length ≤ 5000) :
    Calls Try.prog 31 #[v, .int .i64 n] w fun e w' => ∃ v', e = .returned v' ∧ w'.ownsRow w.heap.size 3 1 v' (insN l n).length ((insN l n).flatMap encI) ∧ Below w.heap.size w w' := by
  have HR : Hid (InR w v l) := h
  obtain ⟨a, cap, rfl, hc, hm, _, _⟩ := h
  unfold maxLen at hm
  obtain ⟨r, hr⟩ : ∃ r, insN l n = r := ⟨_, rfl⟩
  rw [hr]
  have HIF : Hid (r = if (insNP l n).2 = true then (insNP l n).1 else (insNP l n).1 ++ [n]) := hr.symm
  clear hr
  go_enter Try.func31, Try.ntmps31
  go_wp2_with fail
  go_loopw [5, 6, 7] (fun u d i wr => ∃ k : Nat, k ≤ l.length ∧ i = .int .i64 k ∧ d = .bool (insNP (l.take k) n).2 ∧ wr.ownsRow w.heap.size 3 1 u (insNP (l.take k) n).1.length ((insNP (l.take k) n).1.flatMap encI) ∧ Below w.heap.size w wr) (fun _ _ i _ => l.length - (intOf i).toNat)
  case atStart => exact ⟨0, by omega, rfl, rfl, World.ownsRow_nil _ _ _ _, Below.refl _ _⟩
  case round =>
    obtain ⟨k, hk, rfl, rfl, hown, hbel⟩ := hrel
    have OW : Hid (wr.ownsRow w.heap.size 3 1 u5 (insNP (l.take k) n).1.length ((insNP (l.take k) n).1.flatMap encI)) := hown
    have BW : Hid (Below w.heap.size w wr) := hbel
    have hsr := hbel.size
    have hil := insNP_len n (l.take k)
    have hlk : (insNP (l.take k) n).1.length ≤ 10000 := by rw [List.length_take] at hil; omega
    obtain ⟨ua, un, uc, rfl⟩ : ∃ a n c, u5 = .slice a n c := by
      rcases own_shapeK hown with ⟨e, _⟩ | ⟨g', c', e, _⟩
      · exact ⟨_, _, _, e⟩
      · exact ⟨_, _, _, e⟩
    clear hown hbel hil
    by_cases hlt : k < l.length
    · obtain ⟨b, off, cap', e1, _, _, lb, hv⟩ := InR.at HR.out (by omega)
      injection e1 with e1 e2 e3
      clear e2
      subst e1 e3
      obtain ⟨x, hx⟩ := getX hlt
      have c1 := hv k x hx
      have HCX : Hid (∀ X, Below w.heap.size w X → X.cell? ⟨b, off + k, none⟩ = some (.int .i64 x)) := fun X hX => (hX.cell (p := ⟨b, off + k, none⟩) lb).trans c1
      have c0 := HCX.out _ BW.out
      have HNX : Hid (insNP (l.take (k + 1)) n = insNS n (insNP (l.take k) n) x) := by
        show _ = _
        rw [take_snoc hx, insNP_snoc]
      have p0 : (0 : Int) ≤ (k : Int) := by omega
      have p1 : (k : Int) < (l.length : Int) := by omega
      clear hv hx c1
      have HIS : Hid (∀ s : List Int × Bool, (s.2 = false ∧ n < x → insNS n s x = (s.1 ++ [n] ++ [x], true)) ∧ (¬ (s.2 = false ∧ n < x) → insNS n s x = (s.1 ++ [x], s.2))) := fun s => ⟨fun h => if_pos h, fun h => if_neg h⟩
      generalize insNP (l.take k) n = st at *
      obtain ⟨f, d⟩ := st
      simp only at OW hlk ⊢
      by_cases hc : d = false ∧ n < x
      · have HN1 : Hid (insNS n (f, d) x = (f ++ [n] ++ [x], true)) := (HIS.out (f, d)).1 hc
        obtain ⟨rfl, hnx⟩ := hc
        go_wp2_with (at_builtin; refine wpList_append_newK kI rfl _ _ rfl w.heap.size _ f rfl (OW.out.alloc _) _ n rfl #[.int .i64 n] rfl (0, 0) (heap_alloc_new _ _) (by simp [kI]; omega) (by unfold maxLen; omega) (by simp; omega) ?_)
        intro g1 k1 w2 ho2 hb2 _
        have O2 : Hid (w2.ownsRow w.heap.size 3 1 (.slice (some ⟨g1, 0, none⟩) (f.length + 1) k1) (f ++ [n]).length ((f ++ [n]).flatMap encI)) := by
          show World.ownsRow _ _ _ _ _ _ _
          rw [flat_snoc, List.length_append]; exact ho2
        have B2 : Hid (Below w.heap.size w w2) := (BW.out.alloc hsr _).trans hb2
        have hs2 := B2.out.size
        have cb := fun o => HCX.out _ (B2.out.alloc hs2 o)
        have cc := HCX.out _ B2.out
        have hfl : (f ++ [n]).length ≤ 10001 := by simp; omega
        clear ho2 hb2 c0 OW BW
        go_wp2_with (at_builtin; refine wpList_append_newK kI rfl _ _ rfl w.heap.size _ (f ++ [n]) rfl (O2.out.alloc _) _ x rfl #[.int .i64 x] rfl (0, 0) (heap_alloc_new _ _) (by simp only [kI]; omega) (by unfold maxLen; omega) (by simp; omega) ?_)
        intro g2 k2 w3 ho3 hb3 _
        have O3 : Hid (w3.ownsRow w.heap.size 3 1 (.slice (some ⟨g2, 0, none⟩) (f.length + 1 + 1) k2) (insNS n (f, false) x).1.length ((insNS n (f, false) x).1.flatMap encI)) := by
          show World.ownsRow _ _ _ _ _ _ _
          rw [HN1.out]
          unfold kI at ho3
          simpa using ho3
        have B3 : Hid (Below w.heap.size w w3) := (B2.out.alloc hs2 _).trans hb3
        have D3 : Hid ((insNS n (f, false) x).2 = true) := by show _ = _; rw [HN1.out]
        clear ho3 hb3 cb cc hfl
        go_wp2_with fail
        go_roundw
        case rel => exact ⟨k + 1, by omega, by go_num, by rw [HNX.out, D3.out], by rw [HNX.out]; exact O3.out, B3.out⟩
        case measure => simp [intOf]; omega
      · have HN1 : Hid (insNS n (f, d) x = (f ++ [x], d)) := (HIS.out (f, d)).2 hc
        have D3 : Hid ((insNS n (f, d) x).2 = d) := by show _ = _; rw [HN1.out]
        have fin : ∀ (g2 k2 : Nat) (w3 : World), w3.ownsRow w.heap.size kI.e kI.k (.slice (some ⟨g2, 0, none⟩) (f.length + 1) k2) (f.length + 1) (f.flatMap kI.enc ++ kI.enc x) → w3.ownsRow w.heap.size 3 1 (.slice (some ⟨g2, 0, none⟩) (f.length + 1) k2) (insNS n (f, d) x).1.length ((insNS n (f, d) x).1.flatMap encI) := fun g2 k2 w3 ho => by
          rw [HN1.out]
          simp only
          rw [flat_snoc, List.length_append]
          exact ho
        have FIN : Hid (∀ (g2 k2 : Nat) (w3 : World), w3.ownsRow w.heap.size kI.e kI.k (.slice (some ⟨g2, 0, none⟩) (f.length + 1) k2) (f.length + 1) (f.flatMap kI.enc ++ kI.enc x) → w3.ownsRow w.heap.size 3 1 (.slice (some ⟨g2, 0, none⟩) (f.length + 1) k2) (insNS n (f, d) x).1.length ((insNS n (f, d) x).1.flatMap encI)) := fin
        clear fin
        cases d with
        | true =>
          go_wp2_with (at_builtin; refine wpList_append_newK kI rfl _ _ rfl w.heap.size _ f rfl (OW.out.alloc _) _ x rfl #[.int .i64 x] rfl (0, 0) (heap_alloc_new _ _) (by simp [kI]; omega) (by unfold maxLen; omega) (by simp; omega) ?_)
          intro g2 k2 w3 ho3 hb3 _
          have O3 : Hid (w3.ownsRow w.heap.size 3 1 (.slice (some ⟨g2, 0, none⟩) (f.length + 1) k2) (insNS n (f, true) x).1.length ((insNS n (f, true) x).1.flatMap encI)) := FIN.out _ _ _ ho3
          have B3 : Hid (Below w.heap.size w w3) := (BW.out.alloc hsr _).trans hb3
          clear ho3 hb3 c0
          go_wp2_with fail
          go_roundw
          case rel => exact ⟨k + 1, by omega, by go_num, by rw [HNX.out, D3.out], by rw [HNX.out]; exact O3.out, B3.out⟩
          case measure => simp [intOf]; omega
        | false =>
          have hnx : ¬ n < x := fun g => hc ⟨rfl, g⟩
          clear hc
          go_wp2_with (at_builtin; refine wpList_append_newK kI rfl _ _ rfl w.heap.size _ f rfl (OW.out.alloc _) _ x rfl #[.int .i64 x] rfl (0, 0) (heap_alloc_new _ _) (by simp [kI]; omega) (by unfold maxLen; omega) (by simp; omega) ?_)
          intro g2 k2 w3 ho3 hb3 _
          have O3 : Hid (w3.ownsRow w.heap.size 3 1 (.slice (some ⟨g2, 0, none⟩) (f.length + 1) k2) (insNS n (f, false) x).1.length ((insNS n (f, false) x).1.flatMap encI)) := FIN.out _ _ _ ho3
          have B3 : Hid (Below w.heap.size w w3) := (BW.out.alloc hsr _).trans hb3
          clear ho3 hb3 c0
          go_wp2_with fail
          go_roundw
          case rel => exact ⟨k + 1, by omega, by go_num, by rw [HNX.out, D3.out], by rw [HNX.out]; exact O3.out, B3.out⟩
          case measure => simp [intOf]; omega
    · have ek : l.take k = l := List.take_of_length_le (by omega)
      rw [ek] at OW hlk ⊢
      clear ek
      generalize insNP l n = st at *
      obtain ⟨f, d⟩ := st
      simp only at OW hlk HIF ⊢
      cases d with
      | true =>
        have OE : Hid (wr.ownsRow w.heap.size 3 1 (.slice ua un uc) r.length (r.flatMap encI)) := by
          show World.ownsRow _ _ _ _ _ _ _
          rw [HIF.out, if_pos rfl]; exact OW.out
        go_wp2_with fail
        go_ret
        exact ⟨_, rfl, OE.out, BW.out⟩
      | false =>
        have HIE : Hid (r = f ++ [n]) := by show _ = _; rw [HIF.out, if_neg (by simp)]
        go_wp2_with (at_builtin; refine wpList_append_newK kI rfl _ _ rfl w.heap.size _ f rfl (OW.out.alloc _) _ n rfl #[.int .i64 n] rfl (0, 0) (heap_alloc_new _ _) (by simp [kI]; omega) (by unfold maxLen; omega) (by simp; omega) ?_)
        intro g2 k2 w3 ho3 hb3 _
        have OE : Hid (w3.ownsRow w.heap.size 3 1 (.slice (some ⟨g2, 0, none⟩) (f.length + 1) k2) r.length (r.flatMap encI)) := by
          show World.ownsRow _ _ _ _ _ _ _
          rw [HIE.out, flat_snoc, List.length_append]; exact ho3
        have B3 : Hid (Below w.heap.size w w3) := (BW.out.alloc hsr _).trans hb3
        clear ho3 hb3
        go_wp2_with fail
        go_ret
        exact ⟨_, rfl, OE.out, B3.out⟩
end Go.Proofs.Ytinijeejfnehmaa

namespace Go.Proofs.Ytinijeejfnehmaa
set_option maxRecDepth 100000

theorem sort_edge (j : Jb) (r : Int → Ml × Bool) (es : List Ed) (e : Ed) (u : Int) :
    sortN (msgs j r (es ++ [e]) u) = (if inM j r u e then insN (if outM j r u e then insN (sortN (msgs j r es u)) (sayJ j (r e.1).1.1 e.2.2) else sortN (msgs j r es u)) (sayJ j (r e.2.1).1.1 e.2.2) else (if outM j r u e then insN (sortN (msgs j r es u)) (sayJ j (r e.1).1.1 e.2.2) else sortN (msgs j r es u))) := by
  rw [msgs_snoc]
  unfold msgE
  change sortN (msgs j r es u ++ ((if outM j r u e = true then _ else _) ++ (if inM j r u e = true then _ else _))) = _
  cases outM j r u e <;> cases inM j r u e <;> simp [insN_sort]
end Go.Proofs.Ytinijeejfnehmaa

namespace Go.Proofs.Ytinijeejfnehmaa
set_option maxRecDepth 100000
open Go.ChangeShapes Go.WideShapes Go.ChangeAt Go.RowKit

theorem rnd_yesF {j : Jb} {s : Int} {T : StS} {c : Nat} {x : Ml} {l : List Int} (hx : T.vals[c]? = some x) (hl : T.mail[c]? = some l) (h : T.fresh = true ∨ 0 < l.length) : rndV j s T (c : Int) = wakeV j (c : Int) s x T.fresh l := by
  have e1 : vlA T.vals (c : Int) = x := by unfold vlA; rw [List.getD_eq_getElem?_getD, Int.toNat_natCast, hx]; rfl
  have e2 : mlA T.mail (c : Int) = l := by unfold mlA; rw [List.getD_eq_getElem?_getD, Int.toNat_natCast, hl]; rfl
  unfold rndV
  rw [e1, e2, if_pos]
  rcases h with h | h
  · rw [h]; rfl
  · cases l with
    | nil => simp at h
    | cons a l => simp
theorem rnd_noF {j : Jb} {s : Int} {T : StS} {c : Nat} {x : Ml} {l : List Int} (hx : T.vals[c]? = some x) (hl : T.mail[c]? = some l) (h : T.fresh = false) (h2 : ¬ 0 < l.length) : rndV j s T (c : Int) = (x, false) := by
  have e1 : vlA T.vals (c : Int) = x := by unfold vlA; rw [List.getD_eq_getElem?_getD, Int.toNat_natCast, hx]; rfl
  have e2 : mlA T.mail (c : Int) = l := by unfold mlA; rw [List.getD_eq_getElem?_getD, Int.toNat_natCast, hl]; rfl
  have e3 : l = [] := List.eq_nil_of_length_eq_zero (by omega)
  unfold rndV
  rw [e1, e2, if_neg (by rw [h, e3]; simp)]
theorem own_curF {w : World} {base g n cap size : Nat} {e : TypeId} {xs : List Value} (h : w.ownsRow base e size (.slice (some ⟨g, 0, none⟩) n cap) n xs) : ∃ cur, w.heap[g]? = some (.cells cur e (0, 0)) := by
  rcases h.2 with ⟨hv, _⟩ | ⟨g3, c3, cur, hv, _, hgg, _⟩
  · cases hv
  · injection hv with hv
    injection hv with hv
    injection hv with hv
    subst hv
    exact ⟨cur, hgg⟩
/-- Stores into a row leave a row of another type. -/
theorem own_elseF {w w' : World} {base b g n m size size' cap : Nat} {e e' : TypeId} {v : Value} {xs ys : List Value} (h : w.ownsRow base e size v n xs) (h2 : w.ownsRow b e' size' (.slice (some ⟨g, 0, none⟩) m cap) m ys) (hne : e ≠ e') (hk : Kept (fun k => k = g) w w') : w'.ownsRow base e size v n xs := by
  obtain ⟨cur, hc⟩ := own_curF h2
  exact hk.own h fun q hq e => own_block h hq hc hne e

theorem beh_mailF {j : Jb} {a p : Int} {vs : List Ml} {ms : List (List Int)} (h : 0 < manyL ms) : behR j a p vs ms = ⟨a + 1, p, false, false, vs, ms⟩ := by unfold behR; rw [if_pos h]
theorem beh_doneF {j : Jb} {a p : Int} {vs : List Ml} {ms : List (List Int)} (h : ¬ 0 < manyL ms) (h2 : (!j.1 || (j.2 && !openV vs)) = true) : behR j a p vs ms = ⟨a + 1, p, false, true, vs, ms⟩ := by unfold behR; rw [if_neg h, if_pos h2]
theorem beh_turnF {j : Jb} {a p : Int} {vs : List Ml} {ms : List (List Int)} (h : ¬ 0 < manyL ms) (h2 : (!j.1 || (j.2 && !openV vs)) = false) : behR j a p vs ms = ⟨a + 1, 1 - p, true, false, vs, ms⟩ := by unfold behR; rw [if_neg h, if_neg (by rw [h2]; simp)]

theorem jobs_of {k p : Int} {j : Jb} (h : jobF k p = some j) : k = Jb.k j ∧ p = Jb.p j := by
  rcases jobF_cases k p with hn | ⟨j', h1, h2⟩
  · rw [hn.1] at h; cases h
  · have h3 := jobF_of j'
    rw [← h1, ← h2, h] at h3
    injection h3 with h3
    subst h3
    exact ⟨h1, h2⟩

end Go.Proofs.Ytinijeejfnehmaa
