/-
  Contract of rounds.mayBe.
  Contract of rounds.check: a job, then a state of it.
  Contract of rounds.Next.
  Contract of the law's own sameInts, of lists that read alike.
  Contracts of the law's own sameValues and sameState, of what reads alike.
-/
import Derived.Test.YtbmkgnlfccigpaaRoundsNextsPartB
import Derived.Test.YtbmkgnlfccigpaaRoundsNextsPartD
import Derived.Test.YtbmkgnlfccigpaaRoundMay
import Derived.Test.YtbmkgnlfccigpaaRoundsNextsPartA
import Derived.Test.YtbmkgnlfccigpaaRoundTell
import Derived.Test.YtbmkgnlfccigpaaRowCore
import Derived.Deep.QuietTactic
import Derived.BigQuiet
import Derived.Test.YtbmkgnlfccigpaaMayMath
import Derived.Test.YtbmkgnlfccigpaaStaMem
import Derived.Test.YtbmkgnlfccigpaaRegionCall
import Derived.Shelf.Abstract
import Derived.Deep.CutRange

namespace Go.Proofs.Ytbmkgnlfccigpaa
set_option maxRecDepth 100000
open Go.ChangeShapes Go.WideShapes Go.ChangeAt Go.RowKit

/-- As far as it was looked at. -/
def PreI (j : Jb) (vs : List Ml) (ms : List (List Int)) (c : Nat) : Prop := ∀ (a : Nat) (x : Ml) (l : List Int), a < c → vs[a]? = some x → ms[a]? = some l → valB j x = true ∧ mailB j l = true ∧ risB l = true
theorem PreI.next {j : Jb} {vs : List Ml} {ms : List (List Int)} {c : Nat} {x : Ml} {l : List Int} (h : PreI j vs ms c) (hx : vs[c]? = some x) (hl : ms[c]? = some l) (h1 : valB j x = true) (h2 : mailB j l = true) (h3 : risB l = true) : PreI j vs ms (c + 1) := fun a y k ha hy hk => by
  by_cases e : a = c
  · subst e
    rw [hx] at hy
    rw [hl] at hk
    injection hy with hy
    injection hk with hk
    subst hy hk
    exact ⟨h1, h2, h3⟩
  · exact h a y k (by omega) hy hk
theorem may_yes {m : Nat} {k step phase : Int} {fr dn : Bool} {vs : List Ml} {ms : List (List Int)} {j : Jb} {top : Nat} (hj : jobF k phase = some j) (hs : 0 ≤ step ∧ step ≤ 100000) (hf : ¬ (fr = true ∧ dn = true)) (h1 : vs.length = m) (h2 : ms.length = m) (hp : PreI j vs ms m) (ht : manyL ms ≤ top) (htop : top ≤ 5000 ∧ (fr = true ∨ dn = true → top = 0)) : mayR m k ⟨step, phase, fr, dn, vs, ms⟩ = true := by
  refine mayR_iff.2 ⟨j, hj, ⟨hs, h1, h2, fun x hx => ?_, fun l hl => ?_, hf, fun h0 => ?_, by show manyL ms ≤ 5000; omega⟩⟩
  · obtain ⟨a, ha, rfl⟩ := List.getElem_of_mem hx
    have ha' : a < vs.length := ha
    obtain ⟨l, hl⟩ := getX (show a < ms.length by omega)
    exact (hp a _ l (by omega) (List.getElem?_eq_getElem ha) hl).1
  · obtain ⟨a, ha, rfl⟩ := List.getElem_of_mem hl
    have ha' : a < ms.length := ha
    obtain ⟨x, hx⟩ := getX (show a < vs.length by omega)
    have := hp a x _ (by omega) hx (List.getElem?_eq_getElem ha)
    exact ⟨this.2.1, by have h3 := this.2.2; unfold risB at h3; exact of_decide_eq_true h3⟩
  · have h0' : 0 < manyL ms := h0
    refine ⟨?_, ?_⟩
    · cases hfr : fr
      · rfl
      · have := htop.2 (.inl hfr); omega
    · cases hdn : dn
      · rfl
      · have := htop.2 (.inr hdn); omega
theorem may_many {m : Nat} {k step phase : Int} {fr dn : Bool} {vs : List Ml} {ms : List (List Int)} {top c : Nat} {l : List Int} (hl : ms[c]? = some l) (hm : top < manyL (ms.take c) + l.length) (htop : (top = 5000 ∨ (top = 0 ∧ (fr = true ∨ dn = true)))) : mayR m k ⟨step, phase, fr, dn, vs, ms⟩ = false := by
  rw [Bool.eq_false_iff]
  intro g
  obtain ⟨j, hj, h⟩ := mayR_iff.1 g
  have h1 : manyL (ms.take c) + l.length ≤ manyL ms := by
    rw [← manyL_take hl]
    conv => rhs; rw [← List.take_append_drop (c + 1) ms]
    unfold manyL
    rw [List.map_append, List.sum_append]
    omega
  have h2 : manyL ms ≤ 5000 := h.few
  rcases htop with e | ⟨e, hf⟩
  · omega
  · have := h.no (show 0 < manyL ms by omega)
    simp only at this
    rcases hf with hf | hf
    · rw [this.1] at hf; cases hf
    · rw [this.2] at hf; cases hf
theorem may_ris {m : Nat} {k step phase : Int} {fr dn : Bool} {vs : List Ml} {ms : List (List Int)} {c : Nat} {l : List Int} (hl : ms[c]? = some l) (hr : risB l = false) : mayR m k ⟨step, phase, fr, dn, vs, ms⟩ = false := by
  rw [Bool.eq_false_iff]
  intro g
  obtain ⟨j, hj, h⟩ := mayR_iff.1 g
  have := (h.mls l (List.mem_of_getElem? hl)).2
  have h2 : risB l = true := decide_eq_true this
  rw [hr] at h2
  cases h2
theorem may_wake {m : Nat} {k s step phase : Int} {fr dn : Bool} {vs : List Ml} {ms : List (List Int)} {c : Nat} {x : Ml} {l : List Int} {j : Jb} (hj : jobF k phase = some j) (hc : c ≤ 199) (hx : vs[c]? = some x) (hl : ms[c]? = some l) :
    ((wakeF k (c : Int) s x phase fr l).f = 0 ∧ valB j x = true ∧ mailB j l = true) ∨ ((wakeF k (c : Int) s x phase fr l).f = 2 ∧ mayR m k ⟨step, phase, fr, dn, vs, ms⟩ = false) := by
  have e : wakeF k (c : Int) s x phase fr l = wakeJ j (c : Int) s x fr l := by unfold wakeF; rw [hj]
  rw [e]
  unfold wakeJ
  have hi : inB (c : Int) 0 199 = true := inB_iff.2 (by omega)
  rw [hi, Bool.true_and]
  by_cases h : (valB j x && mailB j l) = true
  · rw [if_pos h]
    rw [Bool.and_eq_true] at h
    exact .inl ⟨rfl, h.1, h.2⟩
  · rw [if_neg h]
    refine .inr ⟨rfl, ?_⟩
    rw [Bool.eq_false_iff]
    intro g
    obtain ⟨j', hj', h'⟩ := mayR_iff.1 g
    have ej : j' = j := by rw [show jobF k phase = _ from hj'] at hj; exact Option.some.inj hj
    subst ej
    exact h (by rw [Bool.and_eq_true]; exact ⟨h'.val x (List.mem_of_getElem? hx), (h'.mls l (List.mem_of_getElem? hl)).1⟩)

set_option maxHeartbeats 4000000 in
set_option maxRecDepth 100000 in
theorem rMay_any (ea : Option Addr) (el ec m : Nat) (k s : Int) (T : StS) (vv vm : Value) (w : World) (hv : MlR w vv T.vals) (hm : LiR w vm T.mail) (hn : m ≤ 200) :
    Calls Try.prog 46 #[.agg #[.int .i64 (m : Int), .slice ea el ec, .int .i64 k, .int .i64 s], .agg #[.int .i64 T.step, .int .i64 T.phase, .bool T.fresh, .bool T.done, vv, vm]] w fun e w' => e = .returned (.bool (mayR m k T)) ∧ Below w.heap.size w w' := by
  have HV : Hid (MlR w vv T.vals) := hv
  have HM : Hid (LiR w vm T.mail) := hm
  obtain ⟨va, vc, rfl, hvc, hvm, _, _⟩ := hv
  obtain ⟨ma, mc, rfl, hmc, hmm, _⟩ := hm
  unfold maxLen at hvm hmm
  obtain ⟨step, phase, fr, dn, vs, ms⟩ := T
  simp only at HV HM hvc hvm hmc hmm ⊢
  obtain ⟨W0, hW0⟩ : ∃ W0, W0 = (w.alloc (.cells #[.int .i64 (m : Int), .slice ea el ec, .int .i64 k, .int .i64 s] 26)).alloc (.cells #[.int .i64 step, .int .i64 phase, .bool fr, .bool dn, .slice va vs.length vc, .slice ma ms.length mc] 30) := ⟨_, rfl⟩
  obtain ⟨Q0, T0, B0, s1, s2⟩ := boxes2 w #[.int .i64 (m : Int), .slice ea el ec, .int .i64 k, .int .i64 s] #[.int .i64 step, .int .i64 phase, .bool fr, .bool dn, .slice va vs.length vc, .slice ma ms.length mc] 26 30 W0 hW0
  have BH : Hid (Below w.heap.size w W0) := B0
  have HK : Hid (∀ X, Below W0.heap.size W0 X → BX 26 X w.heap.size #[.int .i64 (m : Int), .slice ea el ec, .int .i64 k, .int .i64 s] ∧ BX 30 X (w.heap.size + 1) #[.int .i64 step, .int .i64 phase, .bool fr, .bool dn, .slice va vs.length vc, .slice ma ms.length mc] ∧ Below w.heap.size w X) := fun X hX => ⟨Q0.below hX (by omega), T0.below hX (by omega), BH.out.trans (hX.mono (by omega))⟩
  have HVX : Hid (∀ X, Below W0.heap.size W0 X → MlR X (.slice va vs.length vc) vs ∧ LiR X (.slice ma ms.length mc) ms) := fun X hX => ⟨HV.out.below (HK.out _ hX).2.2 (Nat.le_refl _), HM.out.below (HK.out _ hX).2.2 (Nat.le_refl _)⟩
  obtain ⟨q0, q1, q2, q3⟩ := Q0.all4
  obtain ⟨⟨c0, c1, c2, c3, c4, c5⟩, _⟩ := T0.all6
  clear Q0 T0 B0
  by_cases g1 : step < 0
  · have HE : Hid (mayR m k ⟨step, phase, fr, dn, vs, ms⟩ = false) := mayR_step (by rw [Bool.eq_false_iff]; intro g; have := inB_iff.1 g; simp only at this; omega)
    generalize mayR m k ⟨step, phase, fr, dn, vs, ms⟩ = R at *
    go_enter Try.func46, Try.ntmps46
    go_upto_region 1 with fail
    rw [← hW0]
    clear hW0
    go_wp2_with fail
    go_ret
    exact ⟨by rw [HE.out]; rfl, BH.out⟩
  by_cases g2 : 100000 < step
  · have HE : Hid (mayR m k ⟨step, phase, fr, dn, vs, ms⟩ = false) := mayR_step (by rw [Bool.eq_false_iff]; intro g; have := inB_iff.1 g; simp only at this; omega)
    generalize mayR m k ⟨step, phase, fr, dn, vs, ms⟩ = R at *
    go_enter Try.func46, Try.ntmps46
    go_upto_region 1 with fail
    rw [← hW0]
    clear hW0
    go_wp2_with fail
    go_ret
    exact ⟨by rw [HE.out]; rfl, BH.out⟩
  cases fr
  · cases dn
    · rcases jobF_cases k phase with hnone | ⟨j, hjk, hjp⟩
      · have HE : Hid (mayR m k ⟨step, phase, false, false, vs, ms⟩ = false) := mayR_none hnone.1
        have CW : Hid (∀ X, Calls Try.prog 65 #[.int .i64 k, .int .i64 phase] X fun e w' => e = .returned (.tuple #[.bool false, .bool false, .int .i64 3]) ∧ Below X.heap.size X w') := fun X => waysP_none hnone.2 X
        generalize mayR m k ⟨step, phase, false, false, vs, ms⟩ = R at *
        clear hnone
        go_enter Try.func46, Try.ntmps46
        go_upto_region 1 with fail
        rw [← hW0]
        clear hW0
        go_wp2_with fail
        refine (CW.out _).mono ?_
        rintro e w1 ⟨rfl, hb1⟩
        have B1 : Hid (Below w.heap.size w w1) := (HK.out _ hb1).2.2
        clear hb1
        go_wp2_with fail
        go_ret
        exact ⟨by rw [HE.out]; rfl, B1.out⟩
      · have HJ : Hid (jobF k phase = some j) := by show jobF k phase = some j; rw [hjk, hjp]; exact jobF_of j
        have CW : Hid (∀ X, Calls Try.prog 65 #[.int .i64 k, .int .i64 phase] X fun e w' => e = .returned (.tuple #[.bool (wayJ j).1, .bool (wayJ j).2, .int .i64 0]) ∧ Below X.heap.size X w') := fun X => by rw [hjk, hjp]; exact waysP_any j X
        clear hjk hjp
        by_cases hlv : vs.length = m
        · by_cases hlm : ms.length = m
          · have tv : ((vs.length : Int) != (m : Int)) = false := by rw [hlv]; simp
            have tm : ((ms.length : Int) != (m : Int)) = false := by rw [hlm]; simp
            have HLV : Hid (vs.length = m) := hlv
            have HLM : Hid (ms.length = m) := hlm
            have HSTP : Hid (0 ≤ step ∧ step ≤ 100000) := ⟨by omega, by omega⟩
            have lv1 : m ≤ vs.length := by omega
            have lm1 : m ≤ ms.length := by omega
            have lm2 : ms.length ≤ m := by omega
            have HMX : Hid (∀ (c : Nat) (l : List Int), ms[c]? = some l → 5000 < manyL (ms.take c) + l.length → mayR m k ⟨step, phase, false, false, vs, ms⟩ = false) := fun c l hl h => may_many hl h (.inl rfl)
            have HMR : Hid (∀ (c : Nat) (l : List Int), ms[c]? = some l → risB l = false → mayR m k ⟨step, phase, false, false, vs, ms⟩ = false) := fun c l hl h => may_ris hl h
            have HMW : Hid (∀ (c : Nat) (x : Ml) (l : List Int), c ≤ 199 → vs[c]? = some x → ms[c]? = some l → ((wakeF k (c : Int) s x phase false l).f = 0 ∧ valB j x = true ∧ mailB j l = true) ∨ ((wakeF k (c : Int) s x phase false l).f = 2 ∧ mayR m k ⟨step, phase, false, false, vs, ms⟩ = false)) := fun c x l hc hx hl => may_wake HJ.out hc hx hl
            have HMY : Hid (PreI j vs ms m → manyL ms ≤ 5000 → mayR m k ⟨step, phase, false, false, vs, ms⟩ = true) := fun h1 h2 => may_yes HJ.out HSTP.out (by simp) HLV.out HLM.out h1 h2 (by simp)
            have HWK : Hid (∀ X (c : Nat) (x : Ml) (l : List Int), Below W0.heap.size W0 X → vs[c]? = some x → ms[c]? = some l → Calls Try.prog 67 #[.agg #[.int .i64 (m : Int), .slice ea el ec, .int .i64 k, .int .i64 s], .agg #[.int .i64 step, .int .i64 phase, .bool false, .bool false, .slice va vs.length vc, .slice ma ms.length mc], .int .i64 (c : Int)] X (WakP X (wakeF k (c : Int) s x phase false l))) := fun X c x l hX hx hl => rWake_any (.slice ea el ec) (m : Int) k s ⟨step, phase, false, false, vs, ms⟩ _ _ c x l X ⟨_, _, _, rfl⟩ (HVX.out X hX).1 (HVX.out X hX).2 hx hl
            generalize mayR m k ⟨step, phase, false, false, vs, ms⟩ = R at *
            clear hlv hlm
            go_enter Try.func46, Try.ntmps46
            go_upto_region 1 with fail
            rw [← hW0]
            clear hW0
            go_wp2_with fail
            refine (CW.out _).mono ?_
            rintro e w1 ⟨rfl, hb1⟩
            have A1 : Hid (Below W0.heap.size W0 w1) := hb1
            obtain ⟨Q1, T1, _⟩ := HK.out _ hb1
            clear q0 q1 q2 q3 c0 c1 c2 c3 c4 c5 hb1 CW
            obtain ⟨q0, q1, q2, q3⟩ := Q1.all4
            obtain ⟨⟨c0, c1, c2, c3, c4, c5⟩, _⟩ := T1.all6
            clear Q1 T1
            go_wp2_with fail
            clear q0 q1 q2 q3 c0 c1 c2 c3 c4 c5
            go_loopw [8, 66] (fun t i wr => ∃ c : Nat, c ≤ ms.length ∧ i = .int .i64 c ∧ t = .int .i64 ((5000 : Int) - (manyL (ms.take c) : Nat)) ∧ manyL (ms.take c) ≤ 5000 ∧ PreI j vs ms c ∧ Below W0.heap.size W0 wr) (fun _ i _ => ms.length - (intOf i).toNat)
            case atStart => exact ⟨0, by omega, rfl, rfl, by simp [manyL], fun a x l h => by omega, A1.out⟩
            case round =>
              obtain ⟨c, hc, rfl, rfl, hmy, hpre, hbel⟩ := hrel
              have AB : Hid (Below W0.heap.size W0 wr) := hbel
              have PB : Hid (PreI j vs ms c) := hpre
              obtain ⟨Q1, T1, hbw⟩ := HK.out _ hbel
              obtain ⟨q0, q1, q2, q3⟩ := Q1.all4
              obtain ⟨⟨c0, c1, c2, c3, c4, c5⟩, _⟩ := T1.all6
              have BW : Hid (Below w.heap.size w wr) := hbw
              clear Q1 T1 hbw hpre hbel
              by_cases hlt : c < ms.length
              · obtain ⟨b1, o1, cap1, e1, lt1, hc1, hc2, hv1⟩ := (HVX.out _ AB.out).2.at (by omega)
                injection e1 with e1 _ e3
                subst e1 e3
                obtain ⟨l, hl⟩ := getX hlt
                obtain ⟨x, hx⟩ := getX (show c < vs.length by omega)
                obtain ⟨u, hu, hur⟩ := hv1 c l hl
                have UR : Hid (InR wr u l) := hur
                obtain ⟨ua, uc, rfl, huc, hum, _⟩ := hur
                unfold maxLen at hum
                have p0 : (0 : Int) ≤ (c : Int) := by omega
                have p1 : (c : Int) < (ms.length : Int) := by omega
                have HMT : Hid (manyL (ms.take (c + 1)) = manyL (ms.take c) + l.length) := manyL_take hl
                have HX1 : Hid (5000 < manyL (ms.take c) + l.length → R = false) := HMX.out c l hl
                have HX2 : Hid (risB l = false → R = false) := HMR.out c l hl
                have HX3 := HMW.out c x l (by omega) hx hl
                have HPN : Hid (valB j x = true → mailB j l = true → risB l = true → PreI j vs ms (c + 1)) := fun h1 h2 h3 => PB.out.next hx hl h1 h2 h3
                have HWC : Hid (∀ X, Below W0.heap.size W0 X → _) := fun X hX => HWK.out X c x l hX hx hl
                generalize wakeF k (c : Int) s x phase false l = r at *
                have HX4 : Hid ((r.f = 0 ∧ valB j x = true ∧ mailB j l = true) ∨ (r.f = 2 ∧ R = false)) := HX3
                have CS : Hid (∀ X, InR X (.slice ua l.length uc) l → Calls Try.prog 66 #[.slice ua l.length uc] X fun e w' => e = .returned (.bool (risB l)) ∧ Below X.heap.size X w') := fun X hX => isSortI_any _ l X hX
                generalize manyL (ms.take c) = my at *
                clear hv1 hl hx HX3
                obtain ⟨tt, htt⟩ : ∃ t : Int, (5000 : Int) - (my : Nat) - (l.length : Int) = t := ⟨_, rfl⟩
                have wn : IntKind.i64.wrap ((5000 : Int) - (my : Nat) - (l.length : Int)) = tt := by rw [htt]; exact wrap_id64 (by omega) (by omega)
                by_cases hneg : tt < 0
                · have HE : Hid (R = false) := HX1.out (by omega)
                  go_wp2_with fail
                  go_ret
                  exact ⟨by rw [HE.out]; rfl, BW.out⟩
                · go_wp2_with fail
                  refine (CS.out _ UR.out).mono ?_
                  rintro e w2 ⟨rfl, hb2⟩
                  have A2 : Hid (Below W0.heap.size W0 w2) := AB.out.trans (hb2.mono AB.out.size)
                  obtain ⟨Q1, T1, hbw⟩ := HK.out _ A2.out
                  clear q0 q1 q2 q3 c0 c1 c2 c3 c4 c5 hb2
                  obtain ⟨q0, q1, q2, q3⟩ := Q1.all4
                  obtain ⟨⟨c0, c1, c2, c3, c4, c5⟩, _⟩ := T1.all6
                  have BW2 : Hid (Below w.heap.size w w2) := hbw
                  clear Q1 T1 hbw
                  cases hrb : risB l
                  · have HE : Hid (R = false) := HX2.out hrb
                    clear hrb
                    go_wp2_with fail
                    go_ret
                    exact ⟨by rw [HE.out]; rfl, BW2.out⟩
                  · have HRB : Hid (risB l = true) := hrb
                    clear hrb
                    go_wp2_with fail
                    refine (HWC.out _ A2.out).mono ?_
                    rintro e w3 ⟨rfl, hb3⟩
                    have A3 : Hid (Below W0.heap.size W0 w3) := A2.out.trans (hb3.mono A2.out.size)
                    obtain ⟨_, _, hbw⟩ := HK.out _ A3.out
                    have BW3 : Hid (Below w.heap.size w w3) := hbw
                    have hs3 := hbw.size
                    clear q0 q1 q2 q3 c0 c1 c2 c3 c4 c5 hb3 hbw
                    obtain ⟨⟨rx1, rx2⟩, rb, rf⟩ := r
                    simp only at HX4 ⊢
                    rcases HX4.out with ⟨h1, h2, h3⟩ | ⟨h1, h2⟩
                    · subst h1
                      have HPR : Hid (PreI j vs ms (c + 1)) := HPN.out h2 h3 HRB.out
                      have A4 : Hid (Below W0.heap.size W0 (w3.alloc (.cells #[.int .i64 rx1, .int .i64 rx2] 59))) := A3.out.alloc A3.out.size _
                      clear h2 h3
                      go_wp2_with fail
                      go_roundw
                      case rel => exact ⟨c + 1, by omega, by go_num, by rw [HMT.out]; congr 1; omega, by rw [HMT.out]; omega, HPR.out, A4.out⟩
                      case measure => simp [intOf]; omega
                    · subst h1
                      have HE : Hid (R = false) := h2
                      have A4 : Hid (Below w.heap.size w (w3.alloc (.cells #[.int .i64 rx1, .int .i64 rx2] 59))) := BW3.out.alloc hs3 _
                      clear h2
                      go_wp2_with fail
                      go_ret
                      exact ⟨by rw [HE.out]; rfl, A4.out⟩
              · have HE : Hid (R = true) := by
                  have ec : ms.take c = ms := List.take_of_length_le (by omega)
                  rw [ec] at hmy
                  refine HMY.out (fun a x l ha hx hl => PB.out a x l (by have := (List.getElem?_eq_some_iff.1 hl).1; omega) hx hl) hmy
                clear hmy
                go_wp2_with fail
                go_ret
                exact ⟨by rw [HE.out]; rfl, BW.out⟩
          · have HE : Hid (mayR m k ⟨step, phase, false, false, vs, ms⟩ = false) := mayR_len fun g => hlm g.2
            have tv : ((vs.length : Int) != (m : Int)) = false := by rw [hlv]; simp
            have tm : ((ms.length : Int) != (m : Int)) = true := by simp; omega
            clear hlv
            generalize mayR m k ⟨step, phase, false, false, vs, ms⟩ = R at *
            go_enter Try.func46, Try.ntmps46
            go_upto_region 1 with fail
            rw [← hW0]
            clear hW0
            go_wp2_with fail
            refine (CW.out _).mono ?_
            rintro e w1 ⟨rfl, hb1⟩
            obtain ⟨Q1, T1, hbw⟩ := HK.out _ hb1
            have B1 : Hid (Below w.heap.size w w1) := hbw
            clear q0 q1 q2 q3 c0 c1 c2 c3 c4 c5 hb1 CW
            obtain ⟨q0, q1, q2, q3⟩ := Q1.all4
            obtain ⟨⟨c0, c1, c2, c3, c4, c5⟩, _⟩ := T1.all6
            clear Q1 T1 hbw
            go_wp2_with fail
            go_ret
            exact ⟨by rw [HE.out]; rfl, B1.out⟩
        · have HE : Hid (mayR m k ⟨step, phase, false, false, vs, ms⟩ = false) := mayR_len fun g => hlv g.1
          have tv : ((vs.length : Int) != (m : Int)) = true := by simp; omega
          generalize mayR m k ⟨step, phase, false, false, vs, ms⟩ = R at *
          go_enter Try.func46, Try.ntmps46
          go_upto_region 1 with fail
          rw [← hW0]
          clear hW0
          go_wp2_with fail
          refine (CW.out _).mono ?_
          rintro e w1 ⟨rfl, hb1⟩
          obtain ⟨Q1, T1, hbw⟩ := HK.out _ hb1
          have B1 : Hid (Below w.heap.size w w1) := hbw
          clear q0 q1 q2 q3 c0 c1 c2 c3 c4 c5 hb1 CW
          obtain ⟨q0, q1, q2, q3⟩ := Q1.all4
          obtain ⟨⟨c0, c1, c2, c3, c4, c5⟩, _⟩ := T1.all6
          clear Q1 T1 hbw
          go_wp2_with fail
          go_ret
          exact ⟨by rw [HE.out]; rfl, B1.out⟩
    · rcases jobF_cases k phase with hnone | ⟨j, hjk, hjp⟩
      · have HE : Hid (mayR m k ⟨step, phase, false, true, vs, ms⟩ = false) := mayR_none hnone.1
        have CW : Hid (∀ X, Calls Try.prog 65 #[.int .i64 k, .int .i64 phase] X fun e w' => e = .returned (.tuple #[.bool false, .bool false, .int .i64 3]) ∧ Below X.heap.size X w') := fun X => waysP_none hnone.2 X
        generalize mayR m k ⟨step, phase, false, true, vs, ms⟩ = R at *
        clear hnone
        go_enter Try.func46, Try.ntmps46
        go_upto_region 1 with fail
        rw [← hW0]
        clear hW0
        go_wp2_with fail
        refine (CW.out _).mono ?_
        rintro e w1 ⟨rfl, hb1⟩
        have B1 : Hid (Below w.heap.size w w1) := (HK.out _ hb1).2.2
        clear hb1
        go_wp2_with fail
        go_ret
        exact ⟨by rw [HE.out]; rfl, B1.out⟩
      · have HJ : Hid (jobF k phase = some j) := by show jobF k phase = some j; rw [hjk, hjp]; exact jobF_of j
        have CW : Hid (∀ X, Calls Try.prog 65 #[.int .i64 k, .int .i64 phase] X fun e w' => e = .returned (.tuple #[.bool (wayJ j).1, .bool (wayJ j).2, .int .i64 0]) ∧ Below X.heap.size X w') := fun X => by rw [hjk, hjp]; exact waysP_any j X
        clear hjk hjp
        by_cases hlv : vs.length = m
        · by_cases hlm : ms.length = m
          · have tv : ((vs.length : Int) != (m : Int)) = false := by rw [hlv]; simp
            have tm : ((ms.length : Int) != (m : Int)) = false := by rw [hlm]; simp
            have HLV : Hid (vs.length = m) := hlv
            have HLM : Hid (ms.length = m) := hlm
            have HSTP : Hid (0 ≤ step ∧ step ≤ 100000) := ⟨by omega, by omega⟩
            have lv1 : m ≤ vs.length := by omega
            have lm1 : m ≤ ms.length := by omega
            have lm2 : ms.length ≤ m := by omega
            have HMX : Hid (∀ (c : Nat) (l : List Int), ms[c]? = some l → 0 < manyL (ms.take c) + l.length → mayR m k ⟨step, phase, false, true, vs, ms⟩ = false) := fun c l hl h => may_many hl h (.inr ⟨rfl, .inr rfl⟩)
            have HMR : Hid (∀ (c : Nat) (l : List Int), ms[c]? = some l → risB l = false → mayR m k ⟨step, phase, false, true, vs, ms⟩ = false) := fun c l hl h => may_ris hl h
            have HMW : Hid (∀ (c : Nat) (x : Ml) (l : List Int), c ≤ 199 → vs[c]? = some x → ms[c]? = some l → ((wakeF k (c : Int) s x phase false l).f = 0 ∧ valB j x = true ∧ mailB j l = true) ∨ ((wakeF k (c : Int) s x phase false l).f = 2 ∧ mayR m k ⟨step, phase, false, true, vs, ms⟩ = false)) := fun c x l hc hx hl => may_wake HJ.out hc hx hl
            have HMY : Hid (PreI j vs ms m → manyL ms ≤ 0 → mayR m k ⟨step, phase, false, true, vs, ms⟩ = true) := fun h1 h2 => may_yes HJ.out HSTP.out (by simp) HLV.out HLM.out h1 h2 (by simp)
            have HWK : Hid (∀ X (c : Nat) (x : Ml) (l : List Int), Below W0.heap.size W0 X → vs[c]? = some x → ms[c]? = some l → Calls Try.prog 67 #[.agg #[.int .i64 (m : Int), .slice ea el ec, .int .i64 k, .int .i64 s], .agg #[.int .i64 step, .int .i64 phase, .bool false, .bool true, .slice va vs.length vc, .slice ma ms.length mc], .int .i64 (c : Int)] X (WakP X (wakeF k (c : Int) s x phase false l))) := fun X c x l hX hx hl => rWake_any (.slice ea el ec) (m : Int) k s ⟨step, phase, false, true, vs, ms⟩ _ _ c x l X ⟨_, _, _, rfl⟩ (HVX.out X hX).1 (HVX.out X hX).2 hx hl
            generalize mayR m k ⟨step, phase, false, true, vs, ms⟩ = R at *
            clear hlv hlm
            go_enter Try.func46, Try.ntmps46
            go_upto_region 1 with fail
            rw [← hW0]
            clear hW0
            go_wp2_with fail
            refine (CW.out _).mono ?_
            rintro e w1 ⟨rfl, hb1⟩
            have A1 : Hid (Below W0.heap.size W0 w1) := hb1
            obtain ⟨Q1, T1, _⟩ := HK.out _ hb1
            clear q0 q1 q2 q3 c0 c1 c2 c3 c4 c5 hb1 CW
            obtain ⟨q0, q1, q2, q3⟩ := Q1.all4
            obtain ⟨⟨c0, c1, c2, c3, c4, c5⟩, _⟩ := T1.all6
            clear Q1 T1
            go_wp2_with fail
            clear q0 q1 q2 q3 c0 c1 c2 c3 c4 c5
            go_loopw [8, 66] (fun t i wr => ∃ c : Nat, c ≤ ms.length ∧ i = .int .i64 c ∧ t = .int .i64 ((0 : Int) - (manyL (ms.take c) : Nat)) ∧ manyL (ms.take c) ≤ 0 ∧ PreI j vs ms c ∧ Below W0.heap.size W0 wr) (fun _ i _ => ms.length - (intOf i).toNat)
            case atStart => exact ⟨0, by omega, rfl, rfl, by simp [manyL], fun a x l h => by omega, A1.out⟩
            case round =>
              obtain ⟨c, hc, rfl, rfl, hmy, hpre, hbel⟩ := hrel
              have AB : Hid (Below W0.heap.size W0 wr) := hbel
              have PB : Hid (PreI j vs ms c) := hpre
              obtain ⟨Q1, T1, hbw⟩ := HK.out _ hbel
              obtain ⟨q0, q1, q2, q3⟩ := Q1.all4
              obtain ⟨⟨c0, c1, c2, c3, c4, c5⟩, _⟩ := T1.all6
              have BW : Hid (Below w.heap.size w wr) := hbw
              clear Q1 T1 hbw hpre hbel
              by_cases hlt : c < ms.length
              · obtain ⟨b1, o1, cap1, e1, lt1, hc1, hc2, hv1⟩ := (HVX.out _ AB.out).2.at (by omega)
                injection e1 with e1 _ e3
                subst e1 e3
                obtain ⟨l, hl⟩ := getX hlt
                obtain ⟨x, hx⟩ := getX (show c < vs.length by omega)
                obtain ⟨u, hu, hur⟩ := hv1 c l hl
                have UR : Hid (InR wr u l) := hur
                obtain ⟨ua, uc, rfl, huc, hum, _⟩ := hur
                unfold maxLen at hum
                have p0 : (0 : Int) ≤ (c : Int) := by omega
                have p1 : (c : Int) < (ms.length : Int) := by omega
                have HMT : Hid (manyL (ms.take (c + 1)) = manyL (ms.take c) + l.length) := manyL_take hl
                have HX1 : Hid (0 < manyL (ms.take c) + l.length → R = false) := HMX.out c l hl
                have HX2 : Hid (risB l = false → R = false) := HMR.out c l hl
                have HX3 := HMW.out c x l (by omega) hx hl
                have HPN : Hid (valB j x = true → mailB j l = true → risB l = true → PreI j vs ms (c + 1)) := fun h1 h2 h3 => PB.out.next hx hl h1 h2 h3
                have HWC : Hid (∀ X, Below W0.heap.size W0 X → _) := fun X hX => HWK.out X c x l hX hx hl
                generalize wakeF k (c : Int) s x phase false l = r at *
                have HX4 : Hid ((r.f = 0 ∧ valB j x = true ∧ mailB j l = true) ∨ (r.f = 2 ∧ R = false)) := HX3
                have CS : Hid (∀ X, InR X (.slice ua l.length uc) l → Calls Try.prog 66 #[.slice ua l.length uc] X fun e w' => e = .returned (.bool (risB l)) ∧ Below X.heap.size X w') := fun X hX => isSortI_any _ l X hX
                generalize manyL (ms.take c) = my at *
                clear hv1 hl hx HX3
                obtain ⟨tt, htt⟩ : ∃ t : Int, (0 : Int) - (my : Nat) - (l.length : Int) = t := ⟨_, rfl⟩
                have wn : IntKind.i64.wrap ((0 : Int) - (my : Nat) - (l.length : Int)) = tt := by rw [htt]; exact wrap_id64 (by omega) (by omega)
                by_cases hneg : tt < 0
                · have HE : Hid (R = false) := HX1.out (by omega)
                  go_wp2_with fail
                  go_ret
                  exact ⟨by rw [HE.out]; rfl, BW.out⟩
                · go_wp2_with fail
                  refine (CS.out _ UR.out).mono ?_
                  rintro e w2 ⟨rfl, hb2⟩
                  have A2 : Hid (Below W0.heap.size W0 w2) := AB.out.trans (hb2.mono AB.out.size)
                  obtain ⟨Q1, T1, hbw⟩ := HK.out _ A2.out
                  clear q0 q1 q2 q3 c0 c1 c2 c3 c4 c5 hb2
                  obtain ⟨q0, q1, q2, q3⟩ := Q1.all4
                  obtain ⟨⟨c0, c1, c2, c3, c4, c5⟩, _⟩ := T1.all6
                  have BW2 : Hid (Below w.heap.size w w2) := hbw
                  clear Q1 T1 hbw
                  cases hrb : risB l
                  · have HE : Hid (R = false) := HX2.out hrb
                    clear hrb
                    go_wp2_with fail
                    go_ret
                    exact ⟨by rw [HE.out]; rfl, BW2.out⟩
                  · have HRB : Hid (risB l = true) := hrb
                    clear hrb
                    go_wp2_with fail
                    refine (HWC.out _ A2.out).mono ?_
                    rintro e w3 ⟨rfl, hb3⟩
                    have A3 : Hid (Below W0.heap.size W0 w3) := A2.out.trans (hb3.mono A2.out.size)
                    obtain ⟨_, _, hbw⟩ := HK.out _ A3.out
                    have BW3 : Hid (Below w.heap.size w w3) := hbw
                    have hs3 := hbw.size
                    clear q0 q1 q2 q3 c0 c1 c2 c3 c4 c5 hb3 hbw
                    obtain ⟨⟨rx1, rx2⟩, rb, rf⟩ := r
                    simp only at HX4 ⊢
                    rcases HX4.out with ⟨h1, h2, h3⟩ | ⟨h1, h2⟩
                    · subst h1
                      have HPR : Hid (PreI j vs ms (c + 1)) := HPN.out h2 h3 HRB.out
                      have A4 : Hid (Below W0.heap.size W0 (w3.alloc (.cells #[.int .i64 rx1, .int .i64 rx2] 59))) := A3.out.alloc A3.out.size _
                      clear h2 h3
                      go_wp2_with fail
                      go_roundw
                      case rel => exact ⟨c + 1, by omega, by go_num, by rw [HMT.out]; congr 1; omega, by rw [HMT.out]; omega, HPR.out, A4.out⟩
                      case measure => simp [intOf]; omega
                    · subst h1
                      have HE : Hid (R = false) := h2
                      have A4 : Hid (Below w.heap.size w (w3.alloc (.cells #[.int .i64 rx1, .int .i64 rx2] 59))) := BW3.out.alloc hs3 _
                      clear h2
                      go_wp2_with fail
                      go_ret
                      exact ⟨by rw [HE.out]; rfl, A4.out⟩
              · have HE : Hid (R = true) := by
                  have ec : ms.take c = ms := List.take_of_length_le (by omega)
                  rw [ec] at hmy
                  refine HMY.out (fun a x l ha hx hl => PB.out a x l (by have := (List.getElem?_eq_some_iff.1 hl).1; omega) hx hl) hmy
                clear hmy
                go_wp2_with fail
                go_ret
                exact ⟨by rw [HE.out]; rfl, BW.out⟩
          · have HE : Hid (mayR m k ⟨step, phase, false, true, vs, ms⟩ = false) := mayR_len fun g => hlm g.2
            have tv : ((vs.length : Int) != (m : Int)) = false := by rw [hlv]; simp
            have tm : ((ms.length : Int) != (m : Int)) = true := by simp; omega
            clear hlv
            generalize mayR m k ⟨step, phase, false, true, vs, ms⟩ = R at *
            go_enter Try.func46, Try.ntmps46
            go_upto_region 1 with fail
            rw [← hW0]
            clear hW0
            go_wp2_with fail
            refine (CW.out _).mono ?_
            rintro e w1 ⟨rfl, hb1⟩
            obtain ⟨Q1, T1, hbw⟩ := HK.out _ hb1
            have B1 : Hid (Below w.heap.size w w1) := hbw
            clear q0 q1 q2 q3 c0 c1 c2 c3 c4 c5 hb1 CW
            obtain ⟨q0, q1, q2, q3⟩ := Q1.all4
            obtain ⟨⟨c0, c1, c2, c3, c4, c5⟩, _⟩ := T1.all6
            clear Q1 T1 hbw
            go_wp2_with fail
            go_ret
            exact ⟨by rw [HE.out]; rfl, B1.out⟩
        · have HE : Hid (mayR m k ⟨step, phase, false, true, vs, ms⟩ = false) := mayR_len fun g => hlv g.1
          have tv : ((vs.length : Int) != (m : Int)) = true := by simp; omega
          generalize mayR m k ⟨step, phase, false, true, vs, ms⟩ = R at *
          go_enter Try.func46, Try.ntmps46
          go_upto_region 1 with fail
          rw [← hW0]
          clear hW0
          go_wp2_with fail
          refine (CW.out _).mono ?_
          rintro e w1 ⟨rfl, hb1⟩
          obtain ⟨Q1, T1, hbw⟩ := HK.out _ hb1
          have B1 : Hid (Below w.heap.size w w1) := hbw
          clear q0 q1 q2 q3 c0 c1 c2 c3 c4 c5 hb1 CW
          obtain ⟨q0, q1, q2, q3⟩ := Q1.all4
          obtain ⟨⟨c0, c1, c2, c3, c4, c5⟩, _⟩ := T1.all6
          clear Q1 T1 hbw
          go_wp2_with fail
          go_ret
          exact ⟨by rw [HE.out]; rfl, B1.out⟩
  · cases dn
    · rcases jobF_cases k phase with hnone | ⟨j, hjk, hjp⟩
      · have HE : Hid (mayR m k ⟨step, phase, true, false, vs, ms⟩ = false) := mayR_none hnone.1
        have CW : Hid (∀ X, Calls Try.prog 65 #[.int .i64 k, .int .i64 phase] X fun e w' => e = .returned (.tuple #[.bool false, .bool false, .int .i64 3]) ∧ Below X.heap.size X w') := fun X => waysP_none hnone.2 X
        generalize mayR m k ⟨step, phase, true, false, vs, ms⟩ = R at *
        clear hnone
        go_enter Try.func46, Try.ntmps46
        go_upto_region 1 with fail
        rw [← hW0]
        clear hW0
        go_wp2_with fail
        refine (CW.out _).mono ?_
        rintro e w1 ⟨rfl, hb1⟩
        have B1 : Hid (Below w.heap.size w w1) := (HK.out _ hb1).2.2
        clear hb1
        go_wp2_with fail
        go_ret
        exact ⟨by rw [HE.out]; rfl, B1.out⟩
      · have HJ : Hid (jobF k phase = some j) := by show jobF k phase = some j; rw [hjk, hjp]; exact jobF_of j
        have CW : Hid (∀ X, Calls Try.prog 65 #[.int .i64 k, .int .i64 phase] X fun e w' => e = .returned (.tuple #[.bool (wayJ j).1, .bool (wayJ j).2, .int .i64 0]) ∧ Below X.heap.size X w') := fun X => by rw [hjk, hjp]; exact waysP_any j X
        clear hjk hjp
        by_cases hlv : vs.length = m
        · by_cases hlm : ms.length = m
          · have tv : ((vs.length : Int) != (m : Int)) = false := by rw [hlv]; simp
            have tm : ((ms.length : Int) != (m : Int)) = false := by rw [hlm]; simp
            have HLV : Hid (vs.length = m) := hlv
            have HLM : Hid (ms.length = m) := hlm
            have HSTP : Hid (0 ≤ step ∧ step ≤ 100000) := ⟨by omega, by omega⟩
            have lv1 : m ≤ vs.length := by omega
            have lm1 : m ≤ ms.length := by omega
            have lm2 : ms.length ≤ m := by omega
            have HMX : Hid (∀ (c : Nat) (l : List Int), ms[c]? = some l → 0 < manyL (ms.take c) + l.length → mayR m k ⟨step, phase, true, false, vs, ms⟩ = false) := fun c l hl h => may_many hl h (.inr ⟨rfl, .inl rfl⟩)
            have HMR : Hid (∀ (c : Nat) (l : List Int), ms[c]? = some l → risB l = false → mayR m k ⟨step, phase, true, false, vs, ms⟩ = false) := fun c l hl h => may_ris hl h
            have HMW : Hid (∀ (c : Nat) (x : Ml) (l : List Int), c ≤ 199 → vs[c]? = some x → ms[c]? = some l → ((wakeF k (c : Int) s x phase true l).f = 0 ∧ valB j x = true ∧ mailB j l = true) ∨ ((wakeF k (c : Int) s x phase true l).f = 2 ∧ mayR m k ⟨step, phase, true, false, vs, ms⟩ = false)) := fun c x l hc hx hl => may_wake HJ.out hc hx hl
            have HMY : Hid (PreI j vs ms m → manyL ms ≤ 0 → mayR m k ⟨step, phase, true, false, vs, ms⟩ = true) := fun h1 h2 => may_yes HJ.out HSTP.out (by simp) HLV.out HLM.out h1 h2 (by simp)
            have HWK : Hid (∀ X (c : Nat) (x : Ml) (l : List Int), Below W0.heap.size W0 X → vs[c]? = some x → ms[c]? = some l → Calls Try.prog 67 #[.agg #[.int .i64 (m : Int), .slice ea el ec, .int .i64 k, .int .i64 s], .agg #[.int .i64 step, .int .i64 phase, .bool true, .bool false, .slice va vs.length vc, .slice ma ms.length mc], .int .i64 (c : Int)] X (WakP X (wakeF k (c : Int) s x phase true l))) := fun X c x l hX hx hl => rWake_any (.slice ea el ec) (m : Int) k s ⟨step, phase, true, false, vs, ms⟩ _ _ c x l X ⟨_, _, _, rfl⟩ (HVX.out X hX).1 (HVX.out X hX).2 hx hl
            generalize mayR m k ⟨step, phase, true, false, vs, ms⟩ = R at *
            clear hlv hlm
            go_enter Try.func46, Try.ntmps46
            go_upto_region 1 with fail
            rw [← hW0]
            clear hW0
            go_wp2_with fail
            refine (CW.out _).mono ?_
            rintro e w1 ⟨rfl, hb1⟩
            have A1 : Hid (Below W0.heap.size W0 w1) := hb1
            obtain ⟨Q1, T1, _⟩ := HK.out _ hb1
            clear q0 q1 q2 q3 c0 c1 c2 c3 c4 c5 hb1 CW
            obtain ⟨q0, q1, q2, q3⟩ := Q1.all4
            obtain ⟨⟨c0, c1, c2, c3, c4, c5⟩, _⟩ := T1.all6
            clear Q1 T1
            go_wp2_with fail
            clear q0 q1 q2 q3 c0 c1 c2 c3 c4 c5
            go_loopw [8, 66] (fun t i wr => ∃ c : Nat, c ≤ ms.length ∧ i = .int .i64 c ∧ t = .int .i64 ((0 : Int) - (manyL (ms.take c) : Nat)) ∧ manyL (ms.take c) ≤ 0 ∧ PreI j vs ms c ∧ Below W0.heap.size W0 wr) (fun _ i _ => ms.length - (intOf i).toNat)
            case atStart => exact ⟨0, by omega, rfl, rfl, by simp [manyL], fun a x l h => by omega, A1.out⟩
            case round =>
              obtain ⟨c, hc, rfl, rfl, hmy, hpre, hbel⟩ := hrel
              have AB : Hid (Below W0.heap.size W0 wr) := hbel
              have PB : Hid (PreI j vs ms c) := hpre
              obtain ⟨Q1, T1, hbw⟩ := HK.out _ hbel
              obtain ⟨q0, q1, q2, q3⟩ := Q1.all4
              obtain ⟨⟨c0, c1, c2, c3, c4, c5⟩, _⟩ := T1.all6
              have BW : Hid (Below w.heap.size w wr) := hbw
              clear Q1 T1 hbw hpre hbel
              by_cases hlt : c < ms.length
              · obtain ⟨b1, o1, cap1, e1, lt1, hc1, hc2, hv1⟩ := (HVX.out _ AB.out).2.at (by omega)
                injection e1 with e1 _ e3
                subst e1 e3
                obtain ⟨l, hl⟩ := getX hlt
                obtain ⟨x, hx⟩ := getX (show c < vs.length by omega)
                obtain ⟨u, hu, hur⟩ := hv1 c l hl
                have UR : Hid (InR wr u l) := hur
                obtain ⟨ua, uc, rfl, huc, hum, _⟩ := hur
                unfold maxLen at hum
                have p0 : (0 : Int) ≤ (c : Int) := by omega
                have p1 : (c : Int) < (ms.length : Int) := by omega
                have HMT : Hid (manyL (ms.take (c + 1)) = manyL (ms.take c) + l.length) := manyL_take hl
                have HX1 : Hid (0 < manyL (ms.take c) + l.length → R = false) := HMX.out c l hl
                have HX2 : Hid (risB l = false → R = false) := HMR.out c l hl
                have HX3 := HMW.out c x l (by omega) hx hl
                have HPN : Hid (valB j x = true → mailB j l = true → risB l = true → PreI j vs ms (c + 1)) := fun h1 h2 h3 => PB.out.next hx hl h1 h2 h3
                have HWC : Hid (∀ X, Below W0.heap.size W0 X → _) := fun X hX => HWK.out X c x l hX hx hl
                generalize wakeF k (c : Int) s x phase true l = r at *
                have HX4 : Hid ((r.f = 0 ∧ valB j x = true ∧ mailB j l = true) ∨ (r.f = 2 ∧ R = false)) := HX3
                have CS : Hid (∀ X, InR X (.slice ua l.length uc) l → Calls Try.prog 66 #[.slice ua l.length uc] X fun e w' => e = .returned (.bool (risB l)) ∧ Below X.heap.size X w') := fun X hX => isSortI_any _ l X hX
                generalize manyL (ms.take c) = my at *
                clear hv1 hl hx HX3
                obtain ⟨tt, htt⟩ : ∃ t : Int, (0 : Int) - (my : Nat) - (l.length : Int) = t := ⟨_, rfl⟩
                have wn : IntKind.i64.wrap ((0 : Int) - (my : Nat) - (l.length : Int)) = tt := by rw [htt]; exact wrap_id64 (by omega) (by omega)
                by_cases hneg : tt < 0
                · have HE : Hid (R = false) := HX1.out (by omega)
                  go_wp2_with fail
                  go_ret
                  exact ⟨by rw [HE.out]; rfl, BW.out⟩
                · go_wp2_with fail
                  refine (CS.out _ UR.out).mono ?_
                  rintro e w2 ⟨rfl, hb2⟩
                  have A2 : Hid (Below W0.heap.size W0 w2) := AB.out.trans (hb2.mono AB.out.size)
                  obtain ⟨Q1, T1, hbw⟩ := HK.out _ A2.out
                  clear q0 q1 q2 q3 c0 c1 c2 c3 c4 c5 hb2
                  obtain ⟨q0, q1, q2, q3⟩ := Q1.all4
                  obtain ⟨⟨c0, c1, c2, c3, c4, c5⟩, _⟩ := T1.all6
                  have BW2 : Hid (Below w.heap.size w w2) := hbw
                  clear Q1 T1 hbw
                  cases hrb : risB l
                  · have HE : Hid (R = false) := HX2.out hrb
                    clear hrb
                    go_wp2_with fail
                    go_ret
                    exact ⟨by rw [HE.out]; rfl, BW2.out⟩
                  · have HRB : Hid (risB l = true) := hrb
                    clear hrb
                    go_wp2_with fail
                    refine (HWC.out _ A2.out).mono ?_
                    rintro e w3 ⟨rfl, hb3⟩
                    have A3 : Hid (Below W0.heap.size W0 w3) := A2.out.trans (hb3.mono A2.out.size)
                    obtain ⟨_, _, hbw⟩ := HK.out _ A3.out
                    have BW3 : Hid (Below w.heap.size w w3) := hbw
                    have hs3 := hbw.size
                    clear q0 q1 q2 q3 c0 c1 c2 c3 c4 c5 hb3 hbw
                    obtain ⟨⟨rx1, rx2⟩, rb, rf⟩ := r
                    simp only at HX4 ⊢
                    rcases HX4.out with ⟨h1, h2, h3⟩ | ⟨h1, h2⟩
                    · subst h1
                      have HPR : Hid (PreI j vs ms (c + 1)) := HPN.out h2 h3 HRB.out
                      have A4 : Hid (Below W0.heap.size W0 (w3.alloc (.cells #[.int .i64 rx1, .int .i64 rx2] 59))) := A3.out.alloc A3.out.size _
                      clear h2 h3
                      go_wp2_with fail
                      go_roundw
                      case rel => exact ⟨c + 1, by omega, by go_num, by rw [HMT.out]; congr 1; omega, by rw [HMT.out]; omega, HPR.out, A4.out⟩
                      case measure => simp [intOf]; omega
                    · subst h1
                      have HE : Hid (R = false) := h2
                      have A4 : Hid (Below w.heap.size w (w3.alloc (.cells #[.int .i64 rx1, .int .i64 rx2] 59))) := BW3.out.alloc hs3 _
                      clear h2
                      go_wp2_with fail
                      go_ret
                      exact ⟨by rw [HE.out]; rfl, A4.out⟩
              · have HE : Hid (R = true) := by
                  have ec : ms.take c = ms := List.take_of_length_le (by omega)
                  rw [ec] at hmy
                  refine HMY.out (fun a x l ha hx hl => PB.out a x l (by have := (List.getElem?_eq_some_iff.1 hl).1; omega) hx hl) hmy
                clear hmy
                go_wp2_with fail
                go_ret
                exact ⟨by rw [HE.out]; rfl, BW.out⟩
          · have HE : Hid (mayR m k ⟨step, phase, true, false, vs, ms⟩ = false) := mayR_len fun g => hlm g.2
            have tv : ((vs.length : Int) != (m : Int)) = false := by rw [hlv]; simp
            have tm : ((ms.length : Int) != (m : Int)) = true := by simp; omega
            clear hlv
            generalize mayR m k ⟨step, phase, true, false, vs, ms⟩ = R at *
            go_enter Try.func46, Try.ntmps46
            go_upto_region 1 with fail
            rw [← hW0]
            clear hW0
            go_wp2_with fail
            refine (CW.out _).mono ?_
            rintro e w1 ⟨rfl, hb1⟩
            obtain ⟨Q1, T1, hbw⟩ := HK.out _ hb1
            have B1 : Hid (Below w.heap.size w w1) := hbw
            clear q0 q1 q2 q3 c0 c1 c2 c3 c4 c5 hb1 CW
            obtain ⟨q0, q1, q2, q3⟩ := Q1.all4
            obtain ⟨⟨c0, c1, c2, c3, c4, c5⟩, _⟩ := T1.all6
            clear Q1 T1 hbw
            go_wp2_with fail
            go_ret
            exact ⟨by rw [HE.out]; rfl, B1.out⟩
        · have HE : Hid (mayR m k ⟨step, phase, true, false, vs, ms⟩ = false) := mayR_len fun g => hlv g.1
          have tv : ((vs.length : Int) != (m : Int)) = true := by simp; omega
          generalize mayR m k ⟨step, phase, true, false, vs, ms⟩ = R at *
          go_enter Try.func46, Try.ntmps46
          go_upto_region 1 with fail
          rw [← hW0]
          clear hW0
          go_wp2_with fail
          refine (CW.out _).mono ?_
          rintro e w1 ⟨rfl, hb1⟩
          obtain ⟨Q1, T1, hbw⟩ := HK.out _ hb1
          have B1 : Hid (Below w.heap.size w w1) := hbw
          clear q0 q1 q2 q3 c0 c1 c2 c3 c4 c5 hb1 CW
          obtain ⟨q0, q1, q2, q3⟩ := Q1.all4
          obtain ⟨⟨c0, c1, c2, c3, c4, c5⟩, _⟩ := T1.all6
          clear Q1 T1 hbw
          go_wp2_with fail
          go_ret
          exact ⟨by rw [HE.out]; rfl, B1.out⟩
    · have HE : Hid (mayR m k ⟨step, phase, true, true, vs, ms⟩ = false) := by
        rw [show (mayR m k ⟨step, phase, true, true, vs, ms⟩ = false) ↔ ¬ mayR m k ⟨step, phase, true, true, vs, ms⟩ = true from by simp]
        intro g
        obtain ⟨j, hj, h⟩ := mayR_iff.1 g
        exact h.fd ⟨rfl, rfl⟩
      generalize mayR m k ⟨step, phase, true, true, vs, ms⟩ = R at *
      go_enter Try.func46, Try.ntmps46
      go_upto_region 1 with fail
      rw [← hW0]
      clear hW0
      go_wp2_with fail
      go_ret
      exact ⟨by rw [HE.out]; rfl, BH.out⟩
end Go.Proofs.Ytbmkgnlfccigpaa

namespace Go.Proofs.Ytbmkgnlfccigpaa
set_option maxRecDepth 100000
open Go.ChangeShapes Go.WideShapes Go.ChangeAt Go.RowKit

/-- Which error. -/
def staE (n : Int) (es : List Ed) (k s : Int) (T : StS) : Int := if jobE n es k s ≠ 0 then jobE n es k s else if mayR n.toNat k T then 0 else 9

set_option maxHeartbeats 2000000 in
set_option maxRecDepth 100000 in
theorem rState_any (v : Value) (es : List Ed) (n k s : Int) (T : StS) (vv vm : Value) (w : World) (h : EdR w v es) (hv : MlR w vv T.vals) (hm : LiR w vm T.mail) :
    Calls Try.prog 25 #[.agg #[.int .i64 n, v, .int .i64 k, .int .i64 s], .agg #[.int .i64 T.step, .int .i64 T.phase, .bool T.fresh, .bool T.done, vv, vm]] w fun e w' => e = .returned (.int .i64 (staE n es k s T)) ∧ Below w.heap.size w w' := by
  have HR : Hid (EdR w v es) := h
  obtain ⟨a, cap, rfl, _, _, _, _⟩ := h
  have HCK : Hid (∀ X, EdR X (.slice a es.length cap) es → Calls Try.prog 44 #[.agg #[.int .i64 n, .slice a es.length cap, .int .i64 k, .int .i64 s]] X fun e w' => e = .returned (.int .i64 (jobE n es k s)) ∧ Below X.heap.size X w') := fun X hX => rCheck_any _ es n k s X hX
  have HV : Hid (MlR w vv T.vals) := hv
  have HM : Hid (LiR w vm T.mail) := hm
  obtain ⟨va, vc, rfl, hvc, hvm, _, _⟩ := hv
  obtain ⟨ma, mc, rfl, hmc, hmm, _⟩ := hm
  have HSM : Hid (∀ X, jobE n es k s = 0 → MlR X (.slice va T.vals.length vc) T.vals → LiR X (.slice ma T.mail.length mc) T.mail → Calls Try.prog 46 #[.agg #[.int .i64 n, .slice a es.length cap, .int .i64 k, .int .i64 s], .agg #[.int .i64 T.step, .int .i64 T.phase, .bool T.fresh, .bool T.done, .slice va T.vals.length vc, .slice ma T.mail.length mc]] X fun e w' => e = .returned (.bool (mayR n.toNat k T)) ∧ Below X.heap.size X w') := fun X hj h1 h2 => by
    obtain ⟨hf, _, _⟩ := jobE_zero hj
    obtain ⟨hn0, hn1, _, _⟩ := fault_ok hf
    obtain ⟨m, rfl⟩ : ∃ m : Nat, n = m := ⟨n.toNat, by omega⟩
    rw [Int.toNat_natCast]
    exact rMay_any a es.length cap m k s T _ _ X h1 h2 (by omega)
  have HE1 : Hid (jobE n es k s ≠ 0 → staE n es k s T = jobE n es k s) := fun h => if_pos h
  have HE2 : Hid (jobE n es k s = 0 → staE n es k s T = if mayR n.toNat k T then 0 else 9) := fun h => if_neg (by simp [h])
  generalize staE n es k s T = R at *
  generalize mayR n.toNat k T = mr at *
  obtain ⟨step, phase, fr, dn, vs, ms⟩ := T
  simp only at HV HM hvc hvm hmc hmm HSM HE1 HE2 ⊢
  obtain ⟨W0, hW0⟩ : ∃ W0, W0 = (w.alloc (.cells #[.int .i64 n, .slice a es.length cap, .int .i64 k, .int .i64 s] 26)).alloc (.cells #[.int .i64 step, .int .i64 phase, .bool fr, .bool dn, .slice va vs.length vc, .slice ma ms.length mc] 30) := ⟨_, rfl⟩
  obtain ⟨Q0, T0, B0, s1, s2⟩ := boxes2 w #[.int .i64 n, .slice a es.length cap, .int .i64 k, .int .i64 s] #[.int .i64 step, .int .i64 phase, .bool fr, .bool dn, .slice va vs.length vc, .slice ma ms.length mc] 26 30 W0 hW0
  have BH : Hid (Below w.heap.size w W0) := B0
  have HK : Hid (∀ X, Below W0.heap.size W0 X → BX 26 X w.heap.size #[.int .i64 n, .slice a es.length cap, .int .i64 k, .int .i64 s] ∧ BX 30 X (w.heap.size + 1) #[.int .i64 step, .int .i64 phase, .bool fr, .bool dn, .slice va vs.length vc, .slice ma ms.length mc] ∧ Below w.heap.size w X) := fun X hX => ⟨Q0.below hX (by omega), T0.below hX (by omega), BH.out.trans (hX.mono (by omega))⟩
  have R0 : Hid (EdR W0 (.slice a es.length cap) es) := HR.out.below BH.out (Nat.le_refl _)
  have HVX : Hid (∀ X, Below W0.heap.size W0 X → MlR X (.slice va vs.length vc) vs ∧ LiR X (.slice ma ms.length mc) ms) := fun X hX => ⟨HV.out.below (HK.out _ hX).2.2 (Nat.le_refl _), HM.out.below (HK.out _ hX).2.2 (Nat.le_refl _)⟩
  obtain ⟨q0, q1, q2, q3⟩ := Q0.all4
  clear Q0 T0 B0
  by_cases hj : jobE n es k s = 0
  · have HSX : Hid (∀ X, Below W0.heap.size W0 X → _) := fun X hX => HSM.out X hj (HVX.out X hX).1 (HVX.out X hX).2
    have HE : Hid (R = if mr then 0 else 9) := HE2.out hj
    rw [hj] at HCK
    clear hj HE1 HE2 HSM
    go_enter Try.func25, Try.ntmps25
    go_upto_region 1 with fail
    rw [← hW0]
    clear hW0
    go_wp2_with fail
    refine (HCK.out _ R0.out).mono ?_
    rintro e w1 ⟨rfl, hb1⟩
    have A1 : Hid (Below W0.heap.size W0 w1) := hb1
    clear q0 q1 q2 q3 HCK hb1
    obtain ⟨Q1, T1, _⟩ := HK.out _ A1.out
    obtain ⟨q0, q1, q2, q3⟩ := Q1.all4
    obtain ⟨⟨c0, c1, c2, c3, c4, c5⟩, _⟩ := T1.all6
    have hs1 := A1.out.size
    clear Q1 T1
    go_wp2_with fail
    refine (HSX.out _ A1.out).mono ?_
    rintro e w2 ⟨rfl, hb2⟩
    have A2 : Hid (Below w.heap.size w w2) := (HK.out _ (A1.out.trans (hb2.mono hs1))).2.2
    clear q0 q1 q2 q3 c0 c1 c2 c3 c4 c5 hb2 HSX
    cases mr
    · go_wp2_with fail
      go_ret
      exact ⟨by rw [HE.out]; rfl, A2.out⟩
    · go_wp2_with fail
      go_ret
      exact ⟨by rw [HE.out]; rfl, A2.out⟩
  · have HE : Hid (R = jobE n es k s) := HE1.out hj
    generalize jobE n es k s = je at *
    have t0 : (je != 0) = true := by simpa using hj
    clear hj HE1 HE2 HSM
    go_enter Try.func25, Try.ntmps25
    go_upto_region 1 with fail
    rw [← hW0]
    clear hW0
    go_wp2_with fail
    refine (HCK.out _ R0.out).mono ?_
    rintro e w1 ⟨rfl, hb1⟩
    have BW : Hid (Below w.heap.size w w1) := (HK.out _ hb1).2.2
    clear hb1 q0 q1 q2 q3 HCK
    go_wp2_with fail
    go_ret
    exact ⟨by rw [HE.out]; rfl, BW.out⟩
end Go.Proofs.Ytbmkgnlfccigpaa

namespace Go.Proofs.Ytbmkgnlfccigpaa
set_option maxRecDepth 100000
open Go.ChangeShapes Go.WideShapes Go.ChangeAt Go.RowKit

theorem staE_zero {n k s : Int} {es : List Ed} {T : StS} (h : staE n es k s T = 0) : jobE n es k s = 0 ∧ mayR n.toNat k T = true := by
  unfold staE at h
  by_cases h1 : jobE n es k s = 0
  · rw [if_neg (by simp [h1])] at h
    refine ⟨h1, ?_⟩
    cases h2 : mayR n.toNat k T
    · rw [h2] at h; simp at h
    · rfl
  · rw [if_pos h1] at h; exact absurd h h1
theorem staE_not {n k s : Int} {es : List Ed} {T : StS} (h : staE n es k s T ≠ 0) : folE n es k s T = (staE n es k s T, st0) := by
  by_cases h1 : jobE n es k s = 0
  · have e : staE n es k s T = if mayR n.toNat k T then 0 else 9 := by unfold staE; rw [if_neg (by simp [h1])]
    cases h2 : mayR n.toNat k T
    · rw [e, h2, folE_no h1 h2]; rfl
    · rw [e, h2] at h; exact absurd rfl h
  · have e : staE n es k s T = jobE n es k s := by unfold staE; rw [if_pos h1]
    rw [e, folE_bad h1]

set_option maxHeartbeats 4000000 in
set_option maxRecDepth 100000 in
theorem rNext_any (v : Value) (es : List Ed) (n k s : Int) (T : StS) (vv vm : Value) (w : World) (h : EdR w v es) (hv : MlR w vv T.vals) (hm : LiR w vm T.mail) :
    Calls Try.prog 9 #[.agg #[.int .i64 n, v, .int .i64 k, .int .i64 s], .agg #[.int .i64 T.step, .int .i64 T.phase, .bool T.fresh, .bool T.done, vv, vm]] w (StaP w (folE n es k s T)) := by
  have HR : Hid (EdR w v es) := h
  obtain ⟨a, cap, rfl, _, _, _, _⟩ := h
  have HV : Hid (MlR w vv T.vals) := hv
  have HM : Hid (LiR w vm T.mail) := hm
  obtain ⟨va, vc, rfl, hvc, hvm, _, _⟩ := hv
  obtain ⟨ma, mc, rfl, hmc, hmm, _⟩ := hm
  unfold maxLen at hvm hmm
  have CS : Hid (∀ X, EdR X (.slice a es.length cap) es → MlR X (.slice va T.vals.length vc) T.vals → LiR X (.slice ma T.mail.length mc) T.mail → Calls Try.prog 25 #[.agg #[.int .i64 n, .slice a es.length cap, .int .i64 k, .int .i64 s], .agg #[.int .i64 T.step, .int .i64 T.phase, .bool T.fresh, .bool T.done, .slice va T.vals.length vc, .slice ma T.mail.length mc]] X fun e w' => e = .returned (.int .i64 (staE n es k s T)) ∧ Below X.heap.size X w') := fun X h1 h2 h3 => rState_any _ es n k s T _ _ X h1 h2 h3
  have CA : Hid (staE n es k s T = 0 → ∀ X, EdR X (.slice a es.length cap) es → MlR X (.slice va T.vals.length vc) T.vals → LiR X (.slice ma T.mail.length mc) T.mail → Calls Try.prog 26 #[.agg #[.int .i64 n, .slice a es.length cap, .int .i64 k, .int .i64 s], .agg #[.int .i64 T.step, .int .i64 T.phase, .bool T.fresh, .bool T.done, .slice va T.vals.length vc, .slice ma T.mail.length mc]] X (StaP X (folE n es k s T))) := fun h0 X h1 h2 h3 => after_any _ es n k s T _ _ X h1 h2 h3 (staE_zero h0).1 (staE_zero h0).2
  have HNE : Hid (staE n es k s T ≠ 0 → folE n es k s T = (staE n es k s T, st0)) := staE_not
  generalize folE n es k s T = R at *
  generalize staE n es k s T = se at *
  obtain ⟨step, phase, fr, dn, vs, ms⟩ := T
  simp only at HV HM hvc hvm hmc hmm CS CA ⊢
  obtain ⟨W0, hW0⟩ : ∃ W0, W0 = ((w.alloc (.cells #[.int .i64 n, .slice a es.length cap, .int .i64 k, .int .i64 s] 26)).alloc (.cells #[.int .i64 step, .int .i64 phase, .bool fr, .bool dn, .slice va vs.length vc, .slice ma ms.length mc] 30)).alloc (.cells #[.int .i64 0, .int .i64 0, .bool false, .bool false, .slice none 0 0, .slice none 0 0] 30) := ⟨_, rfl⟩
  obtain ⟨Q0, T0, Z0, B0, s1, s2⟩ := boxes3 w #[.int .i64 n, .slice a es.length cap, .int .i64 k, .int .i64 s] #[.int .i64 step, .int .i64 phase, .bool fr, .bool dn, .slice va vs.length vc, .slice ma ms.length mc] #[.int .i64 0, .int .i64 0, .bool false, .bool false, .slice none 0 0, .slice none 0 0] 26 30 30 W0 hW0
  have BH : Hid (Below w.heap.size w W0) := B0
  have HK : Hid (∀ X, Below W0.heap.size W0 X → BX 26 X w.heap.size #[.int .i64 n, .slice a es.length cap, .int .i64 k, .int .i64 s] ∧ BX 30 X (w.heap.size + 1) #[.int .i64 step, .int .i64 phase, .bool fr, .bool dn, .slice va vs.length vc, .slice ma ms.length mc] ∧ BX 30 X (w.heap.size + 2) #[.int .i64 0, .int .i64 0, .bool false, .bool false, .slice none 0 0, .slice none 0 0] ∧ Below w.heap.size w X) := fun X hX => ⟨Q0.below hX (by omega), T0.below hX (by omega), Z0.below hX (by omega), BH.out.trans (hX.mono (by omega))⟩
  have R0 : Hid (∀ X, Below W0.heap.size W0 X → EdR X (.slice a es.length cap) es ∧ MlR X (.slice va vs.length vc) vs ∧ LiR X (.slice ma ms.length mc) ms) := fun X hX => ⟨HR.out.below (HK.out _ hX).2.2.2 (Nat.le_refl _), HV.out.below (HK.out _ hX).2.2.2 (Nat.le_refl _), HM.out.below (HK.out _ hX).2.2.2 (Nat.le_refl _)⟩
  have A0 : Hid (Below W0.heap.size W0 W0) := Below.refl _ _
  have CS0 : Hid (∀ X, Below W0.heap.size W0 X → _) := fun X hX => CS.out X (R0.out X hX).1 (R0.out X hX).2.1 (R0.out X hX).2.2
  obtain ⟨q0, q1, q2, q3⟩ := Q0.all4
  obtain ⟨⟨c0, c1, c2, c3, c4, c5⟩, _⟩ := T0.all6
  clear Q0 T0 Z0 B0 CS
  by_cases h0 : se = 0
  · have CA1 : Hid (∀ X, Below W0.heap.size W0 X → _) := fun X hX => CA.out h0 X (R0.out X hX).1 (R0.out X hX).2.1 (R0.out X hX).2.2
    rw [h0] at CS0
    clear h0 CA HNE
    go_enter Try.func9, Try.ntmps9
    go_upto_region 1 with fail
    rw [← hW0]
    clear hW0
    go_wp2_with fail
    refine (CS0.out _ A0.out).mono ?_
    rintro e w1 ⟨rfl, hb1⟩
    have A1 : Hid (Below W0.heap.size W0 w1) := hb1
    obtain ⟨Q1, T1, Z1, _⟩ := HK.out _ hb1
    clear q0 q1 q2 q3 c0 c1 c2 c3 c4 c5 hb1 CS0
    obtain ⟨q0, q1, q2, q3⟩ := Q1.all4
    obtain ⟨⟨c0, c1, c2, c3, c4, c5⟩, _⟩ := T1.all6
    clear Q1 T1 Z1
    go_wp2_with fail
    refine (CA1.out _ A1.out).mono ?_
    rintro e w2 ⟨v1, v2, rfl, hv1, hv2, hb2⟩
    have A2 : Hid (Below W0.heap.size W0 w2) := A1.out.trans (hb2.mono A1.out.size)
    obtain ⟨_, _, Z2, hbw⟩ := HK.out _ A2.out
    have hs1 := A1.out.size
    obtain ⟨rf, nst, nph, nfr, ndn, nvs, nms⟩ := R
    simp only at hv1 hv2 ⊢
    have HP : Hid (StaP w (rf, ⟨nst, nph, nfr, ndn, nvs, nms⟩) (.returned (.tuple #[.agg #[.int .i64 nst, .int .i64 nph, .bool nfr, .bool ndn, v1, v2], .int .i64 rf])) (put6 w2 (w.heap.size + 2) (.int .i64 nst) (.int .i64 nph) (.bool nfr) (.bool ndn) v1 v2)) :=
      ⟨v1, v2, rfl, own_lower (own_off hv1 Z2 (by decide) (kept_put6 w2 (w.heap.size + 2) _ _ _ _ _ _)) (by omega), (hv2.off Z2 (by decide) (by decide) (kept_put6 w2 (w.heap.size + 2) _ _ _ _ _ _)).lower (by omega), below_put6 hbw (by omega) Z2.lt _ _ _ _ _ _⟩
    have RX : Hid (BX 30 (put6 w2 (w.heap.size + 2) (.int .i64 nst) (.int .i64 nph) (.bool nfr) (.bool ndn) v1 v2) (w.heap.size + 2) #[.int .i64 nst, .int .i64 nph, .bool nfr, .bool ndn, v1, v2]) := Z2.put6
    obtain ⟨a1, n1, k1, rfl⟩ : ∃ a n c, v1 = .slice a n c := by
      rcases own_shapeK hv1 with ⟨e, _⟩ | ⟨g', c', e, _⟩
      · exact ⟨_, _, _, e⟩
      · exact ⟨_, _, _, e⟩
    obtain ⟨a2, k2, rfl⟩ := hv2.shape
    obtain ⟨⟨d0, d1, d2, d3, d4, d5⟩, e0, e1, e2, e3, e4, e5⟩ := Z2.all6
    clear q0 q1 q2 q3 c0 c1 c2 c3 c4 c5 hv1 hv2 hb2 Z2 hbw
    go_wp2_with fail
    obtain ⟨⟨r0, r1, r2, r3, r4, r5⟩, _⟩ := RX.out.all6
    unfold put6 at r0 r1 r2 r3 r4 r5
    exact bodyPost_ret (v := .tuple #[.agg #[.int .i64 nst, .int .i64 nph, .bool nfr, .bool ndn, .slice a1 n1 k1, .slice a2 nms.length k2], .int .i64 rf]) (by simp [results, Try.results9, go_sem, r0, r1, r2, r3, r4, r5]) rfl HP.out
  · have HRE : Hid (R = (se, st0)) := HNE.out h0
    have t0 : (se != 0) = true := by simpa using h0
    clear h0 CA HNE
    go_enter Try.func9, Try.ntmps9
    go_upto_region 1 with fail
    rw [← hW0]
    clear hW0
    go_wp2_with fail
    refine (CS0.out _ A0.out).mono ?_
    rintro e w1 ⟨rfl, hb1⟩
    obtain ⟨_, _, Z1, b1⟩ := HK.out _ hb1
    have HP : Hid (StaP w R (.returned (.tuple #[.agg #[.int .i64 0, .int .i64 0, .bool false, .bool false, .slice none 0 0, .slice none 0 0], .int .i64 se])) (put6 w1 (w.heap.size + 2) (.int .i64 0) (.int .i64 0) (.bool false) (.bool false) (.slice none 0 0) (.slice none 0 0))) := by
      show StaP _ _ _ _
      rw [HRE.out]
      exact StaP.no (below_put6 b1 (by omega) Z1.lt _ _ _ _ _ _)
    have RX : Hid (BX 30 (put6 w1 (w.heap.size + 2) (.int .i64 0) (.int .i64 0) (.bool false) (.bool false) (.slice none 0 0) (.slice none 0 0)) (w.heap.size + 2) #[.int .i64 0, .int .i64 0, .bool false, .bool false, .slice none 0 0, .slice none 0 0]) := Z1.put6
    obtain ⟨⟨d0, d1, d2, d3, d4, d5⟩, e0, e1, e2, e3, e4, e5⟩ := Z1.all6
    clear hb1 q0 q1 q2 q3 c0 c1 c2 c3 c4 c5 CS0 Z1 b1
    go_wp2_with fail
    obtain ⟨⟨r0, r1, r2, r3, r4, r5⟩, _⟩ := RX.out.all6
    unfold put6 at r0 r1 r2 r3 r4 r5
    exact bodyPost_ret (v := .tuple #[.agg #[.int .i64 0, .int .i64 0, .bool false, .bool false, .slice none 0 0, .slice none 0 0], .int .i64 se]) (by simp [results, Try.results9, go_sem, r0, r1, r2, r3, r4, r5]) rfl HP.out
end Go.Proofs.Ytbmkgnlfccigpaa

namespace Go.Proofs.Ytbmkgnlfccigpaa
set_option maxRecDepth 100000
open Go.ChangeShapes Go.WideShapes Go.ChangeAt Go.RowKit

set_option maxHeartbeats 1000000 in
set_option maxRecDepth 100000 in
theorem sameInts_yes (va vb : Value) (es : List Int) (w : World) (ha : InR w va es) (hb : InR w vb es) :
    Calls Try.prog 35 #[va, vb] w fun e w' => e = .returned (.bool true) ∧ Below w.heap.size w w' := by
  have HA : Hid (InR w va es) := ha
  have HB : Hid (InR w vb es) := hb
  obtain ⟨a, ca, rfl, hca, hma, _, _⟩ := ha
  obtain ⟨b, cb, rfl, hcb, hmb, _, _⟩ := hb
  unfold maxLen at hma hmb
  have hll : ((es.length : Int) != (es.length : Int)) = false := by simp
  go_enter Try.func35, Try.ntmps35
  go_wp2_with fail
  go_loopw [5] (fun i wr => ∃ k : Nat, k ≤ es.length ∧ i = .int .i64 k ∧ Below w.heap.size w wr) (fun i _ => es.length - (intOf i).toNat)
  case atStart => exact ⟨0, by omega, rfl, Below.refl _ _⟩
  case round =>
    obtain ⟨k, hk, rfl, hbel⟩ := hrel
    have HBL : Hid (Below w.heap.size w wr) := hbel
    clear hbel
    by_cases hlt : k < es.length
    · obtain ⟨xa, oa, cap', e1, _, _, la, hva⟩ := InR.at (HA.out.below HBL.out (Nat.le_refl _)) (by omega)
      injection e1 with e1 _ e3
      subst e1 e3
      obtain ⟨xb, ob, cap', e1, _, _, lb, hvb⟩ := InR.at (HB.out.below HBL.out (Nat.le_refl _)) (by omega)
      injection e1 with e1 _ e3
      subst e1 e3
      obtain ⟨x, hx⟩ := getX hlt
      have p0 : (0 : Int) ≤ (k : Int) := by omega
      have p1 : (k : Int) < (es.length : Int) := by omega
      have c1 := hva k x hx
      have d1 := hvb k x hx
      have hxx : (x != x) = false := by simp
      clear hva hvb hx
      go_wp2_with fail
      go_quiet (fail)
      go_wp2_with fail
      go_roundw
      case rel => exact ⟨k + 1, by omega, by go_num, below_drewN HBL.out _⟩
      case measure => simp [intOf]; omega
    · go_wp2_with fail
      go_ret
      exact ⟨rfl, HBL.out⟩
end Go.Proofs.Ytbmkgnlfccigpaa

namespace Go.Proofs.Ytbmkgnlfccigpaa
set_option maxRecDepth 100000
open Go.ChangeShapes Go.WideShapes Go.ChangeAt Go.RowKit

set_option maxHeartbeats 1000000 in
set_option maxRecDepth 100000 in
theorem sameVals_yes (va vb : Value) (vs : List Ml) (w : World) (ha : MlR w va vs) (hb : MlR w vb vs) :
    Calls Try.prog 34 #[va, vb] w fun e w' => e = .returned (.bool true) ∧ Below w.heap.size w w' := by
  have HA : Hid (MlR w va vs) := ha
  have HB : Hid (MlR w vb vs) := hb
  obtain ⟨a, ca, rfl, hca, hma, _, _⟩ := ha
  obtain ⟨b, cb, rfl, hcb, hmb, _, _⟩ := hb
  unfold maxLen at hma hmb
  have hll : ((vs.length : Int) != (vs.length : Int)) = false := by simp
  go_enter Try.func34, Try.ntmps34
  go_wp2_with fail
  go_loopw [5] (fun i wr => ∃ k : Nat, k ≤ vs.length ∧ i = .int .i64 k ∧ Below w.heap.size w wr) (fun i _ => vs.length - (intOf i).toNat)
  case atStart => exact ⟨0, by omega, rfl, Below.refl _ _⟩
  case round =>
    obtain ⟨k, hk, rfl, hbel⟩ := hrel
    have HBL : Hid (Below w.heap.size w wr) := hbel
    clear hbel
    by_cases hlt : k < vs.length
    · obtain ⟨xa, oa, cap', e1, la, hva⟩ := MlR.read (HA.out.below HBL.out (Nat.le_refl _)) (by omega)
      injection e1 with e1 _ e3
      subst e1 e3
      obtain ⟨xb, ob, cap', e1, lb, hvb⟩ := MlR.read (HB.out.below HBL.out (Nat.le_refl _)) (by omega)
      injection e1 with e1 _ e3
      subst e1 e3
      obtain ⟨x, hx⟩ := getX hlt
      have p0 : (0 : Int) ≤ (k : Int) := by omega
      have p1 : (k : Int) < (vs.length : Int) := by omega
      obtain ⟨c1, c2⟩ := hva k x hx
      obtain ⟨d1, d2⟩ := hvb k x hx
      obtain ⟨x1, x2⟩ := x
      simp only at c1 c2 d1 d2
      clear hva hvb hx
      go_wp2_with fail
      go_quiet (fail)
      go_wp2_with fail
      go_roundw
      case rel => exact ⟨k + 1, by omega, by go_num, below_drewN HBL.out _⟩
      case measure => simp [intOf]; omega
    · go_wp2_with fail
      go_ret
      exact ⟨rfl, HBL.out⟩

set_option maxHeartbeats 2000000 in
set_option maxRecDepth 100000 in
theorem sameState_yes (T : StS) (va vb vma vmb : Value) (w : World) (ha : MlR w va T.vals) (hb : MlR w vb T.vals) (hma : LiR w vma T.mail) (hmb : LiR w vmb T.mail) :
    Calls Try.prog 12 #[.agg #[.int .i64 T.step, .int .i64 T.phase, .bool T.fresh, .bool T.done, va, vma], .agg #[.int .i64 T.step, .int .i64 T.phase, .bool T.fresh, .bool T.done, vb, vmb]] w fun e w' => e = .returned (.bool true) ∧ Below w.heap.size w w' := by
  have HA : Hid (MlR w va T.vals) := ha
  have HB : Hid (MlR w vb T.vals) := hb
  have HMA : Hid (LiR w vma T.mail) := hma
  have HMB : Hid (LiR w vmb T.mail) := hmb
  obtain ⟨a, ca, rfl, hca, hcm, _, _⟩ := ha
  obtain ⟨b, cb, rfl, hcb, hdm, _, _⟩ := hb
  obtain ⟨ma, mca, rfl, hmca, hmcm, _⟩ := hma
  obtain ⟨mb, mcb, rfl, hmcb, hmdm, _⟩ := hmb
  unfold maxLen at hcm hdm hmcm hmdm
  obtain ⟨W0, hW0⟩ : ∃ W0, W0 = (w.alloc (.cells #[.int .i64 T.step, .int .i64 T.phase, .bool T.fresh, .bool T.done, .slice a T.vals.length ca, .slice ma T.mail.length mca] 30)).alloc (.cells #[.int .i64 T.step, .int .i64 T.phase, .bool T.fresh, .bool T.done, .slice b T.vals.length cb, .slice mb T.mail.length mcb] 30) := ⟨_, rfl⟩
  obtain ⟨Q0, T0, B0, s1, s2⟩ := boxes2 w #[.int .i64 T.step, .int .i64 T.phase, .bool T.fresh, .bool T.done, .slice a T.vals.length ca, .slice ma T.mail.length mca] #[.int .i64 T.step, .int .i64 T.phase, .bool T.fresh, .bool T.done, .slice b T.vals.length cb, .slice mb T.mail.length mcb] 30 30 W0 hW0
  have BH : Hid (Below w.heap.size w W0) := B0
  have HK : Hid (∀ X, Below W0.heap.size W0 X → BX 30 X w.heap.size #[.int .i64 T.step, .int .i64 T.phase, .bool T.fresh, .bool T.done, .slice a T.vals.length ca, .slice ma T.mail.length mca] ∧ BX 30 X (w.heap.size + 1) #[.int .i64 T.step, .int .i64 T.phase, .bool T.fresh, .bool T.done, .slice b T.vals.length cb, .slice mb T.mail.length mcb] ∧ Below w.heap.size w X) := fun X hX => ⟨Q0.below hX (by omega), T0.below hX (by omega), BH.out.trans (hX.mono (by omega))⟩
  have HVX : Hid (∀ X, Below W0.heap.size W0 X → LiR X (.slice ma T.mail.length mca) T.mail ∧ LiR X (.slice mb T.mail.length mcb) T.mail) := fun X hX => ⟨HMA.out.below (HK.out _ hX).2.2 (Nat.le_refl _), HMB.out.below (HK.out _ hX).2.2 (Nat.le_refl _)⟩
  have HVY : Hid (∀ X, Below W0.heap.size W0 X → MlR X (.slice a T.vals.length ca) T.vals ∧ MlR X (.slice b T.vals.length cb) T.vals) := fun X hX => ⟨HA.out.below (HK.out _ hX).2.2 (Nat.le_refl _), HB.out.below (HK.out _ hX).2.2 (Nat.le_refl _)⟩
  have A0 : Hid (Below W0.heap.size W0 W0) := Below.refl _ _
  obtain ⟨⟨q0, q1, q2, q3, q4, q5⟩, _⟩ := Q0.all6
  obtain ⟨⟨p0, p1, p2, p3, p4, p5⟩, _⟩ := T0.all6
  have t0 : (T.step != T.step) = false := by simp
  have t1 : (T.phase != T.phase) = false := by simp
  have t2 : (T.fresh != T.fresh) = false := by simp
  have t3 : (T.done != T.done) = false := by simp
  have t4 : ((T.vals.length : Int) != (T.vals.length : Int)) = false := by simp
  have t5 : ((T.mail.length : Int) != (T.mail.length : Int)) = false := by simp
  clear Q0 T0 B0
  have CV : Hid (∀ X, Below W0.heap.size W0 X → Calls Try.prog 34 #[.slice a T.vals.length ca, .slice b T.vals.length cb] X fun e w' => e = .returned (.bool true) ∧ Below X.heap.size X w') := fun X hX => sameVals_yes _ _ T.vals X (HVY.out X hX).1 (HVY.out X hX).2
  go_enter Try.func12, Try.ntmps12
  go_upto_region 1 with fail
  rw [← hW0]
  clear hW0
  go_wp2_with fail
  refine (CV.out _ A0.out).mono ?_
  rintro e w1 ⟨rfl, hb1⟩
  have A1 : Hid (Below W0.heap.size W0 w1) := hb1
  obtain ⟨QA, QB, _⟩ := HK.out _ hb1
  clear q0 q1 q2 q3 q4 q5 p0 p1 p2 p3 p4 p5 hb1
  obtain ⟨⟨q0, q1, q2, q3, q4, q5⟩, _⟩ := QA.all6
  obtain ⟨⟨p0, p1, p2, p3, p4, p5⟩, _⟩ := QB.all6
  clear QA QB
  go_wp2_with fail
  clear q0 q1 q2 q3 q4 q5 p0 p1 p2 p3 p4 p5
  go_loopw [5] (fun i wr => ∃ k : Nat, k ≤ T.mail.length ∧ i = .int .i64 k ∧ Below W0.heap.size W0 wr) (fun i _ => T.mail.length - (intOf i).toNat)
  case atStart => exact ⟨0, by omega, rfl, A1.out⟩
  case round =>
    obtain ⟨k, hk, rfl, hbel⟩ := hrel
    have AB : Hid (Below W0.heap.size W0 wr) := hbel
    have hsr := hbel.size
    obtain ⟨QA, QB, hbw⟩ := HK.out _ hbel
    have BW : Hid (Below w.heap.size w wr) := hbw
    obtain ⟨⟨q0, q1, q2, q3, q4, q5⟩, _⟩ := QA.all6
    obtain ⟨⟨p0, p1, p2, p3, p4, p5⟩, _⟩ := QB.all6
    clear hbel QA QB hbw
    by_cases hlt : k < T.mail.length
    · obtain ⟨xa, oa, cap', e1, lta, _, _, hva⟩ := (HVX.out _ AB.out).1.at (by omega)
      injection e1 with e1 _ e3
      subst e1 e3
      obtain ⟨xb, ob, cap', e1, ltb, _, _, hvb⟩ := (HVX.out _ AB.out).2.at (by omega)
      injection e1 with e1 _ e3
      subst e1 e3
      obtain ⟨l, hl⟩ := getX hlt
      obtain ⟨u, hu, hur⟩ := hva k l hl
      obtain ⟨v, hv, hvr⟩ := hvb k l hl
      have UR : Hid (InR wr u l ∧ InR wr v l) := ⟨hur, hvr⟩
      obtain ⟨ua, uca, rfl⟩ := hur.shape
      obtain ⟨ub, ucb, rfl⟩ := hvr.shape
      have CS : Hid (∀ X, Below wr.heap.size wr X → Calls Try.prog 35 #[.slice ua l.length uca, .slice ub l.length ucb] X fun e w' => ∃ v, e = .returned v ∧ (v = .bool true ∧ Below X.heap.size X w')) := fun X hX => (sameInts_yes _ _ l X (UR.out.1.below hX (Nat.le_refl _)) (UR.out.2.below hX (Nat.le_refl _))).mono fun e w' h => ⟨_, h.1, rfl, h.2⟩
      have KEEP : Hid (∀ V, Below wr.heap.size wr V → (V.cell? ⟨w.heap.size, 5, none⟩ = some (.slice (some ⟨xa, oa, none⟩) T.mail.length mca) ∧ V.cell? ⟨w.heap.size + 1, 5, none⟩ = some (.slice (some ⟨xb, ob, none⟩) T.mail.length mcb) ∧ V.cell? ⟨xa, oa + k, none⟩ = some (.slice ua l.length uca) ∧ V.cell? ⟨xb, ob + k, none⟩ = some (.slice ub l.length ucb))) := fun V hV => by
        obtain ⟨QA, QB, _⟩ := HK.out _ (AB.out.trans (hV.mono hsr))
        exact ⟨QA.all6.1.2.2.2.2.2, QB.all6.1.2.2.2.2.2, (hV.cell (p := ⟨xa, oa + k, none⟩) lta).trans hu, (hV.cell (p := ⟨xb, ob + k, none⟩) ltb).trans hv⟩
      have HS0 : Hid (wr.drew.cell? ⟨w.heap.size, 5, none⟩ = some (.slice (some ⟨xa, oa, none⟩) T.mail.length mca) ∧ wr.drew.cell? ⟨w.heap.size + 1, 5, none⟩ = some (.slice (some ⟨xb, ob, none⟩) T.mail.length mcb) ∧ wr.drew.cell? ⟨xa, oa + k, none⟩ = some (.slice ua l.length uca) ∧ wr.drew.cell? ⟨xb, ob + k, none⟩ = some (.slice ub l.length ucb)) := KEEP.out wr.drew (Below.refl _ _).drew
      have es : ∀ args w, (callFunc 35 args).run Try.prog w = .ok (.enter 35 args) w := enters_of Try.func35 (by kernel_rfl) rfl
      have z0 : (0 : Int) ≤ (k : Int) := by omega
      have z1 : (k : Int) < (T.mail.length : Int) := by omega
      clear hva hvb hl hu hv hur hvr
      go_upto_region 6 with fail
      clear q0 q1 q2 q3 q4 q5 p0 p1 p2 p3 p4 p5
      refine wp_region_held (S := fun V => (V.cell? ⟨w.heap.size, 5, none⟩ = some (.slice (some ⟨xa, oa, none⟩) T.mail.length mca) ∧ V.cell? ⟨w.heap.size + 1, 5, none⟩ = some (.slice (some ⟨xb, ob, none⟩) T.mail.length mcb) ∧ V.cell? ⟨xa, oa + k, none⟩ = some (.slice ua l.length uca) ∧ V.cell? ⟨xb, ob + k, none⟩ = some (.slice ub l.length ucb))) (by kernel_rfl) ?_
      simp only [List.size_toArray, List.length_cons, List.length_nil, Nat.reduceAdd]
      refine takeH (i := 0) (v := .pointer (some ⟨w.heap.size, 5, none⟩)) (d := 56) rfl rfl (by kernel_rfl) (by kernel_rfl) (by kernel_rfl) (fun _ _ _ h => h) (by rfl) (fun V hV => by obtain ⟨v1, v2, v3, v4⟩ := hV; go_simp) HS0.out ?_
      simp only [Act.put, List.setIfInBounds_toArray, List.set_cons_zero, List.set_cons_succ]
      refine takeH (i := 1) (v := .slice (some ⟨xa, oa, none⟩) T.mail.length mca) (d := 57) rfl rfl (by kernel_rfl) (by kernel_rfl) (by kernel_rfl) (fun _ _ _ h => h) (by rfl) (fun V hV => by obtain ⟨v1, v2, v3, v4⟩ := hV; go_simp) HS0.out ?_
      simp only [Act.put, List.setIfInBounds_toArray, List.set_cons_zero, List.set_cons_succ]
      refine takeH (i := 2) (v := .int .i64 (k : Int)) (d := 58) rfl rfl (by kernel_rfl) (by kernel_rfl) (by kernel_rfl) (fun _ _ _ h => h) (by rfl) (fun V hV => by obtain ⟨v1, v2, v3, v4⟩ := hV; go_simp) HS0.out ?_
      simp only [Act.put, List.setIfInBounds_toArray, List.set_cons_zero, List.set_cons_succ]
      refine takeH (i := 3) (v := .pointer (some ⟨xa, oa + k, none⟩)) (d := 59) rfl rfl (by kernel_rfl) (by kernel_rfl) (by kernel_rfl) (fun _ _ _ h => h) (by rfl) (fun V hV => by obtain ⟨v1, v2, v3, v4⟩ := hV; go_simp) HS0.out ?_
      simp only [Act.put, List.setIfInBounds_toArray, List.set_cons_zero, List.set_cons_succ]
      refine takeH (i := 4) (v := .slice ua l.length uca) (d := 60) rfl rfl (by kernel_rfl) (by kernel_rfl) (by kernel_rfl) (fun _ _ _ h => h) (by rfl) (fun V hV => by obtain ⟨v1, v2, v3, v4⟩ := hV; go_simp) HS0.out ?_
      simp only [Act.put, List.setIfInBounds_toArray, List.set_cons_zero, List.set_cons_succ]
      refine takeH (i := 5) (v := .pointer (some ⟨w.heap.size + 1, 5, none⟩)) (d := 61) rfl rfl (by kernel_rfl) (by kernel_rfl) (by kernel_rfl) (fun _ _ _ h => h) (by rfl) (fun V hV => by obtain ⟨v1, v2, v3, v4⟩ := hV; go_simp) HS0.out ?_
      simp only [Act.put, List.setIfInBounds_toArray, List.set_cons_zero, List.set_cons_succ]
      refine takeH (i := 6) (v := .slice (some ⟨xb, ob, none⟩) T.mail.length mcb) (d := 62) rfl rfl (by kernel_rfl) (by kernel_rfl) (by kernel_rfl) (fun _ _ _ h => h) (by rfl) (fun V hV => by obtain ⟨v1, v2, v3, v4⟩ := hV; go_simp) HS0.out ?_
      simp only [Act.put, List.setIfInBounds_toArray, List.set_cons_zero, List.set_cons_succ]
      refine takeH (i := 7) (v := .int .i64 (k : Int)) (d := 63) rfl rfl (by kernel_rfl) (by kernel_rfl) (by kernel_rfl) (fun _ _ _ h => h) (by rfl) (fun V hV => by obtain ⟨v1, v2, v3, v4⟩ := hV; go_simp) HS0.out ?_
      simp only [Act.put, List.setIfInBounds_toArray, List.set_cons_zero, List.set_cons_succ]
      refine takeH (i := 8) (v := .pointer (some ⟨xb, ob + k, none⟩)) (d := 64) rfl rfl (by kernel_rfl) (by kernel_rfl) (by kernel_rfl) (fun _ _ _ h => h) (by rfl) (fun V hV => by obtain ⟨v1, v2, v3, v4⟩ := hV; go_simp) HS0.out ?_
      simp only [Act.put, List.setIfInBounds_toArray, List.set_cons_zero, List.set_cons_succ]
      refine takeH (i := 9) (v := .slice ub l.length ucb) (d := 65) rfl rfl (by kernel_rfl) (by kernel_rfl) (by kernel_rfl) (fun _ _ _ h => h) (by rfl) (fun V hV => by obtain ⟨v1, v2, v3, v4⟩ := hV; go_simp) HS0.out ?_
      simp only [Act.put, List.setIfInBounds_toArray, List.set_cons_zero, List.set_cons_succ]
      refine oneH (i := 10) rfl (by kernel_rfl) rfl (call_gets (d := 66) (f := 35) (xs := #[.tmp 60, .tmp 65]) (ats := #[43, 43]) rfl rfl es (vs := #[.slice ua l.length uca, .slice ub l.length ucb]) (by simp [Act.eval]) (CS.out wr.drew (Below.refl _ _).drew) ?_)
      rintro vr w4 ⟨rfl, hb4⟩
      have b4 : Below wr.heap.size wr w4 := (Below.refl _ _).drew.trans hb4
      have HS4 : Hid (w4.cell? ⟨w.heap.size, 5, none⟩ = some (.slice (some ⟨xa, oa, none⟩) T.mail.length mca) ∧ w4.cell? ⟨w.heap.size + 1, 5, none⟩ = some (.slice (some ⟨xb, ob, none⟩) T.mail.length mcb) ∧ w4.cell? ⟨xa, oa + k, none⟩ = some (.slice ua l.length uca) ∧ w4.cell? ⟨xb, ob + k, none⟩ = some (.slice ub l.length ucb)) := KEEP.out w4 b4
      refine ⟨HS4.out, ?_⟩
      simp only [Act.put, List.setIfInBounds_toArray, List.set_cons_zero, List.set_cons_succ]
      refine takeH (i := 11) (v := .bool false) (d := 67) rfl rfl (by kernel_rfl) (by kernel_rfl) (by kernel_rfl) (fun _ _ _ h => h) (by rfl) (fun V hV => by obtain ⟨v1, v2, v3, v4⟩ := hV; go_simp) HS4.out ?_
      simp only [Act.put, List.setIfInBounds_toArray, List.set_cons_zero, List.set_cons_succ]
      refine wpAnyH_done (by kernel_rfl) ?_ _
      have A4 : Hid (Below W0.heap.size W0 w4) := AB.out.trans (b4.mono hsr)
      clear HS4 HS0 KEEP hb4 b4
      go_wp2_with fail
      go_roundw
      case rel => exact ⟨k + 1, by omega, by go_num, A4.out⟩
      case measure => simp [intOf]; omega
    · go_wp2_with fail
      go_ret
      exact ⟨rfl, BW.out⟩
end Go.Proofs.Ytbmkgnlfccigpaa
