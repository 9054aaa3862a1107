/-
  Contract of the document's own Followed: one round, and all of it.
  Contract of the document's own Begun.
  Contract of pacelineref.LimitOf.
-/
import Derived.Test.YtinijeejfnehmaaEngineLimitsPartB
import Derived.Test.YtinijeejfnehmaaEngineLimitsPartA
import Derived.Test.YtinijeejfnehmaaRegionCall
import Derived.Shelf.Abstract
import Derived.Deep.CutRange
import Derived.Test.YtinijeejfnehmaaStaMem
import Derived.Test.YtinijeejfnehmaaRoundTell
import Derived.Deep.LoopGhost

namespace Go.Proofs.Ytinijeejfnehmaa
set_option maxRecDepth 100000
open Go.ChangeShapes Go.WideShapes Go.ChangeAt Go.RowKit

/-- What lies in memory while a round is made. -/
structure FlI (W0 : World) (m : Nat) (r : Int → Ml × Bool) (st ph : Int) (b8 g9 : Nat) (vv vm : Value) (f : List (List Int)) (w : World) : Prop where
  nb : BX 42 w b8 #[.int .i64 st, .int .i64 ph, .bool false, .bool false, vv, vm]
  ov : w.ownsRow W0.heap.size 53 2 vv m ((valsR m r).flatMap encM)
  ob : w.ownsRow W0.heap.size 4 1 (.slice (some ⟨g9, 0, none⟩) m m) m ((sdR m r m).flatMap encT)
  om : OwnLi w W0.heap.size vm f
  bl : Below W0.heap.size W0 w
theorem FlI.below {W0 : World} {m : Nat} {r : Int → Ml × Bool} {st ph : Int} {b8 g9 : Nat} {vv vm : Value} {f : List (List Int)} {w w' : World} (h : FlI W0 m r st ph b8 g9 vv vm f w) (hb : Below w.heap.size w w') : FlI W0 m r st ph b8 g9 vv vm f w' :=
  ⟨h.nb.below hb h.nb.lt, own_below h.ov hb (Nat.le_refl _), own_below h.ob hb (Nat.le_refl _), h.om.below hb (Nat.le_refl _), h.bl.trans (hb.mono h.bl.size)⟩
theorem FlI.said {W0 : World} {m : Nat} {r : Int → Ml × Bool} {st ph : Int} {b8 g9 : Nat} {vv vm : Value} {f : List (List Int)} {w : World} (h : FlI W0 m r st ph b8 g9 vv vm f w) {c : Nat} (hc : c < m) : w.cell? ⟨g9, c, none⟩ = some (.bool (r (c : Int)).2) := by
  have h1 := sdR_at (i := m) (r := r) hc
  rw [show (decide (c < m) && (r (c : Int)).2) = (r (c : Int)).2 from by rw [decide_eq_true hc]; rfl] at h1
  exact own_atB h.ob h1
theorem FlI.app {W0 : World} {m : Nat} {r : Int → Ml × Bool} {st ph : Int} {b8 g9 g c n : Nat} {vv vm : Value} {f f' : List (List Int)} {w w' : World} (h : FlI W0 m r st ph b8 g9 vv vm f w) (hb8 : W0.heap.size ≤ b8) (hg : w.grownBy w' vm.ownBlock) (ho : OwnLi w' W0.heap.size (.slice (some ⟨g, 0, none⟩) n c) f') : FlI W0 m r st ph b8 g9 vv (.slice (some ⟨g, 0, none⟩) n c) f' (w'.setCell ⟨b8, 5, none⟩ (.slice (some ⟨g, 0, none⟩) n c)) ∧ BX 42 w' b8 #[.int .i64 st, .int .i64 ph, .bool false, .bool false, vv, vm] := by
  obtain ⟨xs, hrow⟩ := h.om.row
  have hn := h.nb.grown hrow (by decide) hg
  have hb : Below W0.heap.size W0 w' := h.bl.trans ((Below.refl _ _).grown hg h.bl.size (fun q hq => (own_ge hrow hq).1))
  refine ⟨⟨hn.set 5 _, hn.own (h.ov.kept hg (own_apart h.ov hrow (by decide))) (by decide), hn.own (h.ob.kept hg (own_apart h.ob hrow (by decide))) (by decide), ho.box hn (by decide) (by decide), ?_⟩, hn⟩
  exact hb.trans (Kept.below (Kept.box w' b8 5 _) hb.size (fun q hq => by subst hq; exact hb8))

theorem FlI.fin {w W0 wr wz : World} {m : Nat} {r : Int → Ml × Bool} {st ph : Int} {b8 g9 : Nat} {vv vm : Value} {f : List (List Int)} {R : Int × StS} {t : StS} (h : FlI W0 m r st ph b8 g9 vv vm f wr) (kp : Kept (fun q => q = b8) wr wz) (zz : BX 42 wr (w.heap.size + 2) #[.int .i64 0, .int .i64 0, .bool false, .bool false, .slice none 0 0, .slice none 0 0]) (bw : Below w.heap.size w wr) (hb8 : w.heap.size ≤ b8) (hne : b8 ≠ w.heap.size + 2) (hw0 : w.heap.size ≤ W0.heap.size) (hR : R = (0, t)) (hv : t.vals = valsR m r) (hm : t.mail = f) :
    BX 42 wz (w.heap.size + 2) #[.int .i64 0, .int .i64 0, .bool false, .bool false, .slice none 0 0, .slice none 0 0] ∧ BX 42 (put6 wz (w.heap.size + 2) (.int .i64 t.step) (.int .i64 t.phase) (.bool t.fresh) (.bool t.done) vv vm) (w.heap.size + 2) #[.int .i64 t.step, .int .i64 t.phase, .bool t.fresh, .bool t.done, vv, vm] ∧ StaP w R (.returned (.tuple #[.agg #[.int .i64 t.step, .int .i64 t.phase, .bool t.fresh, .bool t.done, vv, vm], .int .i64 0])) (put6 wz (w.heap.size + 2) (.int .i64 t.step) (.int .i64 t.phase) (.bool t.fresh) (.bool t.done) vv vm) := by
  have zx : BX 42 wz (w.heap.size + 2) #[.int .i64 0, .int .i64 0, .bool false, .bool false, .slice none 0 0, .slice none 0 0] := zz.kept kp (fun e => hne e.symm)
  refine ⟨zx, zx.put6, ?_⟩
  rw [hR]
  refine StaP.yes (t := t) ?_ ?_ ?_
  · have h1 := own_off h.ov h.nb (by decide) kp
    have h2 := own_off h1 zx (by decide) (kept_put6 wz (w.heap.size + 2) (.int .i64 t.step) (.int .i64 t.phase) (.bool t.fresh) (.bool t.done) vv vm)
    rw [hv, valsR_len]
    exact own_lower h2 hw0
  · rw [hm]
    exact ((h.om.off h.nb (by decide) (by decide) kp).off zx (by decide) (by decide) (kept_put6 wz (w.heap.size + 2) (.int .i64 t.step) (.int .i64 t.phase) (.bool t.fresh) (.bool t.done) vv vm)).lower hw0
  · exact below_put6 (bw.trans (kp.below bw.size (fun q hq => by subst hq; exact hb8))) (by omega) zx.lt _ _ _ _ _ _

set_option maxHeartbeats 16000000 in
set_option maxRecDepth 100000 in
theorem followed_round (v : Value) (es : List Ed) (m : Nat) (k s : Int) (T : StS) (vv vm : Value) (w : World) (h : EdR w v es) (hv : MlR w vv T.vals) (hm : LiR w vm T.mail) (hml : ∀ l ∈ T.mail, l.length ≤ 140737488355328) (hje : jobE (m : Int) es k s = 0) (hmay : mayR m k T = true) (hdn : T.done = false) (hst : ¬ 100000 ≤ T.step) :
    Calls Try.prog 18 #[.agg #[.int .i64 (m : Int), v, .int .i64 k, .int .i64 s], .agg #[.int .i64 T.step, .int .i64 T.phase, .bool T.fresh, .bool T.done, vv, vm]] w (StaP w (folE (m : Int) es k s T)) := by
  have HR : Hid (EdR w v es) := h
  obtain ⟨a, cap, rfl, _, _, _, _⟩ := h
  have HV : Hid (MlR w vv T.vals) := hv
  have HM : Hid (LiR w vm T.mail) := hm
  obtain ⟨va, vc, rfl, hvc, hvm, _, _⟩ := hv
  obtain ⟨ma, mc, rfl, hmc, hmm, _⟩ := hm
  obtain ⟨hf, hk3, _⟩ := jobE_zero hje
  obtain ⟨hn0, hn1, hel, hed⟩ := fault_ok hf
  obtain ⟨j, hj, hI⟩ := mayR_iff.1 hmay
  obtain ⟨hkj, hpj⟩ := jobs_of hj
  have HG0 : Hid (InG m es) := fun e he => by have := in_of_out (hed e he); exact ⟨this.1, this.2.1, this.2.2.1, this.2.2.2.1, this.2.2.2.2.1⟩
  have HWT : Hid (∀ e ∈ es, 0 ≤ e.2.2 ∧ e.2.2 ≤ 1099511627776) := fun e he => (in_of_out (hed e he)).2.2.2.2
  have hmn : m ≤ 200 := by omega
  have HLE : Hid (es.length ≤ 600) := hel
  have hle6 : es.length ≤ 600 := hel
  have HOVR : Hid (overR j (rndV j s T) es = true → folE (m : Int) es k s T = (6, st0)) := fun h3 => folE_over hje (by rw [Int.toNat_natCast]; exact hmay) hdn hst hj h3
  have HGOR : Hid (overR j (rndV j s T) es = false → folE (m : Int) es k s T = (0, behR j T.step T.phase (valsR m (rndV j s T)) (mailR m j (rndV j s T) es))) := fun h3 => by
    have := folE_go hje (by rw [Int.toNat_natCast]; exact hmay) hdn hst hj h3
    rw [Int.toNat_natCast] at this
    exact this
  have HRR : Hid (∀ u : Int, 0 ≤ u ∧ u < (m : Int) → valB j (rndV j s T u).1 = true ∧ ((rndV j s T u).2 = true → 0 ≤ (rndV j s T u).1.1)) := fun u hu => hI.rnd (by omega) hu
  have HKJ : Hid (k = Jb.k j) := hkj
  have HPJ : Hid (T.phase = Jb.p j) := hpj
  have CCK : Hid (∀ X, EdR X (.slice a es.length cap) es → Calls Try.prog 13 #[.agg #[.int .i64 (m : Int), .slice a es.length cap, .int .i64 k, .int .i64 s]] X fun e w' => e = .returned (.int .i64 0) ∧ Below X.heap.size X w') := fun X hX => by have := jobFault_any (.slice a es.length cap) es (m : Int) k s X hX; rw [hje] at this; exact this
  have CSM : Hid (∀ X, MlR X (.slice va T.vals.length vc) T.vals → LiR X (.slice ma T.mail.length mc) T.mail → Calls Try.prog 26 #[.agg #[.int .i64 (m : Int), .slice a es.length cap, .int .i64 k, .int .i64 s], .agg #[.int .i64 T.step, .int .i64 T.phase, .bool T.fresh, .bool T.done, .slice va T.vals.length vc, .slice ma T.mail.length mc]] X fun e w' => e = .returned (.bool true) ∧ Below X.heap.size X w') := fun X h1 h2 => by have := stateMay_any a es.length cap m k s T _ _ X h1 h2 (by omega) hml; rw [hmay] at this; exact this
  have CWY : Hid (∀ X, Calls Try.prog 29 #[.int .i64 k, .int .i64 T.phase] X fun e w' => e = .returned (.tuple #[.bool (wayJ j).1, .bool (wayJ j).2, .int .i64 0]) ∧ w' = X) := fun X => by rw [HKJ.out, HPJ.out]; exact waysOf_any j X
  have HSAID : Hid (∀ (f : Nat) (y1 y2 x3 : Int), f < m → (0 ≤ x3 ∧ x3 ≤ 1099511627776) → rndV j s T (f : Int) = ((y1, y2), true) → ∀ X, Calls Try.prog 30 #[.int .i64 k, .agg #[.int .i64 y1, .int .i64 y2], .int .i64 T.phase, .int .i64 x3] X fun e w' => ∃ v, e = .returned v ∧ (v = .tuple #[.int .i64 (if sayJ j y1 x3 ≤ Jb.top j then (sayJ j y1 x3, (0 : Int)) else (0, 6)).1, .int .i64 (if sayJ j y1 x3 ≤ Jb.top j then (sayJ j y1 x3, (0 : Int)) else (0, 6)).2] ∧ Below X.heap.size X w')) := fun f y1 y2 x3 hf hx hr X => by
    have h1 := said_any k (y1, y2) T.phase x3 X
    have h2 := HRR.out (f : Int) (by omega)
    rw [hr] at h2
    rw [HKJ.out, HPJ.out, saidF_of, said_fit h2.1 (h2.2 rfl) (inB_iff.2 hx)] at h1
    rw [HKJ.out, HPJ.out]
    exact h1.mono fun e w' h => ⟨_, h.1, rfl, h.2⟩
  have HWK : Hid (∀ (c : Nat) (x : Ml) (l : List Int) (ua : Option Addr) (uc : Nat), T.vals[c]? = some x → T.mail[c]? = some l → ∀ X, InR X (.slice ua l.length uc) l → Calls Try.prog 28 #[.int .i64 k, .int .i64 (c : Int), .int .i64 s, .agg #[.int .i64 x.1, .int .i64 x.2], .int .i64 T.phase, .bool T.fresh, .slice ua l.length uc] X fun e w' => ∃ v, e = .returned v ∧ (v = .tuple #[.agg #[.int .i64 (wakeV j (c : Int) s x T.fresh l).1.1, .int .i64 (wakeV j (c : Int) s x T.fresh l).1.2], .bool (wakeV j (c : Int) s x T.fresh l).2, .int .i64 0] ∧ Below X.heap.size X w')) := fun c x l ua uc hx hl X hX => by
    have h1 := woken_any k (c : Int) s x T.phase T.fresh l _ X hX
    have hc : c < T.vals.length := (List.getElem?_eq_some_iff.1 hx).1
    have hlv := hI.lv
    have e : wakeF k (c : Int) s x T.phase T.fresh l = wakeJ j (c : Int) s x T.fresh l := by unfold wakeF; rw [hj]
    rw [e, wake_fit (by omega) (hI.val x (List.mem_of_getElem? hx)) (hI.mls l (List.mem_of_getElem? hl)).1] at h1
    exact h1.mono fun e w' h => ⟨_, h.1, rfl, h.2⟩
  have RY : Hid (∀ (c : Nat) (x : Ml) (l : List Int), T.vals[c]? = some x → T.mail[c]? = some l → T.fresh = true ∨ 0 < l.length → rndV j s T (c : Int) = wakeV j (c : Int) s x T.fresh l) := fun c x l hx hl h => rnd_yesF hx hl h
  have RN : Hid (∀ (c : Nat) (x : Ml) (l : List Int), T.vals[c]? = some x → T.mail[c]? = some l → T.fresh = false → ¬ 0 < l.length → rndV j s T (c : Int) = (x, false)) := fun c x l hx hl h h2 => rnd_noF hx hl h h2
  have lv1 : m ≤ T.vals.length := Nat.le_of_eq hI.lv.symm
  have lm1 : m ≤ T.mail.length := Nat.le_of_eq hI.lm.symm
  have hstp := hI.stp
  have HDN : Hid (T.done = false) := hdn
  obtain ⟨wo, hwo⟩ : ∃ b, (wayJ j).1 = b := ⟨_, rfl⟩
  obtain ⟨wi, hwi⟩ : ∃ b, (wayJ j).2 = b := ⟨_, rfl⟩
  have HWO : Hid ((wayJ j).1 = wo) := hwo
  have HWI : Hid ((wayJ j).2 = wi) := hwi
  rw [hwo, hwi] at CWY
  clear hwo hwi hf hk3 hel hed hmay hj hI hkj hpj hje hml hdn
  generalize folE (m : Int) es k s T = R at *
  generalize rndV j s T = r at *
  obtain ⟨W0, hW0⟩ : ∃ W0, W0 = ((w.alloc (.cells #[.int .i64 (m : Int), .slice a es.length cap, .int .i64 k, .int .i64 s] 26)).alloc (.cells #[.int .i64 T.step, .int .i64 T.phase, .bool T.fresh, .bool T.done, .slice va T.vals.length vc, .slice ma T.mail.length mc] 42)).alloc (.cells #[.int .i64 0, .int .i64 0, .bool false, .bool false, .slice none 0 0, .slice none 0 0] 42) := ⟨_, rfl⟩
  obtain ⟨Q0, T0, Z0, B0, s1, s2⟩ := boxes3 w #[.int .i64 (m : Int), .slice a es.length cap, .int .i64 k, .int .i64 s] #[.int .i64 T.step, .int .i64 T.phase, .bool T.fresh, .bool T.done, .slice va T.vals.length vc, .slice ma T.mail.length mc] #[.int .i64 0, .int .i64 0, .bool false, .bool false, .slice none 0 0, .slice none 0 0] 26 42 42 W0 hW0
  have BH : Hid (Below w.heap.size w W0) := B0
  have HK : Hid (∀ X, Below W0.heap.size W0 X → BX 26 X w.heap.size #[.int .i64 (m : Int), .slice a es.length cap, .int .i64 k, .int .i64 s] ∧ BX 42 X (w.heap.size + 1) #[.int .i64 T.step, .int .i64 T.phase, .bool T.fresh, .bool T.done, .slice va T.vals.length vc, .slice ma T.mail.length mc] ∧ BX 42 X (w.heap.size + 2) #[.int .i64 0, .int .i64 0, .bool false, .bool false, .slice none 0 0, .slice none 0 0] ∧ Below w.heap.size w X) := fun X hX => ⟨Q0.below hX (by omega), T0.below hX (by omega), Z0.below hX (by omega), BH.out.trans (hX.mono (by omega))⟩
  have HNO : Hid (∀ X f, Below W0.heap.size W0 X → R = (f, st0) → BX 42 (put6 X (w.heap.size + 2) (.int .i64 0) (.int .i64 0) (.bool false) (.bool false) (.slice none 0 0) (.slice none 0 0)) (w.heap.size + 2) #[.int .i64 0, .int .i64 0, .bool false, .bool false, .slice none 0 0, .slice none 0 0] ∧ StaP w R (.returned (.tuple #[.agg #[.int .i64 0, .int .i64 0, .bool false, .bool false, .slice none 0 0, .slice none 0 0], .int .i64 f])) (put6 X (w.heap.size + 2) (.int .i64 0) (.int .i64 0) (.bool false) (.bool false) (.slice none 0 0) (.slice none 0 0))) := fun X f hX hR => by
    obtain ⟨_, _, Z1, b1⟩ := HK.out X hX
    refine ⟨Z1.put6, ?_⟩
    rw [hR]
    exact StaP.no (below_put6 b1 (by omega) Z1.lt _ _ _ _ _ _)
  have R0 : Hid (∀ X, Below W0.heap.size W0 X → EdR X (.slice a es.length cap) es ∧ MlR X (.slice va T.vals.length vc) T.vals ∧ LiR X (.slice ma T.mail.length mc) T.mail) := fun X hX => ⟨HR.out.below (HK.out _ hX).2.2.2 (Nat.le_refl _), HV.out.below (HK.out _ hX).2.2.2 (Nat.le_refl _), HM.out.below (HK.out _ hX).2.2.2 (Nat.le_refl _)⟩
  have A0 : Hid (Below W0.heap.size W0 W0) := Below.refl _ _
  have CC0 : Hid (∀ X, Below W0.heap.size W0 X → _) := fun X hX => CCK.out X (R0.out X hX).1
  have CS0 : Hid (∀ X, Below W0.heap.size W0 X → _) := fun X hX => CSM.out X (R0.out X hX).2.1 (R0.out X hX).2.2
  obtain ⟨q0, q1, q2, q3⟩ := Q0.all4
  clear Q0 T0 Z0 B0 CCK CSM
  have wn : IntKind.i64.wrap (T.step + 1) = T.step + 1 := wrap_id64 (by omega) (by omega)
  go_enter Try.func18, Try.ntmps18
  go_upto_region 1 with fail
  rw [← hW0]
  clear hW0
  go_wp2_with fail
  refine (CC0.out _ A0.out).mono ?_
  rintro e w1 ⟨rfl, hb1⟩
  have A1 : Hid (Below W0.heap.size W0 w1) := hb1
  obtain ⟨Q1, T1, _, _⟩ := HK.out _ hb1
  clear q0 q1 q2 q3 hb1
  obtain ⟨q0, q1, q2, q3⟩ := Q1.all4
  obtain ⟨⟨c0, c1, c2, c3, c4, c5⟩, _⟩ := T1.all6
  clear Q1 T1
  go_wp2_with fail
  refine (CS0.out _ A1.out).mono ?_
  rintro e w2 ⟨rfl, hb2⟩
  have A2 : Below W0.heap.size W0 w2 := A1.out.trans (hb2.mono A1.out.size)
  obtain ⟨Q2, T2, _, _⟩ := HK.out _ A2
  clear q0 q1 q2 q3 c0 c1 c2 c3 c4 c5 hb2
  obtain ⟨q0, q1, q2, q3⟩ := Q2.all4
  obtain ⟨⟨c0, c1, c2, c3, c4, c5⟩, _⟩ := T2.all6
  rw [HDN.out] at c3
  clear Q2 T2 CC0 CS0
  have W3 : Hid (Below W0.heap.size W0 (w2.alloc (.cells #[.int .i64 (T.step + 1), .int .i64 T.phase, .bool false, .bool false, .slice none 0 0, .slice none 0 0] 42)) ∧ BX 42 (w2.alloc (.cells #[.int .i64 (T.step + 1), .int .i64 T.phase, .bool false, .bool false, .slice none 0 0, .slice none 0 0] 42)) w2.heap.size #[.int .i64 (T.step + 1), .int .i64 T.phase, .bool false, .bool false, .slice none 0 0, .slice none 0 0] ∧ W0.heap.size ≤ w2.heap.size ∧ (w2.alloc (.cells #[.int .i64 (T.step + 1), .int .i64 T.phase, .bool false, .bool false, .slice none 0 0, .slice none 0 0] 42)).heap.size = w2.heap.size + 1) := ⟨A2.alloc A2.size _, BX.new _ _ _, A2.size, by simp⟩
  clear A2
  go_upto_region 12 with fail
  generalize w2.alloc (.cells #[.int .i64 (T.step + 1), .int .i64 T.phase, .bool false, .bool false, .slice none 0 0, .slice none 0 0] 42) = w3 at *
  generalize w2.heap.size = b8 at *
  obtain ⟨A3', X3', hb8, hsz3⟩ := W3.out
  obtain ⟨w4, hmk, hob4, hb4⟩ := make_bools w3 m (by omega)
  have A4 : Hid (Below W0.heap.size W0 w4) := A3'.trans (hb4.mono A3'.size)
  have X4 : Hid (BX 42 w4 b8 #[.int .i64 (T.step + 1), .int .i64 T.phase, .bool false, .bool false, .slice none 0 0, .slice none 0 0]) := X3'.below hb4 X3'.lt
  obtain ⟨g9, hg9⟩ : ∃ g, w3.heap.size = g := ⟨_, rfl⟩
  have hg9b : b8 < g9 := by omega
  have OB4 : Hid (w4.ownsRow W0.heap.size 4 1 (.slice (some ⟨g9, 0, none⟩) m m) m ((sdR m r 0).flatMap encT)) := by
    show World.ownsRow _ _ _ _ _ _ _
    rw [sdR_zero]
    rw [hg9] at hob4
    exact own_lower hob4 (by omega)
  rw [hg9] at hmk
  clear A3' X3' W3 hob4 hb4 hg9 hsz3
  go_wp2_with fail
  clear q0 q1 q2 q3 c0 c1 c2 c3 c4 c5 hmk
  go_loopw [10, 11] (fun t i wr => ∃ (c : Nat) (vv : Value), c ≤ m ∧ i = .int .i64 c ∧ t = .bool (openV ((valsR m r).take c)) ∧ (∃ a n c, vv = .slice a n c) ∧ BX 42 wr b8 #[.int .i64 (T.step + 1), .int .i64 T.phase, .bool false, .bool false, vv, .slice none 0 0] ∧ wr.ownsRow W0.heap.size 53 2 vv ((valsR m r).take c).length (((valsR m r).take c).flatMap encM) ∧ wr.ownsRow W0.heap.size 4 1 (.slice (some ⟨g9, 0, none⟩) m m) m ((sdR m r c).flatMap encT) ∧ Below W0.heap.size W0 wr) (fun _ i _ => m - (intOf i).toNat)
  case atStart => exact ⟨0, _, by omega, rfl, rfl, ⟨_, _, _, rfl⟩, X4.out, World.ownsRow_nil _ _ _ _, OB4.out, A4.out⟩
  case round =>
    obtain ⟨c, vv, hc, rfl, rfl, ⟨ya, yn, yc, rfl⟩, hnb, hov, hob, hbel⟩ := hrel
    have NB : Hid (BX 42 wr b8 #[.int .i64 (T.step + 1), .int .i64 T.phase, .bool false, .bool false, .slice ya yn yc, .slice none 0 0]) := hnb
    have OV : Hid (wr.ownsRow W0.heap.size 53 2 (.slice ya yn yc) ((valsR m r).take c).length (((valsR m r).take c).flatMap encM)) := hov
    have OB : Hid (wr.ownsRow W0.heap.size 4 1 (.slice (some ⟨g9, 0, none⟩) m m) m ((sdR m r c).flatMap encT)) := hob
    have AB : Hid (Below W0.heap.size W0 wr) := hbel
    have hsr := hbel.size
    have hg9l := hob.lt g9 rfl
    have hb8l0 := hnb.lt
    have HQ : Hid (∀ q, (Value.slice ya yn yc).ownBlock = some q → q < wr.heap.size) := fun q hq => (own_ge hov hq).2
    clear hnb hov hob hbel X4 OB4 A4
    by_cases hlt : c < m
    · obtain ⟨bv, ov, cv', e5, ltv, hvv⟩ := MlR.read HV.out (by omega)
      injection e5 with e5 _ e6
      subst e5 e6
      obtain ⟨bm, om, cm', e7, ltm, _, _, hvb⟩ := HM.out.at (by omega)
      injection e7 with e7 _ e8
      subst e7 e8
      obtain ⟨x, hx⟩ := getX (show c < T.vals.length by omega)
      obtain ⟨l, hl⟩ := getX (show c < T.mail.length by omega)
      obtain ⟨y0, y1⟩ := hvv c x hx
      obtain ⟨u, hu, hur⟩ := hvb c l hl
      have URw : Hid (InR w u l) := hur
      obtain ⟨ua, uc, rfl⟩ := hur.shape
      have hul : l.length ≤ 9223372036854775807 := by obtain ⟨_, _, e, h1, h2, _⟩ := hur; unfold maxLen at h2; omega
      have HXC : Hid (T.vals[c]? = some x) := hx
      have HLC : Hid (T.mail[c]? = some l) := hl
      have HY1 : Hid (T.fresh = true ∨ 0 < l.length → r (c : Int) = wakeV j (c : Int) s x T.fresh l) := RY.out c x l hx hl
      have HN1 : Hid (T.fresh = false → ¬ 0 < l.length → r (c : Int) = (x, false)) := RN.out c x l hx hl
      have HVN0 : Hid ((valsR m r).take (c + 1) = (valsR m r).take c ++ [(r (c : Int)).1]) := take_snoc (valsR_at hlt)
      have HBN : Hid (sdR m r (c + 1) = (sdR m r c).set c (r (c : Int)).2) := sdR_set hlt
      have HBK : Hid ((r (c : Int)).2 = false → sdR m r (c + 1) = sdR m r c) := sdR_keep hlt
      have hcs : c < (sdR m r c).length := by rw [sdR_len]; exact hlt
      have hlk : ((valsR m r).take c).length ≤ 200 := by simp [valsR_len]; omega
      have p0 : (0 : Int) ≤ (c : Int) := by omega
      have p1 : (c : Int) < (T.vals.length : Int) := by omega
      have p2 : (c : Int) < (T.mail.length : Int) := by omega
      have p3 : (c : Int) < (m : Int) := by omega
      have W5 : Hid (Below W0.heap.size W0 (wr.alloc (.cells #[.int .i64 x.1, .int .i64 x.2] 53)) ∧ BX 53 (wr.alloc (.cells #[.int .i64 x.1, .int .i64 x.2] 53)) wr.heap.size #[.int .i64 x.1, .int .i64 x.2] ∧ BX 42 (wr.alloc (.cells #[.int .i64 x.1, .int .i64 x.2] 53)) b8 #[.int .i64 (T.step + 1), .int .i64 T.phase, .bool false, .bool false, .slice ya yn yc, .slice none 0 0] ∧ (wr.alloc (.cells #[.int .i64 x.1, .int .i64 x.2] 53)).ownsRow W0.heap.size 53 2 (.slice ya yn yc) ((valsR m r).take c).length (((valsR m r).take c).flatMap encM) ∧ (wr.alloc (.cells #[.int .i64 x.1, .int .i64 x.2] 53)).ownsRow W0.heap.size 4 1 (.slice (some ⟨g9, 0, none⟩) m m) m ((sdR m r c).flatMap encT)) := ⟨AB.out.alloc hsr _, BX.new _ _ _, NB.out.below (below_alloc _ _) hb8l0, OV.out.alloc _, OB.out.alloc _⟩
      obtain ⟨_, TA, _, _⟩ := HK.out _ AB.out
      obtain ⟨⟨c0, c1, c2, c3, c4, c5⟩, _⟩ := TA.all6
      obtain ⟨vx0, vx1⟩ : wr.cell? ⟨bv, ov + c * 2, none⟩ = some (.int .i64 x.1) ∧ wr.cell? ⟨bv, ov + c * 2 + 1, none⟩ = some (.int .i64 x.2) := ⟨((HK.out _ AB.out).2.2.2.cell (p := ⟨bv, ov + c * 2, none⟩) ltv).trans y0, ((HK.out _ AB.out).2.2.2.cell (p := ⟨bv, ov + c * 2 + 1, none⟩) ltv).trans y1⟩
      clear hvv hvb hx hl hur TA NB OV OB
      go_upto_region 18 with fail
      generalize wr.alloc (.cells #[.int .i64 x.1, .int .i64 x.2] 53) = w5 at *
      clear c0 c1 c2 c3 c4 c5 vx0 vx1 AB
      generalize wr.heap.size = bx at *
      obtain ⟨a5, x5, n5, o5, q5⟩ := W5.out
      have AB5 : Hid (Below W0.heap.size W0 w5) := a5
      have XB5 : Hid (BX 53 w5 bx #[.int .i64 x.1, .int .i64 x.2]) := x5
      have NB5 : Hid (BX 42 w5 b8 #[.int .i64 (T.step + 1), .int .i64 T.phase, .bool false, .bool false, .slice ya yn yc, .slice none 0 0]) := n5
      have OV5 : Hid (w5.ownsRow W0.heap.size 53 2 (.slice ya yn yc) ((valsR m r).take c).length (((valsR m r).take c).flatMap encM)) := o5
      have OB5 : Hid (w5.ownsRow W0.heap.size 4 1 (.slice (some ⟨g9, 0, none⟩) m m) m ((sdR m r c).flatMap encT)) := q5
      have hs5 := a5.size
      have hgx : bx ≠ g9 := by omega
      have UR : Hid (∀ X, Below W0.heap.size W0 X → InR X (.slice ua l.length uc) l) := fun X hX => URw.out.below (HK.out _ hX).2.2.2 (Nat.le_refl _)
      have ew : ∀ args w, (callFunc 28 args).run Try.prog w = .ok (.enter 28 args) w := enters_of Try.func28 (by as_aux_lemma => kernel_rfl) rfl
      obtain ⟨_, TA, _, hbw5⟩ := HK.out _ a5
      obtain ⟨⟨c0, c1, c2, c3, c4, c5⟩, _⟩ := TA.all6
      have hu5 : w5.cell? ⟨bm, om + c, none⟩ = some (.slice ua l.length uc) := (hbw5.cell (p := ⟨bm, om + c, none⟩) ltm).trans hu
      clear W5 a5 x5 n5 o5 q5 TA hbw5
      rcases Bool.eq_false_or_eq_true T.fresh with hfr | hfr
      · have hll := True.intro
        as_aux_lemma =>
          have HRC : Hid (r (c : Int) = wakeV j (c : Int) s x T.fresh l) := HY1.out (.inl hfr)
          have HWC0 := HWK.out c x l ua uc HXC.out HLC.out
          generalize wakeV j (c : Int) s x T.fresh l = Q at *
          obtain ⟨⟨R1, R2⟩, R3⟩ := Q
          simp only at HWC0
          have HWC : Hid (∀ X, Below w5.heap.size w5 X → _) := fun X hX => HWC0 X (UR.out X (AB5.out.trans (hX.mono hs5)))
          have HRV : Hid (r (c : Int) = ((R1, R2), R3)) := HRC.out
          have HVN : Hid ((valsR m r).take (c + 1) = (valsR m r).take c ++ [(R1, R2)]) := by show _ = _; rw [HVN0.out, HRV.out]
          have KEEP : Hid (∀ V, Kept (fun q => q = bx ∨ q = g9) w5 V → ((V.cell? ⟨w.heap.size, 2, none⟩ = some (.int .i64 k) ∧ V.cell? ⟨w.heap.size, 3, none⟩ = some (.int .i64 s) ∧ V.cell? ⟨w.heap.size + 1, 1, none⟩ = some (.int .i64 T.phase) ∧ V.cell? ⟨w.heap.size + 1, 2, none⟩ = some (.bool T.fresh) ∧ V.cell? ⟨w.heap.size + 1, 4, none⟩ = some (.slice (some ⟨bv, ov, none⟩) T.vals.length vc) ∧ V.cell? ⟨w.heap.size + 1, 5, none⟩ = some (.slice (some ⟨bm, om, none⟩) T.mail.length mc)) ∧ V.cell? ⟨bv, ov + c * 2, none⟩ = some (.int .i64 x.1) ∧ V.cell? ⟨bv, ov + c * 2 + 1, none⟩ = some (.int .i64 x.2) ∧ V.cell? ⟨bm, om + c, none⟩ = some (.slice ua l.length uc))) := fun V hV => by
            have hV2 : Below W0.heap.size W0 V := AB5.out.trans (hV.below hs5 (fun q hq => by omega))
            obtain ⟨Q4, T4, _, hbw⟩ := HK.out V hV2
            obtain ⟨_, _, j2, j3⟩ := Q4.all4
            obtain ⟨⟨_, t1, t2, _, t4, t5⟩, _⟩ := T4.all6
            exact ⟨⟨j2, j3, t1, t2, t4, t5⟩, (hbw.cell (p := ⟨bv, ov + c * 2, none⟩) ltv).trans y0, (hbw.cell (p := ⟨bv, ov + c * 2 + 1, none⟩) ltv).trans y1, (hbw.cell (p := ⟨bm, om + c, none⟩) ltm).trans hu⟩
          have b50 : Below w5.heap.size w5 w5.drew := (Below.refl _ _).drew
          have HS0 : Hid ((w5.drew.cell? ⟨w.heap.size, 2, none⟩ = some (.int .i64 k) ∧ w5.drew.cell? ⟨w.heap.size, 3, none⟩ = some (.int .i64 s) ∧ w5.drew.cell? ⟨w.heap.size + 1, 1, none⟩ = some (.int .i64 T.phase) ∧ w5.drew.cell? ⟨w.heap.size + 1, 2, none⟩ = some (.bool T.fresh) ∧ w5.drew.cell? ⟨w.heap.size + 1, 4, none⟩ = some (.slice (some ⟨bv, ov, none⟩) T.vals.length vc) ∧ w5.drew.cell? ⟨w.heap.size + 1, 5, none⟩ = some (.slice (some ⟨bm, om, none⟩) T.mail.length mc)) ∧ w5.drew.cell? ⟨bv, ov + c * 2, none⟩ = some (.int .i64 x.1) ∧ w5.drew.cell? ⟨bv, ov + c * 2 + 1, none⟩ = some (.int .i64 x.2) ∧ w5.drew.cell? ⟨bm, om + c, none⟩ = some (.slice ua l.length uc)) := KEEP.out w5.drew (.of b50)
          rw [hfr] at c2
          clear hll hfr
          go_upto_region 19 with fail
          clear c0 c1 c2 c3 c4 c5
          refine wp_region_held (S := fun V => ((V.cell? ⟨w.heap.size, 2, none⟩ = some (.int .i64 k) ∧ V.cell? ⟨w.heap.size, 3, none⟩ = some (.int .i64 s) ∧ V.cell? ⟨w.heap.size + 1, 1, none⟩ = some (.int .i64 T.phase) ∧ V.cell? ⟨w.heap.size + 1, 2, none⟩ = some (.bool T.fresh) ∧ V.cell? ⟨w.heap.size + 1, 4, none⟩ = some (.slice (some ⟨bv, ov, none⟩) T.vals.length vc) ∧ V.cell? ⟨w.heap.size + 1, 5, none⟩ = some (.slice (some ⟨bm, om, none⟩) T.mail.length mc)) ∧ V.cell? ⟨bv, ov + c * 2, none⟩ = some (.int .i64 x.1) ∧ V.cell? ⟨bv, ov + c * 2 + 1, none⟩ = some (.int .i64 x.2) ∧ V.cell? ⟨bm, om + c, none⟩ = some (.slice ua l.length uc))) (by as_aux_lemma => kernel_rfl) ?_
          simp only [List.size_toArray, List.length_cons, List.length_nil, Nat.reduceAdd]
          refine takeH (i := 0) (v := .slice (some ⟨g9, 0, none⟩) m m) (d := 77) rfl rfl (by as_aux_lemma => kernel_rfl) (by as_aux_lemma => kernel_rfl) (by as_aux_lemma => kernel_rfl) (fun _ _ _ h => h) (by rfl) (fun V hV => by obtain ⟨⟨v1, v2, v3, v4, v5, v6⟩, v7, v8, v9⟩ := hV; go_simp) HS0.out ?_
          simp only [Act.put, List.setIfInBounds_toArray, List.set_cons_zero, List.set_cons_succ]
          refine takeH (i := 1) (v := .int .i64 (c : Int)) (d := 78) rfl rfl (by as_aux_lemma => kernel_rfl) (by as_aux_lemma => kernel_rfl) (by as_aux_lemma => kernel_rfl) (fun _ _ _ h => h) (by rfl) (fun V hV => by obtain ⟨⟨v1, v2, v3, v4, v5, v6⟩, v7, v8, v9⟩ := hV; go_simp) HS0.out ?_
          simp only [Act.put, List.setIfInBounds_toArray, List.set_cons_zero, List.set_cons_succ]
          refine takeH (i := 2) (v := .pointer (some ⟨w.heap.size, 2, none⟩)) (d := 79) rfl rfl (by as_aux_lemma => kernel_rfl) (by as_aux_lemma => kernel_rfl) (by as_aux_lemma => kernel_rfl) (fun _ _ _ h => h) (by rfl) (fun V hV => by obtain ⟨⟨v1, v2, v3, v4, v5, v6⟩, v7, v8, v9⟩ := hV; go_simp) HS0.out ?_
          simp only [Act.put, List.setIfInBounds_toArray, List.set_cons_zero, List.set_cons_succ]
          refine takeH (i := 3) (v := .int .i64 k) (d := 80) rfl rfl (by as_aux_lemma => kernel_rfl) (by as_aux_lemma => kernel_rfl) (by as_aux_lemma => kernel_rfl) (fun _ _ _ h => h) (by rfl) (fun V hV => by obtain ⟨⟨v1, v2, v3, v4, v5, v6⟩, v7, v8, v9⟩ := hV; go_simp) HS0.out ?_
          simp only [Act.put, List.setIfInBounds_toArray, List.set_cons_zero, List.set_cons_succ]
          refine takeH (i := 4) (v := .int .i64 (c : Int)) (d := 81) rfl rfl (by as_aux_lemma => kernel_rfl) (by as_aux_lemma => kernel_rfl) (by as_aux_lemma => kernel_rfl) (fun _ _ _ h => h) (by rfl) (fun V hV => by obtain ⟨⟨v1, v2, v3, v4, v5, v6⟩, v7, v8, v9⟩ := hV; go_simp) HS0.out ?_
          simp only [Act.put, List.setIfInBounds_toArray, List.set_cons_zero, List.set_cons_succ]
          refine takeH (i := 5) (v := .pointer (some ⟨w.heap.size, 3, none⟩)) (d := 82) rfl rfl (by as_aux_lemma => kernel_rfl) (by as_aux_lemma => kernel_rfl) (by as_aux_lemma => kernel_rfl) (fun _ _ _ h => h) (by rfl) (fun V hV => by obtain ⟨⟨v1, v2, v3, v4, v5, v6⟩, v7, v8, v9⟩ := hV; go_simp) HS0.out ?_
          simp only [Act.put, List.setIfInBounds_toArray, List.set_cons_zero, List.set_cons_succ]
          refine takeH (i := 6) (v := .int .i64 s) (d := 83) rfl rfl (by as_aux_lemma => kernel_rfl) (by as_aux_lemma => kernel_rfl) (by as_aux_lemma => kernel_rfl) (fun _ _ _ h => h) (by rfl) (fun V hV => by obtain ⟨⟨v1, v2, v3, v4, v5, v6⟩, v7, v8, v9⟩ := hV; go_simp) HS0.out ?_
          simp only [Act.put, List.setIfInBounds_toArray, List.set_cons_zero, List.set_cons_succ]
          refine takeH (i := 7) (v := .pointer (some ⟨w.heap.size + 1, 4, none⟩)) (d := 84) rfl rfl (by as_aux_lemma => kernel_rfl) (by as_aux_lemma => kernel_rfl) (by as_aux_lemma => kernel_rfl) (fun _ _ _ h => h) (by rfl) (fun V hV => by obtain ⟨⟨v1, v2, v3, v4, v5, v6⟩, v7, v8, v9⟩ := hV; go_simp) HS0.out ?_
          simp only [Act.put, List.setIfInBounds_toArray, List.set_cons_zero, List.set_cons_succ]
          refine takeH (i := 8) (v := .slice (some ⟨bv, ov, none⟩) T.vals.length vc) (d := 85) rfl rfl (by as_aux_lemma => kernel_rfl) (by as_aux_lemma => kernel_rfl) (by as_aux_lemma => kernel_rfl) (fun _ _ _ h => h) (by rfl) (fun V hV => by obtain ⟨⟨v1, v2, v3, v4, v5, v6⟩, v7, v8, v9⟩ := hV; go_simp) HS0.out ?_
          simp only [Act.put, List.setIfInBounds_toArray, List.set_cons_zero, List.set_cons_succ]
          refine takeH (i := 9) (v := .int .i64 (c : Int)) (d := 86) rfl rfl (by as_aux_lemma => kernel_rfl) (by as_aux_lemma => kernel_rfl) (by as_aux_lemma => kernel_rfl) (fun _ _ _ h => h) (by rfl) (fun V hV => by obtain ⟨⟨v1, v2, v3, v4, v5, v6⟩, v7, v8, v9⟩ := hV; go_simp) HS0.out ?_
          simp only [Act.put, List.setIfInBounds_toArray, List.set_cons_zero, List.set_cons_succ]
          refine takeH (i := 10) (v := .pointer (some ⟨bv, ov + c * 2, none⟩)) (d := 87) rfl rfl (by as_aux_lemma => kernel_rfl) (by as_aux_lemma => kernel_rfl) (by as_aux_lemma => kernel_rfl) (fun _ _ _ h => h) (by rfl) (fun V hV => by obtain ⟨⟨v1, v2, v3, v4, v5, v6⟩, v7, v8, v9⟩ := hV; go_simp) HS0.out ?_
          simp only [Act.put, List.setIfInBounds_toArray, List.set_cons_zero, List.set_cons_succ]
          refine takeH (i := 11) (v := .agg #[.int .i64 x.1, .int .i64 x.2]) (d := 88) rfl rfl (by as_aux_lemma => kernel_rfl) (by as_aux_lemma => kernel_rfl) (by as_aux_lemma => kernel_rfl) (fun _ _ _ h => h) (by rfl) (fun V hV => by obtain ⟨⟨v1, v2, v3, v4, v5, v6⟩, v7, v8, v9⟩ := hV; go_simp) HS0.out ?_
          simp only [Act.put, List.setIfInBounds_toArray, List.set_cons_zero, List.set_cons_succ]
          refine takeH (i := 12) (v := .pointer (some ⟨w.heap.size + 1, 1, none⟩)) (d := 89) rfl rfl (by as_aux_lemma => kernel_rfl) (by as_aux_lemma => kernel_rfl) (by as_aux_lemma => kernel_rfl) (fun _ _ _ h => h) (by rfl) (fun V hV => by obtain ⟨⟨v1, v2, v3, v4, v5, v6⟩, v7, v8, v9⟩ := hV; go_simp) HS0.out ?_
          simp only [Act.put, List.setIfInBounds_toArray, List.set_cons_zero, List.set_cons_succ]
          refine takeH (i := 13) (v := .int .i64 T.phase) (d := 90) rfl rfl (by as_aux_lemma => kernel_rfl) (by as_aux_lemma => kernel_rfl) (by as_aux_lemma => kernel_rfl) (fun _ _ _ h => h) (by rfl) (fun V hV => by obtain ⟨⟨v1, v2, v3, v4, v5, v6⟩, v7, v8, v9⟩ := hV; go_simp) HS0.out ?_
          simp only [Act.put, List.setIfInBounds_toArray, List.set_cons_zero, List.set_cons_succ]
          refine takeH (i := 14) (v := .pointer (some ⟨w.heap.size + 1, 2, none⟩)) (d := 91) rfl rfl (by as_aux_lemma => kernel_rfl) (by as_aux_lemma => kernel_rfl) (by as_aux_lemma => kernel_rfl) (fun _ _ _ h => h) (by rfl) (fun V hV => by obtain ⟨⟨v1, v2, v3, v4, v5, v6⟩, v7, v8, v9⟩ := hV; go_simp) HS0.out ?_
          simp only [Act.put, List.setIfInBounds_toArray, List.set_cons_zero, List.set_cons_succ]
          refine takeH (i := 15) (v := .bool T.fresh) (d := 92) rfl rfl (by as_aux_lemma => kernel_rfl) (by as_aux_lemma => kernel_rfl) (by as_aux_lemma => kernel_rfl) (fun _ _ _ h => h) (by rfl) (fun V hV => by obtain ⟨⟨v1, v2, v3, v4, v5, v6⟩, v7, v8, v9⟩ := hV; go_simp) HS0.out ?_
          simp only [Act.put, List.setIfInBounds_toArray, List.set_cons_zero, List.set_cons_succ]
          refine takeH (i := 16) (v := .pointer (some ⟨w.heap.size + 1, 5, none⟩)) (d := 93) rfl rfl (by as_aux_lemma => kernel_rfl) (by as_aux_lemma => kernel_rfl) (by as_aux_lemma => kernel_rfl) (fun _ _ _ h => h) (by rfl) (fun V hV => by obtain ⟨⟨v1, v2, v3, v4, v5, v6⟩, v7, v8, v9⟩ := hV; go_simp) HS0.out ?_
          simp only [Act.put, List.setIfInBounds_toArray, List.set_cons_zero, List.set_cons_succ]
          refine takeH (i := 17) (v := .slice (some ⟨bm, om, none⟩) T.mail.length mc) (d := 94) rfl rfl (by as_aux_lemma => kernel_rfl) (by as_aux_lemma => kernel_rfl) (by as_aux_lemma => kernel_rfl) (fun _ _ _ h => h) (by rfl) (fun V hV => by obtain ⟨⟨v1, v2, v3, v4, v5, v6⟩, v7, v8, v9⟩ := hV; go_simp) HS0.out ?_
          simp only [Act.put, List.setIfInBounds_toArray, List.set_cons_zero, List.set_cons_succ]
          refine takeH (i := 18) (v := .int .i64 (c : Int)) (d := 95) rfl rfl (by as_aux_lemma => kernel_rfl) (by as_aux_lemma => kernel_rfl) (by as_aux_lemma => kernel_rfl) (fun _ _ _ h => h) (by rfl) (fun V hV => by obtain ⟨⟨v1, v2, v3, v4, v5, v6⟩, v7, v8, v9⟩ := hV; go_simp) HS0.out ?_
          simp only [Act.put, List.setIfInBounds_toArray, List.set_cons_zero, List.set_cons_succ]
          refine takeH (i := 19) (v := .pointer (some ⟨bm, om + c, none⟩)) (d := 96) rfl rfl (by as_aux_lemma => kernel_rfl) (by as_aux_lemma => kernel_rfl) (by as_aux_lemma => kernel_rfl) (fun _ _ _ h => h) (by rfl) (fun V hV => by obtain ⟨⟨v1, v2, v3, v4, v5, v6⟩, v7, v8, v9⟩ := hV; go_simp) HS0.out ?_
          simp only [Act.put, List.setIfInBounds_toArray, List.set_cons_zero, List.set_cons_succ]
          refine takeH (i := 20) (v := .slice ua l.length uc) (d := 97) rfl rfl (by as_aux_lemma => kernel_rfl) (by as_aux_lemma => kernel_rfl) (by as_aux_lemma => kernel_rfl) (fun _ _ _ h => h) (by rfl) (fun V hV => by obtain ⟨⟨v1, v2, v3, v4, v5, v6⟩, v7, v8, v9⟩ := hV; go_simp) HS0.out ?_
          simp only [Act.put, List.setIfInBounds_toArray, List.set_cons_zero, List.set_cons_succ]
          refine oneH (i := 21) rfl (by as_aux_lemma => kernel_rfl) rfl (call_gets (d := 98) (f := 28) (xs := #[.tmp 80, .tmp 81, .tmp 83, .tmp 88, .tmp 90, .tmp 92, .tmp 97]) (ats := #[3, 3, 3, 53, 3, 4, 57]) rfl rfl ew (vs := #[.int .i64 k, .int .i64 (c : Int), .int .i64 s, .agg #[.int .i64 x.1, .int .i64 x.2], .int .i64 T.phase, .bool T.fresh, .slice ua l.length uc]) (by simp [Act.eval]) (HWC.out w5.drew b50) ?_)
          rintro vr w6 ⟨rfl, hb6⟩
          have b6 : Below w5.heap.size w5 w6 := b50.trans hb6
          have HS6 : Hid ((w6.cell? ⟨w.heap.size, 2, none⟩ = some (.int .i64 k) ∧ w6.cell? ⟨w.heap.size, 3, none⟩ = some (.int .i64 s) ∧ w6.cell? ⟨w.heap.size + 1, 1, none⟩ = some (.int .i64 T.phase) ∧ w6.cell? ⟨w.heap.size + 1, 2, none⟩ = some (.bool T.fresh) ∧ w6.cell? ⟨w.heap.size + 1, 4, none⟩ = some (.slice (some ⟨bv, ov, none⟩) T.vals.length vc) ∧ w6.cell? ⟨w.heap.size + 1, 5, none⟩ = some (.slice (some ⟨bm, om, none⟩) T.mail.length mc)) ∧ w6.cell? ⟨bv, ov + c * 2, none⟩ = some (.int .i64 x.1) ∧ w6.cell? ⟨bv, ov + c * 2 + 1, none⟩ = some (.int .i64 x.2) ∧ w6.cell? ⟨bm, om + c, none⟩ = some (.slice ua l.length uc)) := KEEP.out w6 (.of b6)
          refine ⟨HS6.out, ?_⟩
          simp only [Act.put, List.setIfInBounds_toArray, List.set_cons_zero, List.set_cons_succ]
          refine takeH (i := 22) (v := .tuple #[.agg #[.int .i64 R1, .int .i64 R2], .bool R3, .int .i64 0]) (d := 76) rfl rfl (by as_aux_lemma => kernel_rfl) (by as_aux_lemma => kernel_rfl) (by as_aux_lemma => kernel_rfl) (fun _ _ _ h => h) (by rfl) (fun V hV => by obtain ⟨⟨v1, v2, v3, v4, v5, v6⟩, v7, v8, v9⟩ := hV; go_simp) HS6.out ?_
          simp only [Act.put, List.setIfInBounds_toArray, List.set_cons_zero, List.set_cons_succ]
          refine takeH (i := 23) (v := .agg #[.int .i64 R1, .int .i64 R2]) (d := 99) rfl rfl (by as_aux_lemma => kernel_rfl) (by as_aux_lemma => kernel_rfl) (by as_aux_lemma => kernel_rfl) (fun _ _ _ h => h) (by rfl) (fun V hV => by obtain ⟨⟨v1, v2, v3, v4, v5, v6⟩, v7, v8, v9⟩ := hV; go_simp) HS6.out ?_
          simp only [Act.put, List.setIfInBounds_toArray, List.set_cons_zero, List.set_cons_succ]
          refine takeH (i := 24) (v := .bool R3) (d := 100) rfl rfl (by as_aux_lemma => kernel_rfl) (by as_aux_lemma => kernel_rfl) (by as_aux_lemma => kernel_rfl) (fun _ _ _ h => h) (by rfl) (fun V hV => by obtain ⟨⟨v1, v2, v3, v4, v5, v6⟩, v7, v8, v9⟩ := hV; go_simp) HS6.out ?_
          simp only [Act.put, List.setIfInBounds_toArray, List.set_cons_zero, List.set_cons_succ]
          refine takeH (i := 25) (v := .int .i64 0) (d := 101) rfl rfl (by as_aux_lemma => kernel_rfl) (by as_aux_lemma => kernel_rfl) (by as_aux_lemma => kernel_rfl) (fun _ _ _ h => h) (by rfl) (fun V hV => by obtain ⟨⟨v1, v2, v3, v4, v5, v6⟩, v7, v8, v9⟩ := hV; go_simp) HS6.out ?_
          simp only [Act.put, List.setIfInBounds_toArray, List.set_cons_zero, List.set_cons_succ]
          have xb6 := XB5.out.below b6 XB5.out.lt
          obtain ⟨n0, n1, n2, n3⟩ := xb6.all2
          have k7 : Kept (fun q => q = bx ∨ q = g9) w5 (put2 w6 bx (.int .i64 R1) (.int .i64 R2)) := (Kept.of b6).trans (((Kept.box _ _ _ _).trans (Kept.box _ _ _ _)).mono fun q hq => .inl hq)
          have HS7 : Hid (((put2 w6 bx (.int .i64 R1) (.int .i64 R2)).cell? ⟨w.heap.size, 2, none⟩ = some (.int .i64 k) ∧ (put2 w6 bx (.int .i64 R1) (.int .i64 R2)).cell? ⟨w.heap.size, 3, none⟩ = some (.int .i64 s) ∧ (put2 w6 bx (.int .i64 R1) (.int .i64 R2)).cell? ⟨w.heap.size + 1, 1, none⟩ = some (.int .i64 T.phase) ∧ (put2 w6 bx (.int .i64 R1) (.int .i64 R2)).cell? ⟨w.heap.size + 1, 2, none⟩ = some (.bool T.fresh) ∧ (put2 w6 bx (.int .i64 R1) (.int .i64 R2)).cell? ⟨w.heap.size + 1, 4, none⟩ = some (.slice (some ⟨bv, ov, none⟩) T.vals.length vc) ∧ (put2 w6 bx (.int .i64 R1) (.int .i64 R2)).cell? ⟨w.heap.size + 1, 5, none⟩ = some (.slice (some ⟨bm, om, none⟩) T.mail.length mc)) ∧ (put2 w6 bx (.int .i64 R1) (.int .i64 R2)).cell? ⟨bv, ov + c * 2, none⟩ = some (.int .i64 x.1) ∧ (put2 w6 bx (.int .i64 R1) (.int .i64 R2)).cell? ⟨bv, ov + c * 2 + 1, none⟩ = some (.int .i64 x.2) ∧ (put2 w6 bx (.int .i64 R1) (.int .i64 R2)).cell? ⟨bm, om + c, none⟩ = some (.slice ua l.length uc)) := KEEP.out _ k7
          have X7 : Hid (BX 53 (put2 w6 bx (.int .i64 R1) (.int .i64 R2)) bx #[.int .i64 R1, .int .i64 R2]) := xb6.put2 _ _
          have kx : Kept (fun q => q = bx) w6 (put2 w6 bx (.int .i64 R1) (.int .i64 R2)) := (Kept.box _ _ _ _).trans (Kept.box _ _ _ _)
          have O7 : Hid ((put2 w6 bx (.int .i64 R1) (.int .i64 R2)).ownsRow W0.heap.size 4 1 (.slice (some ⟨g9, 0, none⟩) m m) m ((sdR m r c).flatMap encT)) := own_off (own_below OB5.out b6 (Nat.le_refl _)) xb6 (by decide) kx
          have K7 : Hid (Kept (fun q => q = bx ∨ q = g9) w5 (put2 w6 bx (.int .i64 R1) (.int .i64 R2))) := k7
          refine oneH (i := 26) rfl (by as_aux_lemma => kernel_rfl) rfl (op_skip (w' := (put2 w6 bx (.int .i64 R1) (.int .i64 R2))) rfl (by unfold put2; go_simp) ⟨HS7.out, ?_⟩)
          clear n0 n1 n2 n3 k7 xb6 HS6 b6 hb6 kx
          generalize put2 w6 bx (.int .i64 R1) (.int .i64 R2) = w7 at *
          refine takeH (i := 27) (v := .pointer (some ⟨g9, c, none⟩)) (d := 102) rfl rfl (by as_aux_lemma => kernel_rfl) (by as_aux_lemma => kernel_rfl) (by as_aux_lemma => kernel_rfl) (fun _ _ _ h => h) (by rfl) (fun V hV => by obtain ⟨⟨v1, v2, v3, v4, v5, v6⟩, v7, v8, v9⟩ := hV; go_simp) HS7.out ?_
          simp only [Act.put, List.setIfInBounds_toArray, List.set_cons_zero, List.set_cons_succ]
          have f7 := frozenK O7.out c
          have z7 := own_atB O7.out (List.getElem?_eq_getElem hcs)
          have k8 : Kept (fun q => q = bx ∨ q = g9) w5 (w7.setCell ⟨g9, c, none⟩ (.bool R3)) := K7.out.trans ((Kept.box _ _ _ _).mono fun q hq => .inr hq)
          have HS8 : Hid (((w7.setCell ⟨g9, c, none⟩ (.bool R3)).cell? ⟨w.heap.size, 2, none⟩ = some (.int .i64 k) ∧ (w7.setCell ⟨g9, c, none⟩ (.bool R3)).cell? ⟨w.heap.size, 3, none⟩ = some (.int .i64 s) ∧ (w7.setCell ⟨g9, c, none⟩ (.bool R3)).cell? ⟨w.heap.size + 1, 1, none⟩ = some (.int .i64 T.phase) ∧ (w7.setCell ⟨g9, c, none⟩ (.bool R3)).cell? ⟨w.heap.size + 1, 2, none⟩ = some (.bool T.fresh) ∧ (w7.setCell ⟨g9, c, none⟩ (.bool R3)).cell? ⟨w.heap.size + 1, 4, none⟩ = some (.slice (some ⟨bv, ov, none⟩) T.vals.length vc) ∧ (w7.setCell ⟨g9, c, none⟩ (.bool R3)).cell? ⟨w.heap.size + 1, 5, none⟩ = some (.slice (some ⟨bm, om, none⟩) T.mail.length mc)) ∧ (w7.setCell ⟨g9, c, none⟩ (.bool R3)).cell? ⟨bv, ov + c * 2, none⟩ = some (.int .i64 x.1) ∧ (w7.setCell ⟨g9, c, none⟩ (.bool R3)).cell? ⟨bv, ov + c * 2 + 1, none⟩ = some (.int .i64 x.2) ∧ (w7.setCell ⟨g9, c, none⟩ (.bool R3)).cell? ⟨bm, om + c, none⟩ = some (.slice ua l.length uc)) := KEEP.out _ k8
          have X8 : Hid (BX 53 (w7.setCell ⟨g9, c, none⟩ (.bool R3)) bx #[.int .i64 R1, .int .i64 R2]) := X7.out.other hgx
          have O8 : Hid ((w7.setCell ⟨g9, c, none⟩ (.bool R3)).ownsRow W0.heap.size 4 1 (.slice (some ⟨g9, 0, none⟩) m m) m ((sdR m r (c + 1)).flatMap encT)) := by
            show World.ownsRow _ _ _ _ _ _ _
            rw [HBN.out, HRC.out]; exact own_setB O7.out
          have K8 : Hid (Kept (fun q => q = bx ∨ q = g9) w5 (w7.setCell ⟨g9, c, none⟩ (.bool R3))) := k8
          refine oneH (i := 28) rfl (by as_aux_lemma => kernel_rfl) rfl (op_skip (w' := (w7.setCell ⟨g9, c, none⟩ (.bool R3))) rfl (by go_simp) ⟨HS8.out, ?_⟩)
          clear f7 z7 k8 HS7 X7 O7 K7
          generalize w7.setCell ⟨g9, c, none⟩ (.bool R3) = w8 at *
          refine wpAnyH_done (by as_aux_lemma => kernel_rfl) ?_ _
          clear HS8 HS0 KEEP b50
          have hXG : Hid (∀ (Y : Obj) (w' : World), (w8.alloc Y).grownBy w' (Value.ownBlock (.slice ya yn yc)) → BX 53 w' bx #[.int .i64 R1, .int .i64 R2]) := fun Y w' hg => by
            have hx9 := X8.out.below (below_alloc w8 Y) X8.out.lt
            refine (hg.block bx hx9.lt fun e => ?_).trans hx9
            have hq := HQ.out bx e.symm
            omega
          have AB8 : Below W0.heap.size W0 w8 := AB5.out.trans (K8.out.below hs5 (fun q hq => by omega))
          have NB8 : BX 42 w8 b8 #[.int .i64 (T.step + 1), .int .i64 T.phase, .bool false, .bool false, .slice ya yn yc, .slice none 0 0] := NB5.out.kept K8.out (by omega)
          have OV8 : Hid (w8.ownsRow W0.heap.size 53 2 (.slice ya yn yc) ((valsR m r).take c).length (((valsR m r).take c).flatMap encM)) := K8.out.own OV5.out (fun q hq hs => by
            rcases hs with e | e
            · have := HQ.out q hq
              omega
            · obtain ⟨cur, hc⟩ := own_curF OB5.out
              exact own_block OV5.out hq hc (by decide) e)
          have NB8H : Hid (BX 42 w8 b8 #[.int .i64 (T.step + 1), .int .i64 T.phase, .bool false, .bool false, .slice ya yn yc, .slice none 0 0]) := NB8
          have AB8H : Hid (Below W0.heap.size W0 w8) := AB8
          obtain ⟨⟨n0, n1, n2, n3, n4, n5⟩, m0, m1, m2, m3, m4, m5⟩ := NB8.all6
          obtain ⟨x0, x1, _⟩ := X8.out.all2
          have hb8l := NB8.lt
          have hxl := X8.out.lt
          have hs8 := AB8.size
          have y4 : ∀ Y, (w8.alloc Y).cell? ⟨b8, 4, none⟩ = some (.slice ya yn yc) := fun Y => ((below_alloc w8 Y).cell (p := ⟨b8, 4, none⟩) hb8l).trans n4
          clear AB8 NB8
          generalize hfl : (valsR m r).take c = fl at *
          go_wp2_with (at_builtin; refine wpList_append_newK kV rfl _ _ rfl W0.heap.size _ fl rfl (OV8.out.alloc _) _ (R1, R2) rfl #[.int .i64 R1, .int .i64 R2] rfl (0, 0) (heap_alloc_new _ _) (by simp only [kV]; omega) (by unfold maxLen; omega) (by simp; omega) ?_)
          intro g2 c2 w10 ho2 hb2 hgr2
          have AB10 : Below W0.heap.size W0 w10 := (AB8H.out.alloc hs8 _).trans hb2
          have NB10 : BX 42 w10 b8 #[.int .i64 (T.step + 1), .int .i64 T.phase, .bool false, .bool false, .slice ya yn yc, .slice none 0 0] := BX.grown (NB8H.out.below (below_alloc _ _) hb8l) (OV8.out.alloc _) (by decide) hgr2
          have X10 : BX 53 w10 bx #[.int .i64 R1, .int .i64 R2] := hXG.out _ _ hgr2
          have OB10 : w10.ownsRow W0.heap.size 4 1 (.slice (some ⟨g9, 0, none⟩) m m) m ((sdR m r (c + 1)).flatMap encT) := (O8.out.alloc _).kept hgr2 (own_apart O8.out OV8.out (by decide))
          have NB11 : Hid (BX 42 (w10.setCell ⟨b8, 4, none⟩ (.slice (some ⟨g2, 0, none⟩) (fl.length + 1) c2)) b8 #[.int .i64 (T.step + 1), .int .i64 T.phase, .bool false, .bool false, .slice (some ⟨g2, 0, none⟩) (fl.length + 1) c2, .slice none 0 0]) := NB10.set 4 _
          have OV11 : Hid ((w10.setCell ⟨b8, 4, none⟩ (.slice (some ⟨g2, 0, none⟩) (fl.length + 1) c2)).ownsRow W0.heap.size 53 2 (.slice (some ⟨g2, 0, none⟩) (fl.length + 1) c2) ((valsR m r).take (c + 1)).length (((valsR m r).take (c + 1)).flatMap encM)) := by
            show World.ownsRow _ _ _ _ _ _ _
            rw [HVN.out, flat_snoc, List.length_append]
            exact NB10.own ho2 (by decide)
          have OB11 : Hid ((w10.setCell ⟨b8, 4, none⟩ (.slice (some ⟨g2, 0, none⟩) (fl.length + 1) c2)).ownsRow W0.heap.size 4 1 (.slice (some ⟨g9, 0, none⟩) m m) m ((sdR m r (c + 1)).flatMap encT)) := NB10.own OB10 (by decide)
          have AB11 : Hid (Below W0.heap.size W0 (w10.setCell ⟨b8, 4, none⟩ (.slice (some ⟨g2, 0, none⟩) (fl.length + 1) c2))) := AB10.setCell (p := ⟨b8, 4, none⟩) (by show W0.heap.size ≤ b8; omega) _
          have X11 : BX 53 (w10.setCell ⟨b8, 4, none⟩ (.slice (some ⟨g2, 0, none⟩) (fl.length + 1) c2)) bx #[.int .i64 R1, .int .i64 R2] := X10.other (by omega)
          obtain ⟨⟨p0, p1, p2, p3, p4, p5⟩, l0, l1, l2, l3, l4, l5⟩ := NB10.all6
          obtain ⟨i0, i1, _⟩ := X11.all2
          clear n0 n1 n2 n3 n4 n5 m0 m1 m2 m3 m4 m5 x0 x1 y4 ho2 hb2 hgr2 AB10 NB10 X10 OB10 X11
          generalize hop : openV fl = op at *
          cases op
          · have HOE : Hid (openV ((valsR m r).take (c + 1)) = decide (R2 < 0)) := by show openV _ = _; rw [HVN.out, openV_snoc, hop]; rfl
            go_wp2_with fail
            go_roundw
            case rel => exact ⟨c + 1, _, by omega, by go_num, by rw [HOE.out], ⟨_, _, _, rfl⟩, NB11.out, OV11.out, OB11.out, AB11.out⟩
            case measure => simp [intOf]; omega
          · have HOE : Hid (openV ((valsR m r).take (c + 1)) = true) := by show openV _ = _; rw [HVN.out, openV_snoc, hop]; rfl
            go_wp2_with fail
            go_roundw
            case rel => exact ⟨c + 1, _, by omega, by go_num, by rw [HOE.out], ⟨_, _, _, rfl⟩, NB11.out, OV11.out, OB11.out, AB11.out⟩
            case measure => simp [intOf]; omega
      · by_cases hll : 0 < l.length
        · as_aux_lemma =>
            have HRC : Hid (r (c : Int) = wakeV j (c : Int) s x T.fresh l) := HY1.out (.inr hll)
            have HWC0 := HWK.out c x l ua uc HXC.out HLC.out
            generalize wakeV j (c : Int) s x T.fresh l = Q at *
            obtain ⟨⟨R1, R2⟩, R3⟩ := Q
            simp only at HWC0
            have HWC : Hid (∀ X, Below w5.heap.size w5 X → _) := fun X hX => HWC0 X (UR.out X (AB5.out.trans (hX.mono hs5)))
            have HRV : Hid (r (c : Int) = ((R1, R2), R3)) := HRC.out
            have HVN : Hid ((valsR m r).take (c + 1) = (valsR m r).take c ++ [(R1, R2)]) := by show _ = _; rw [HVN0.out, HRV.out]
            have KEEP : Hid (∀ V, Kept (fun q => q = bx ∨ q = g9) w5 V → ((V.cell? ⟨w.heap.size, 2, none⟩ = some (.int .i64 k) ∧ V.cell? ⟨w.heap.size, 3, none⟩ = some (.int .i64 s) ∧ V.cell? ⟨w.heap.size + 1, 1, none⟩ = some (.int .i64 T.phase) ∧ V.cell? ⟨w.heap.size + 1, 2, none⟩ = some (.bool T.fresh) ∧ V.cell? ⟨w.heap.size + 1, 4, none⟩ = some (.slice (some ⟨bv, ov, none⟩) T.vals.length vc) ∧ V.cell? ⟨w.heap.size + 1, 5, none⟩ = some (.slice (some ⟨bm, om, none⟩) T.mail.length mc)) ∧ V.cell? ⟨bv, ov + c * 2, none⟩ = some (.int .i64 x.1) ∧ V.cell? ⟨bv, ov + c * 2 + 1, none⟩ = some (.int .i64 x.2) ∧ V.cell? ⟨bm, om + c, none⟩ = some (.slice ua l.length uc))) := fun V hV => by
              have hV2 : Below W0.heap.size W0 V := AB5.out.trans (hV.below hs5 (fun q hq => by omega))
              obtain ⟨Q4, T4, _, hbw⟩ := HK.out V hV2
              obtain ⟨_, _, j2, j3⟩ := Q4.all4
              obtain ⟨⟨_, t1, t2, _, t4, t5⟩, _⟩ := T4.all6
              exact ⟨⟨j2, j3, t1, t2, t4, t5⟩, (hbw.cell (p := ⟨bv, ov + c * 2, none⟩) ltv).trans y0, (hbw.cell (p := ⟨bv, ov + c * 2 + 1, none⟩) ltv).trans y1, (hbw.cell (p := ⟨bm, om + c, none⟩) ltm).trans hu⟩
            have b50 : Below w5.heap.size w5 w5.drew := (Below.refl _ _).drew
            have HS0 : Hid ((w5.drew.cell? ⟨w.heap.size, 2, none⟩ = some (.int .i64 k) ∧ w5.drew.cell? ⟨w.heap.size, 3, none⟩ = some (.int .i64 s) ∧ w5.drew.cell? ⟨w.heap.size + 1, 1, none⟩ = some (.int .i64 T.phase) ∧ w5.drew.cell? ⟨w.heap.size + 1, 2, none⟩ = some (.bool T.fresh) ∧ w5.drew.cell? ⟨w.heap.size + 1, 4, none⟩ = some (.slice (some ⟨bv, ov, none⟩) T.vals.length vc) ∧ w5.drew.cell? ⟨w.heap.size + 1, 5, none⟩ = some (.slice (some ⟨bm, om, none⟩) T.mail.length mc)) ∧ w5.drew.cell? ⟨bv, ov + c * 2, none⟩ = some (.int .i64 x.1) ∧ w5.drew.cell? ⟨bv, ov + c * 2 + 1, none⟩ = some (.int .i64 x.2) ∧ w5.drew.cell? ⟨bm, om + c, none⟩ = some (.slice ua l.length uc)) := KEEP.out w5.drew (.of b50)
            rw [hfr] at c2
            have t0 : (0 : Int) < (l.length : Int) := by omega
            clear hfr
            go_upto_region 19 with fail
            clear c0 c1 c2 c3 c4 c5
            refine wp_region_held (S := fun V => ((V.cell? ⟨w.heap.size, 2, none⟩ = some (.int .i64 k) ∧ V.cell? ⟨w.heap.size, 3, none⟩ = some (.int .i64 s) ∧ V.cell? ⟨w.heap.size + 1, 1, none⟩ = some (.int .i64 T.phase) ∧ V.cell? ⟨w.heap.size + 1, 2, none⟩ = some (.bool T.fresh) ∧ V.cell? ⟨w.heap.size + 1, 4, none⟩ = some (.slice (some ⟨bv, ov, none⟩) T.vals.length vc) ∧ V.cell? ⟨w.heap.size + 1, 5, none⟩ = some (.slice (some ⟨bm, om, none⟩) T.mail.length mc)) ∧ V.cell? ⟨bv, ov + c * 2, none⟩ = some (.int .i64 x.1) ∧ V.cell? ⟨bv, ov + c * 2 + 1, none⟩ = some (.int .i64 x.2) ∧ V.cell? ⟨bm, om + c, none⟩ = some (.slice ua l.length uc))) (by as_aux_lemma => kernel_rfl) ?_
            simp only [List.size_toArray, List.length_cons, List.length_nil, Nat.reduceAdd]
            refine takeH (i := 0) (v := .slice (some ⟨g9, 0, none⟩) m m) (d := 77) rfl rfl (by as_aux_lemma => kernel_rfl) (by as_aux_lemma => kernel_rfl) (by as_aux_lemma => kernel_rfl) (fun _ _ _ h => h) (by rfl) (fun V hV => by obtain ⟨⟨v1, v2, v3, v4, v5, v6⟩, v7, v8, v9⟩ := hV; go_simp) HS0.out ?_
            simp only [Act.put, List.setIfInBounds_toArray, List.set_cons_zero, List.set_cons_succ]
            refine takeH (i := 1) (v := .int .i64 (c : Int)) (d := 78) rfl rfl (by as_aux_lemma => kernel_rfl) (by as_aux_lemma => kernel_rfl) (by as_aux_lemma => kernel_rfl) (fun _ _ _ h => h) (by rfl) (fun V hV => by obtain ⟨⟨v1, v2, v3, v4, v5, v6⟩, v7, v8, v9⟩ := hV; go_simp) HS0.out ?_
            simp only [Act.put, List.setIfInBounds_toArray, List.set_cons_zero, List.set_cons_succ]
            refine takeH (i := 2) (v := .pointer (some ⟨w.heap.size, 2, none⟩)) (d := 79) rfl rfl (by as_aux_lemma => kernel_rfl) (by as_aux_lemma => kernel_rfl) (by as_aux_lemma => kernel_rfl) (fun _ _ _ h => h) (by rfl) (fun V hV => by obtain ⟨⟨v1, v2, v3, v4, v5, v6⟩, v7, v8, v9⟩ := hV; go_simp) HS0.out ?_
            simp only [Act.put, List.setIfInBounds_toArray, List.set_cons_zero, List.set_cons_succ]
            refine takeH (i := 3) (v := .int .i64 k) (d := 80) rfl rfl (by as_aux_lemma => kernel_rfl) (by as_aux_lemma => kernel_rfl) (by as_aux_lemma => kernel_rfl) (fun _ _ _ h => h) (by rfl) (fun V hV => by obtain ⟨⟨v1, v2, v3, v4, v5, v6⟩, v7, v8, v9⟩ := hV; go_simp) HS0.out ?_
            simp only [Act.put, List.setIfInBounds_toArray, List.set_cons_zero, List.set_cons_succ]
            refine takeH (i := 4) (v := .int .i64 (c : Int)) (d := 81) rfl rfl (by as_aux_lemma => kernel_rfl) (by as_aux_lemma => kernel_rfl) (by as_aux_lemma => kernel_rfl) (fun _ _ _ h => h) (by rfl) (fun V hV => by obtain ⟨⟨v1, v2, v3, v4, v5, v6⟩, v7, v8, v9⟩ := hV; go_simp) HS0.out ?_
            simp only [Act.put, List.setIfInBounds_toArray, List.set_cons_zero, List.set_cons_succ]
            refine takeH (i := 5) (v := .pointer (some ⟨w.heap.size, 3, none⟩)) (d := 82) rfl rfl (by as_aux_lemma => kernel_rfl) (by as_aux_lemma => kernel_rfl) (by as_aux_lemma => kernel_rfl) (fun _ _ _ h => h) (by rfl) (fun V hV => by obtain ⟨⟨v1, v2, v3, v4, v5, v6⟩, v7, v8, v9⟩ := hV; go_simp) HS0.out ?_
            simp only [Act.put, List.setIfInBounds_toArray, List.set_cons_zero, List.set_cons_succ]
            refine takeH (i := 6) (v := .int .i64 s) (d := 83) rfl rfl (by as_aux_lemma => kernel_rfl) (by as_aux_lemma => kernel_rfl) (by as_aux_lemma => kernel_rfl) (fun _ _ _ h => h) (by rfl) (fun V hV => by obtain ⟨⟨v1, v2, v3, v4, v5, v6⟩, v7, v8, v9⟩ := hV; go_simp) HS0.out ?_
            simp only [Act.put, List.setIfInBounds_toArray, List.set_cons_zero, List.set_cons_succ]
            refine takeH (i := 7) (v := .pointer (some ⟨w.heap.size + 1, 4, none⟩)) (d := 84) rfl rfl (by as_aux_lemma => kernel_rfl) (by as_aux_lemma => kernel_rfl) (by as_aux_lemma => kernel_rfl) (fun _ _ _ h => h) (by rfl) (fun V hV => by obtain ⟨⟨v1, v2, v3, v4, v5, v6⟩, v7, v8, v9⟩ := hV; go_simp) HS0.out ?_
            simp only [Act.put, List.setIfInBounds_toArray, List.set_cons_zero, List.set_cons_succ]
            refine takeH (i := 8) (v := .slice (some ⟨bv, ov, none⟩) T.vals.length vc) (d := 85) rfl rfl (by as_aux_lemma => kernel_rfl) (by as_aux_lemma => kernel_rfl) (by as_aux_lemma => kernel_rfl) (fun _ _ _ h => h) (by rfl) (fun V hV => by obtain ⟨⟨v1, v2, v3, v4, v5, v6⟩, v7, v8, v9⟩ := hV; go_simp) HS0.out ?_
            simp only [Act.put, List.setIfInBounds_toArray, List.set_cons_zero, List.set_cons_succ]
            refine takeH (i := 9) (v := .int .i64 (c : Int)) (d := 86) rfl rfl (by as_aux_lemma => kernel_rfl) (by as_aux_lemma => kernel_rfl) (by as_aux_lemma => kernel_rfl) (fun _ _ _ h => h) (by rfl) (fun V hV => by obtain ⟨⟨v1, v2, v3, v4, v5, v6⟩, v7, v8, v9⟩ := hV; go_simp) HS0.out ?_
            simp only [Act.put, List.setIfInBounds_toArray, List.set_cons_zero, List.set_cons_succ]
            refine takeH (i := 10) (v := .pointer (some ⟨bv, ov + c * 2, none⟩)) (d := 87) rfl rfl (by as_aux_lemma => kernel_rfl) (by as_aux_lemma => kernel_rfl) (by as_aux_lemma => kernel_rfl) (fun _ _ _ h => h) (by rfl) (fun V hV => by obtain ⟨⟨v1, v2, v3, v4, v5, v6⟩, v7, v8, v9⟩ := hV; go_simp) HS0.out ?_
            simp only [Act.put, List.setIfInBounds_toArray, List.set_cons_zero, List.set_cons_succ]
            refine takeH (i := 11) (v := .agg #[.int .i64 x.1, .int .i64 x.2]) (d := 88) rfl rfl (by as_aux_lemma => kernel_rfl) (by as_aux_lemma => kernel_rfl) (by as_aux_lemma => kernel_rfl) (fun _ _ _ h => h) (by rfl) (fun V hV => by obtain ⟨⟨v1, v2, v3, v4, v5, v6⟩, v7, v8, v9⟩ := hV; go_simp) HS0.out ?_
            simp only [Act.put, List.setIfInBounds_toArray, List.set_cons_zero, List.set_cons_succ]
            refine takeH (i := 12) (v := .pointer (some ⟨w.heap.size + 1, 1, none⟩)) (d := 89) rfl rfl (by as_aux_lemma => kernel_rfl) (by as_aux_lemma => kernel_rfl) (by as_aux_lemma => kernel_rfl) (fun _ _ _ h => h) (by rfl) (fun V hV => by obtain ⟨⟨v1, v2, v3, v4, v5, v6⟩, v7, v8, v9⟩ := hV; go_simp) HS0.out ?_
            simp only [Act.put, List.setIfInBounds_toArray, List.set_cons_zero, List.set_cons_succ]
            refine takeH (i := 13) (v := .int .i64 T.phase) (d := 90) rfl rfl (by as_aux_lemma => kernel_rfl) (by as_aux_lemma => kernel_rfl) (by as_aux_lemma => kernel_rfl) (fun _ _ _ h => h) (by rfl) (fun V hV => by obtain ⟨⟨v1, v2, v3, v4, v5, v6⟩, v7, v8, v9⟩ := hV; go_simp) HS0.out ?_
            simp only [Act.put, List.setIfInBounds_toArray, List.set_cons_zero, List.set_cons_succ]
            refine takeH (i := 14) (v := .pointer (some ⟨w.heap.size + 1, 2, none⟩)) (d := 91) rfl rfl (by as_aux_lemma => kernel_rfl) (by as_aux_lemma => kernel_rfl) (by as_aux_lemma => kernel_rfl) (fun _ _ _ h => h) (by rfl) (fun V hV => by obtain ⟨⟨v1, v2, v3, v4, v5, v6⟩, v7, v8, v9⟩ := hV; go_simp) HS0.out ?_
            simp only [Act.put, List.setIfInBounds_toArray, List.set_cons_zero, List.set_cons_succ]
            refine takeH (i := 15) (v := .bool T.fresh) (d := 92) rfl rfl (by as_aux_lemma => kernel_rfl) (by as_aux_lemma => kernel_rfl) (by as_aux_lemma => kernel_rfl) (fun _ _ _ h => h) (by rfl) (fun V hV => by obtain ⟨⟨v1, v2, v3, v4, v5, v6⟩, v7, v8, v9⟩ := hV; go_simp) HS0.out ?_
            simp only [Act.put, List.setIfInBounds_toArray, List.set_cons_zero, List.set_cons_succ]
            refine takeH (i := 16) (v := .pointer (some ⟨w.heap.size + 1, 5, none⟩)) (d := 93) rfl rfl (by as_aux_lemma => kernel_rfl) (by as_aux_lemma => kernel_rfl) (by as_aux_lemma => kernel_rfl) (fun _ _ _ h => h) (by rfl) (fun V hV => by obtain ⟨⟨v1, v2, v3, v4, v5, v6⟩, v7, v8, v9⟩ := hV; go_simp) HS0.out ?_
            simp only [Act.put, List.setIfInBounds_toArray, List.set_cons_zero, List.set_cons_succ]
            refine takeH (i := 17) (v := .slice (some ⟨bm, om, none⟩) T.mail.length mc) (d := 94) rfl rfl (by as_aux_lemma => kernel_rfl) (by as_aux_lemma => kernel_rfl) (by as_aux_lemma => kernel_rfl) (fun _ _ _ h => h) (by rfl) (fun V hV => by obtain ⟨⟨v1, v2, v3, v4, v5, v6⟩, v7, v8, v9⟩ := hV; go_simp) HS0.out ?_
            simp only [Act.put, List.setIfInBounds_toArray, List.set_cons_zero, List.set_cons_succ]
            refine takeH (i := 18) (v := .int .i64 (c : Int)) (d := 95) rfl rfl (by as_aux_lemma => kernel_rfl) (by as_aux_lemma => kernel_rfl) (by as_aux_lemma => kernel_rfl) (fun _ _ _ h => h) (by rfl) (fun V hV => by obtain ⟨⟨v1, v2, v3, v4, v5, v6⟩, v7, v8, v9⟩ := hV; go_simp) HS0.out ?_
            simp only [Act.put, List.setIfInBounds_toArray, List.set_cons_zero, List.set_cons_succ]
            refine takeH (i := 19) (v := .pointer (some ⟨bm, om + c, none⟩)) (d := 96) rfl rfl (by as_aux_lemma => kernel_rfl) (by as_aux_lemma => kernel_rfl) (by as_aux_lemma => kernel_rfl) (fun _ _ _ h => h) (by rfl) (fun V hV => by obtain ⟨⟨v1, v2, v3, v4, v5, v6⟩, v7, v8, v9⟩ := hV; go_simp) HS0.out ?_
            simp only [Act.put, List.setIfInBounds_toArray, List.set_cons_zero, List.set_cons_succ]
            refine takeH (i := 20) (v := .slice ua l.length uc) (d := 97) rfl rfl (by as_aux_lemma => kernel_rfl) (by as_aux_lemma => kernel_rfl) (by as_aux_lemma => kernel_rfl) (fun _ _ _ h => h) (by rfl) (fun V hV => by obtain ⟨⟨v1, v2, v3, v4, v5, v6⟩, v7, v8, v9⟩ := hV; go_simp) HS0.out ?_
            simp only [Act.put, List.setIfInBounds_toArray, List.set_cons_zero, List.set_cons_succ]
            refine oneH (i := 21) rfl (by as_aux_lemma => kernel_rfl) rfl (call_gets (d := 98) (f := 28) (xs := #[.tmp 80, .tmp 81, .tmp 83, .tmp 88, .tmp 90, .tmp 92, .tmp 97]) (ats := #[3, 3, 3, 53, 3, 4, 57]) rfl rfl ew (vs := #[.int .i64 k, .int .i64 (c : Int), .int .i64 s, .agg #[.int .i64 x.1, .int .i64 x.2], .int .i64 T.phase, .bool T.fresh, .slice ua l.length uc]) (by simp [Act.eval]) (HWC.out w5.drew b50) ?_)
            rintro vr w6 ⟨rfl, hb6⟩
            have b6 : Below w5.heap.size w5 w6 := b50.trans hb6
            have HS6 : Hid ((w6.cell? ⟨w.heap.size, 2, none⟩ = some (.int .i64 k) ∧ w6.cell? ⟨w.heap.size, 3, none⟩ = some (.int .i64 s) ∧ w6.cell? ⟨w.heap.size + 1, 1, none⟩ = some (.int .i64 T.phase) ∧ w6.cell? ⟨w.heap.size + 1, 2, none⟩ = some (.bool T.fresh) ∧ w6.cell? ⟨w.heap.size + 1, 4, none⟩ = some (.slice (some ⟨bv, ov, none⟩) T.vals.length vc) ∧ w6.cell? ⟨w.heap.size + 1, 5, none⟩ = some (.slice (some ⟨bm, om, none⟩) T.mail.length mc)) ∧ w6.cell? ⟨bv, ov + c * 2, none⟩ = some (.int .i64 x.1) ∧ w6.cell? ⟨bv, ov + c * 2 + 1, none⟩ = some (.int .i64 x.2) ∧ w6.cell? ⟨bm, om + c, none⟩ = some (.slice ua l.length uc)) := KEEP.out w6 (.of b6)
            refine ⟨HS6.out, ?_⟩
            simp only [Act.put, List.setIfInBounds_toArray, List.set_cons_zero, List.set_cons_succ]
            refine takeH (i := 22) (v := .tuple #[.agg #[.int .i64 R1, .int .i64 R2], .bool R3, .int .i64 0]) (d := 76) rfl rfl (by as_aux_lemma => kernel_rfl) (by as_aux_lemma => kernel_rfl) (by as_aux_lemma => kernel_rfl) (fun _ _ _ h => h) (by rfl) (fun V hV => by obtain ⟨⟨v1, v2, v3, v4, v5, v6⟩, v7, v8, v9⟩ := hV; go_simp) HS6.out ?_
            simp only [Act.put, List.setIfInBounds_toArray, List.set_cons_zero, List.set_cons_succ]
            refine takeH (i := 23) (v := .agg #[.int .i64 R1, .int .i64 R2]) (d := 99) rfl rfl (by as_aux_lemma => kernel_rfl) (by as_aux_lemma => kernel_rfl) (by as_aux_lemma => kernel_rfl) (fun _ _ _ h => h) (by rfl) (fun V hV => by obtain ⟨⟨v1, v2, v3, v4, v5, v6⟩, v7, v8, v9⟩ := hV; go_simp) HS6.out ?_
            simp only [Act.put, List.setIfInBounds_toArray, List.set_cons_zero, List.set_cons_succ]
            refine takeH (i := 24) (v := .bool R3) (d := 100) rfl rfl (by as_aux_lemma => kernel_rfl) (by as_aux_lemma => kernel_rfl) (by as_aux_lemma => kernel_rfl) (fun _ _ _ h => h) (by rfl) (fun V hV => by obtain ⟨⟨v1, v2, v3, v4, v5, v6⟩, v7, v8, v9⟩ := hV; go_simp) HS6.out ?_
            simp only [Act.put, List.setIfInBounds_toArray, List.set_cons_zero, List.set_cons_succ]
            refine takeH (i := 25) (v := .int .i64 0) (d := 101) rfl rfl (by as_aux_lemma => kernel_rfl) (by as_aux_lemma => kernel_rfl) (by as_aux_lemma => kernel_rfl) (fun _ _ _ h => h) (by rfl) (fun V hV => by obtain ⟨⟨v1, v2, v3, v4, v5, v6⟩, v7, v8, v9⟩ := hV; go_simp) HS6.out ?_
            simp only [Act.put, List.setIfInBounds_toArray, List.set_cons_zero, List.set_cons_succ]
            have xb6 := XB5.out.below b6 XB5.out.lt
            obtain ⟨n0, n1, n2, n3⟩ := xb6.all2
            have k7 : Kept (fun q => q = bx ∨ q = g9) w5 (put2 w6 bx (.int .i64 R1) (.int .i64 R2)) := (Kept.of b6).trans (((Kept.box _ _ _ _).trans (Kept.box _ _ _ _)).mono fun q hq => .inl hq)
            have HS7 : Hid (((put2 w6 bx (.int .i64 R1) (.int .i64 R2)).cell? ⟨w.heap.size, 2, none⟩ = some (.int .i64 k) ∧ (put2 w6 bx (.int .i64 R1) (.int .i64 R2)).cell? ⟨w.heap.size, 3, none⟩ = some (.int .i64 s) ∧ (put2 w6 bx (.int .i64 R1) (.int .i64 R2)).cell? ⟨w.heap.size + 1, 1, none⟩ = some (.int .i64 T.phase) ∧ (put2 w6 bx (.int .i64 R1) (.int .i64 R2)).cell? ⟨w.heap.size + 1, 2, none⟩ = some (.bool T.fresh) ∧ (put2 w6 bx (.int .i64 R1) (.int .i64 R2)).cell? ⟨w.heap.size + 1, 4, none⟩ = some (.slice (some ⟨bv, ov, none⟩) T.vals.length vc) ∧ (put2 w6 bx (.int .i64 R1) (.int .i64 R2)).cell? ⟨w.heap.size + 1, 5, none⟩ = some (.slice (some ⟨bm, om, none⟩) T.mail.length mc)) ∧ (put2 w6 bx (.int .i64 R1) (.int .i64 R2)).cell? ⟨bv, ov + c * 2, none⟩ = some (.int .i64 x.1) ∧ (put2 w6 bx (.int .i64 R1) (.int .i64 R2)).cell? ⟨bv, ov + c * 2 + 1, none⟩ = some (.int .i64 x.2) ∧ (put2 w6 bx (.int .i64 R1) (.int .i64 R2)).cell? ⟨bm, om + c, none⟩ = some (.slice ua l.length uc)) := KEEP.out _ k7
            have X7 : Hid (BX 53 (put2 w6 bx (.int .i64 R1) (.int .i64 R2)) bx #[.int .i64 R1, .int .i64 R2]) := xb6.put2 _ _
            have kx : Kept (fun q => q = bx) w6 (put2 w6 bx (.int .i64 R1) (.int .i64 R2)) := (Kept.box _ _ _ _).trans (Kept.box _ _ _ _)
            have O7 : Hid ((put2 w6 bx (.int .i64 R1) (.int .i64 R2)).ownsRow W0.heap.size 4 1 (.slice (some ⟨g9, 0, none⟩) m m) m ((sdR m r c).flatMap encT)) := own_off (own_below OB5.out b6 (Nat.le_refl _)) xb6 (by decide) kx
            have K7 : Hid (Kept (fun q => q = bx ∨ q = g9) w5 (put2 w6 bx (.int .i64 R1) (.int .i64 R2))) := k7
            refine oneH (i := 26) rfl (by as_aux_lemma => kernel_rfl) rfl (op_skip (w' := (put2 w6 bx (.int .i64 R1) (.int .i64 R2))) rfl (by unfold put2; go_simp) ⟨HS7.out, ?_⟩)
            clear n0 n1 n2 n3 k7 xb6 HS6 b6 hb6 kx
            generalize put2 w6 bx (.int .i64 R1) (.int .i64 R2) = w7 at *
            refine takeH (i := 27) (v := .pointer (some ⟨g9, c, none⟩)) (d := 102) rfl rfl (by as_aux_lemma => kernel_rfl) (by as_aux_lemma => kernel_rfl) (by as_aux_lemma => kernel_rfl) (fun _ _ _ h => h) (by rfl) (fun V hV => by obtain ⟨⟨v1, v2, v3, v4, v5, v6⟩, v7, v8, v9⟩ := hV; go_simp) HS7.out ?_
            simp only [Act.put, List.setIfInBounds_toArray, List.set_cons_zero, List.set_cons_succ]
            have f7 := frozenK O7.out c
            have z7 := own_atB O7.out (List.getElem?_eq_getElem hcs)
            have k8 : Kept (fun q => q = bx ∨ q = g9) w5 (w7.setCell ⟨g9, c, none⟩ (.bool R3)) := K7.out.trans ((Kept.box _ _ _ _).mono fun q hq => .inr hq)
            have HS8 : Hid (((w7.setCell ⟨g9, c, none⟩ (.bool R3)).cell? ⟨w.heap.size, 2, none⟩ = some (.int .i64 k) ∧ (w7.setCell ⟨g9, c, none⟩ (.bool R3)).cell? ⟨w.heap.size, 3, none⟩ = some (.int .i64 s) ∧ (w7.setCell ⟨g9, c, none⟩ (.bool R3)).cell? ⟨w.heap.size + 1, 1, none⟩ = some (.int .i64 T.phase) ∧ (w7.setCell ⟨g9, c, none⟩ (.bool R3)).cell? ⟨w.heap.size + 1, 2, none⟩ = some (.bool T.fresh) ∧ (w7.setCell ⟨g9, c, none⟩ (.bool R3)).cell? ⟨w.heap.size + 1, 4, none⟩ = some (.slice (some ⟨bv, ov, none⟩) T.vals.length vc) ∧ (w7.setCell ⟨g9, c, none⟩ (.bool R3)).cell? ⟨w.heap.size + 1, 5, none⟩ = some (.slice (some ⟨bm, om, none⟩) T.mail.length mc)) ∧ (w7.setCell ⟨g9, c, none⟩ (.bool R3)).cell? ⟨bv, ov + c * 2, none⟩ = some (.int .i64 x.1) ∧ (w7.setCell ⟨g9, c, none⟩ (.bool R3)).cell? ⟨bv, ov + c * 2 + 1, none⟩ = some (.int .i64 x.2) ∧ (w7.setCell ⟨g9, c, none⟩ (.bool R3)).cell? ⟨bm, om + c, none⟩ = some (.slice ua l.length uc)) := KEEP.out _ k8
            have X8 : Hid (BX 53 (w7.setCell ⟨g9, c, none⟩ (.bool R3)) bx #[.int .i64 R1, .int .i64 R2]) := X7.out.other hgx
            have O8 : Hid ((w7.setCell ⟨g9, c, none⟩ (.bool R3)).ownsRow W0.heap.size 4 1 (.slice (some ⟨g9, 0, none⟩) m m) m ((sdR m r (c + 1)).flatMap encT)) := by
              show World.ownsRow _ _ _ _ _ _ _
              rw [HBN.out, HRC.out]; exact own_setB O7.out
            have K8 : Hid (Kept (fun q => q = bx ∨ q = g9) w5 (w7.setCell ⟨g9, c, none⟩ (.bool R3))) := k8
            refine oneH (i := 28) rfl (by as_aux_lemma => kernel_rfl) rfl (op_skip (w' := (w7.setCell ⟨g9, c, none⟩ (.bool R3))) rfl (by go_simp) ⟨HS8.out, ?_⟩)
            clear f7 z7 k8 HS7 X7 O7 K7
            generalize w7.setCell ⟨g9, c, none⟩ (.bool R3) = w8 at *
            refine wpAnyH_done (by as_aux_lemma => kernel_rfl) ?_ _
            clear HS8 HS0 KEEP b50
            have hXG : Hid (∀ (Y : Obj) (w' : World), (w8.alloc Y).grownBy w' (Value.ownBlock (.slice ya yn yc)) → BX 53 w' bx #[.int .i64 R1, .int .i64 R2]) := fun Y w' hg => by
              have hx9 := X8.out.below (below_alloc w8 Y) X8.out.lt
              refine (hg.block bx hx9.lt fun e => ?_).trans hx9
              have hq := HQ.out bx e.symm
              omega
            have AB8 : Below W0.heap.size W0 w8 := AB5.out.trans (K8.out.below hs5 (fun q hq => by omega))
            have NB8 : BX 42 w8 b8 #[.int .i64 (T.step + 1), .int .i64 T.phase, .bool false, .bool false, .slice ya yn yc, .slice none 0 0] := NB5.out.kept K8.out (by omega)
            have OV8 : Hid (w8.ownsRow W0.heap.size 53 2 (.slice ya yn yc) ((valsR m r).take c).length (((valsR m r).take c).flatMap encM)) := K8.out.own OV5.out (fun q hq hs => by
              rcases hs with e | e
              · have := HQ.out q hq
                omega
              · obtain ⟨cur, hc⟩ := own_curF OB5.out
                exact own_block OV5.out hq hc (by decide) e)
            have NB8H : Hid (BX 42 w8 b8 #[.int .i64 (T.step + 1), .int .i64 T.phase, .bool false, .bool false, .slice ya yn yc, .slice none 0 0]) := NB8
            have AB8H : Hid (Below W0.heap.size W0 w8) := AB8
            obtain ⟨⟨n0, n1, n2, n3, n4, n5⟩, m0, m1, m2, m3, m4, m5⟩ := NB8.all6
            obtain ⟨x0, x1, _⟩ := X8.out.all2
            have hb8l := NB8.lt
            have hxl := X8.out.lt
            have hs8 := AB8.size
            have y4 : ∀ Y, (w8.alloc Y).cell? ⟨b8, 4, none⟩ = some (.slice ya yn yc) := fun Y => ((below_alloc w8 Y).cell (p := ⟨b8, 4, none⟩) hb8l).trans n4
            clear AB8 NB8
            generalize hfl : (valsR m r).take c = fl at *
            go_wp2_with (at_builtin; refine wpList_append_newK kV rfl _ _ rfl W0.heap.size _ fl rfl (OV8.out.alloc _) _ (R1, R2) rfl #[.int .i64 R1, .int .i64 R2] rfl (0, 0) (heap_alloc_new _ _) (by simp only [kV]; omega) (by unfold maxLen; omega) (by simp; omega) ?_)
            intro g2 c2 w10 ho2 hb2 hgr2
            have AB10 : Below W0.heap.size W0 w10 := (AB8H.out.alloc hs8 _).trans hb2
            have NB10 : BX 42 w10 b8 #[.int .i64 (T.step + 1), .int .i64 T.phase, .bool false, .bool false, .slice ya yn yc, .slice none 0 0] := BX.grown (NB8H.out.below (below_alloc _ _) hb8l) (OV8.out.alloc _) (by decide) hgr2
            have X10 : BX 53 w10 bx #[.int .i64 R1, .int .i64 R2] := hXG.out _ _ hgr2
            have OB10 : w10.ownsRow W0.heap.size 4 1 (.slice (some ⟨g9, 0, none⟩) m m) m ((sdR m r (c + 1)).flatMap encT) := (O8.out.alloc _).kept hgr2 (own_apart O8.out OV8.out (by decide))
            have NB11 : Hid (BX 42 (w10.setCell ⟨b8, 4, none⟩ (.slice (some ⟨g2, 0, none⟩) (fl.length + 1) c2)) b8 #[.int .i64 (T.step + 1), .int .i64 T.phase, .bool false, .bool false, .slice (some ⟨g2, 0, none⟩) (fl.length + 1) c2, .slice none 0 0]) := NB10.set 4 _
            have OV11 : Hid ((w10.setCell ⟨b8, 4, none⟩ (.slice (some ⟨g2, 0, none⟩) (fl.length + 1) c2)).ownsRow W0.heap.size 53 2 (.slice (some ⟨g2, 0, none⟩) (fl.length + 1) c2) ((valsR m r).take (c + 1)).length (((valsR m r).take (c + 1)).flatMap encM)) := by
              show World.ownsRow _ _ _ _ _ _ _
              rw [HVN.out, flat_snoc, List.length_append]
              exact NB10.own ho2 (by decide)
            have OB11 : Hid ((w10.setCell ⟨b8, 4, none⟩ (.slice (some ⟨g2, 0, none⟩) (fl.length + 1) c2)).ownsRow W0.heap.size 4 1 (.slice (some ⟨g9, 0, none⟩) m m) m ((sdR m r (c + 1)).flatMap encT)) := NB10.own OB10 (by decide)
            have AB11 : Hid (Below W0.heap.size W0 (w10.setCell ⟨b8, 4, none⟩ (.slice (some ⟨g2, 0, none⟩) (fl.length + 1) c2))) := AB10.setCell (p := ⟨b8, 4, none⟩) (by show W0.heap.size ≤ b8; omega) _
            have X11 : BX 53 (w10.setCell ⟨b8, 4, none⟩ (.slice (some ⟨g2, 0, none⟩) (fl.length + 1) c2)) bx #[.int .i64 R1, .int .i64 R2] := X10.other (by omega)
            obtain ⟨⟨p0, p1, p2, p3, p4, p5⟩, l0, l1, l2, l3, l4, l5⟩ := NB10.all6
            obtain ⟨i0, i1, _⟩ := X11.all2
            clear n0 n1 n2 n3 n4 n5 m0 m1 m2 m3 m4 m5 x0 x1 y4 ho2 hb2 hgr2 AB10 NB10 X10 OB10 X11
            generalize hop : openV fl = op at *
            cases op
            · have HOE : Hid (openV ((valsR m r).take (c + 1)) = decide (R2 < 0)) := by show openV _ = _; rw [HVN.out, openV_snoc, hop]; rfl
              go_wp2_with fail
              go_roundw
              case rel => exact ⟨c + 1, _, by omega, by go_num, by rw [HOE.out], ⟨_, _, _, rfl⟩, NB11.out, OV11.out, OB11.out, AB11.out⟩
              case measure => simp [intOf]; omega
            · have HOE : Hid (openV ((valsR m r).take (c + 1)) = true) := by show openV _ = _; rw [HVN.out, openV_snoc, hop]; rfl
              go_wp2_with fail
              go_roundw
              case rel => exact ⟨c + 1, _, by omega, by go_num, by rw [HOE.out], ⟨_, _, _, rfl⟩, NB11.out, OV11.out, OB11.out, AB11.out⟩
              case measure => simp [intOf]; omega
        · as_aux_lemma =>
            have HRV : Hid (r (c : Int) = ((x.1, x.2), false)) := HN1.out hfr hll
            have HVN : Hid ((valsR m r).take (c + 1) = (valsR m r).take c ++ [(x.1, x.2)]) := by show _ = _; rw [HVN0.out, HRV.out]
            have w5k : Hid (Kept (fun q => q = bx ∨ q = g9) w5 w5) := Kept.refl _ _
            have K8 := w5k
            have X8 := XB5
            have O8 : Hid (w5.ownsRow W0.heap.size 4 1 (.slice (some ⟨g9, 0, none⟩) m m) m ((sdR m r (c + 1)).flatMap encT)) := by
              show World.ownsRow _ _ _ _ _ _ _
              rw [HBK.out (by rw [HRV.out])]; exact OB5.out
            rw [hfr] at c2
            have t0 : ¬ (0 : Int) < (l.length : Int) := by omega
            clear hfr w5k
            go_upto_region 20 with fail
            clear c0 c1 c2 c3 c4 c5
            have hXG : Hid (∀ (Y : Obj) (w' : World), (w5.alloc Y).grownBy w' (Value.ownBlock (.slice ya yn yc)) → BX 53 w' bx #[.int .i64 x.1, .int .i64 x.2]) := fun Y w' hg => by
              have hx9 := X8.out.below (below_alloc w5 Y) X8.out.lt
              refine (hg.block bx hx9.lt fun e => ?_).trans hx9
              have hq := HQ.out bx e.symm
              omega
            have AB8 : Below W0.heap.size W0 w5 := AB5.out.trans (K8.out.below hs5 (fun q hq => by omega))
            have NB8 : BX 42 w5 b8 #[.int .i64 (T.step + 1), .int .i64 T.phase, .bool false, .bool false, .slice ya yn yc, .slice none 0 0] := NB5.out.kept K8.out (by omega)
            have OV8 : Hid (w5.ownsRow W0.heap.size 53 2 (.slice ya yn yc) ((valsR m r).take c).length (((valsR m r).take c).flatMap encM)) := K8.out.own OV5.out (fun q hq hs => by
              rcases hs with e | e
              · have := HQ.out q hq
                omega
              · obtain ⟨cur, hc⟩ := own_curF OB5.out
                exact own_block OV5.out hq hc (by decide) e)
            have NB8H : Hid (BX 42 w5 b8 #[.int .i64 (T.step + 1), .int .i64 T.phase, .bool false, .bool false, .slice ya yn yc, .slice none 0 0]) := NB8
            have AB8H : Hid (Below W0.heap.size W0 w5) := AB8
            obtain ⟨⟨n0, n1, n2, n3, n4, n5⟩, m0, m1, m2, m3, m4, m5⟩ := NB8.all6
            obtain ⟨x0, x1, _⟩ := X8.out.all2
            have hb8l := NB8.lt
            have hxl := X8.out.lt
            have hs8 := AB8.size
            have y4 : ∀ Y, (w5.alloc Y).cell? ⟨b8, 4, none⟩ = some (.slice ya yn yc) := fun Y => ((below_alloc w5 Y).cell (p := ⟨b8, 4, none⟩) hb8l).trans n4
            clear AB8 NB8
            generalize hfl : (valsR m r).take c = fl at *
            go_wp2_with (at_builtin; refine wpList_append_newK kV rfl _ _ rfl W0.heap.size _ fl rfl (OV8.out.alloc _) _ (x.1, x.2) rfl #[.int .i64 x.1, .int .i64 x.2] rfl (0, 0) (heap_alloc_new _ _) (by simp only [kV]; omega) (by unfold maxLen; omega) (by simp; omega) ?_)
            intro g2 c2 w10 ho2 hb2 hgr2
            have AB10 : Below W0.heap.size W0 w10 := (AB8H.out.alloc hs8 _).trans hb2
            have NB10 : BX 42 w10 b8 #[.int .i64 (T.step + 1), .int .i64 T.phase, .bool false, .bool false, .slice ya yn yc, .slice none 0 0] := BX.grown (NB8H.out.below (below_alloc _ _) hb8l) (OV8.out.alloc _) (by decide) hgr2
            have X10 : BX 53 w10 bx #[.int .i64 x.1, .int .i64 x.2] := hXG.out _ _ hgr2
            have OB10 : w10.ownsRow W0.heap.size 4 1 (.slice (some ⟨g9, 0, none⟩) m m) m ((sdR m r (c + 1)).flatMap encT) := (O8.out.alloc _).kept hgr2 (own_apart O8.out OV8.out (by decide))
            have NB11 : Hid (BX 42 (w10.setCell ⟨b8, 4, none⟩ (.slice (some ⟨g2, 0, none⟩) (fl.length + 1) c2)) b8 #[.int .i64 (T.step + 1), .int .i64 T.phase, .bool false, .bool false, .slice (some ⟨g2, 0, none⟩) (fl.length + 1) c2, .slice none 0 0]) := NB10.set 4 _
            have OV11 : Hid ((w10.setCell ⟨b8, 4, none⟩ (.slice (some ⟨g2, 0, none⟩) (fl.length + 1) c2)).ownsRow W0.heap.size 53 2 (.slice (some ⟨g2, 0, none⟩) (fl.length + 1) c2) ((valsR m r).take (c + 1)).length (((valsR m r).take (c + 1)).flatMap encM)) := by
              show World.ownsRow _ _ _ _ _ _ _
              rw [HVN.out, flat_snoc, List.length_append]
              exact NB10.own ho2 (by decide)
            have OB11 : Hid ((w10.setCell ⟨b8, 4, none⟩ (.slice (some ⟨g2, 0, none⟩) (fl.length + 1) c2)).ownsRow W0.heap.size 4 1 (.slice (some ⟨g9, 0, none⟩) m m) m ((sdR m r (c + 1)).flatMap encT)) := NB10.own OB10 (by decide)
            have AB11 : Hid (Below W0.heap.size W0 (w10.setCell ⟨b8, 4, none⟩ (.slice (some ⟨g2, 0, none⟩) (fl.length + 1) c2))) := AB10.setCell (p := ⟨b8, 4, none⟩) (by show W0.heap.size ≤ b8; omega) _
            have X11 : BX 53 (w10.setCell ⟨b8, 4, none⟩ (.slice (some ⟨g2, 0, none⟩) (fl.length + 1) c2)) bx #[.int .i64 x.1, .int .i64 x.2] := X10.other (by omega)
            obtain ⟨⟨p0, p1, p2, p3, p4, p5⟩, l0, l1, l2, l3, l4, l5⟩ := NB10.all6
            obtain ⟨i0, i1, _⟩ := X11.all2
            clear n0 n1 n2 n3 n4 n5 m0 m1 m2 m3 m4 m5 x0 x1 y4 ho2 hb2 hgr2 AB10 NB10 X10 OB10 X11
            generalize hop : openV fl = op at *
            cases op
            · have HOE : Hid (openV ((valsR m r).take (c + 1)) = decide (x.2 < 0)) := by show openV _ = _; rw [HVN.out, openV_snoc, hop]; rfl
              go_wp2_with fail
              go_roundw
              case rel => exact ⟨c + 1, _, by omega, by go_num, by rw [HOE.out], ⟨_, _, _, rfl⟩, NB11.out, OV11.out, OB11.out, AB11.out⟩
              case measure => simp [intOf]; omega
            · have HOE : Hid (openV ((valsR m r).take (c + 1)) = true) := by show openV _ = _; rw [HVN.out, openV_snoc, hop]; rfl
              go_wp2_with fail
              go_roundw
              case rel => exact ⟨c + 1, _, by omega, by go_num, by rw [HOE.out], ⟨_, _, _, rfl⟩, NB11.out, OV11.out, OB11.out, AB11.out⟩
              case measure => simp [intOf]; omega
    · have ec : c = m := by omega
      have htk : (valsR m r).take c = valsR m r := List.take_of_length_le (by rw [valsR_len]; omega)
      rw [htk] at OV ⊢
      rw [ec] at OB
      have F0 : Hid (FlI W0 m r (T.step + 1) T.phase b8 g9 (.slice ya yn yc) (.slice none 0 0) ((mailR m j r es).take 0) wr) := ⟨NB.out, by have := OV.out; rw [valsR_len] at this; exact this, OB.out, OwnLi.nil _ _, AB.out⟩
      obtain ⟨Q1, T1, _, _⟩ := HK.out _ AB.out
      obtain ⟨q0, q1, q2, q3⟩ := Q1.all4
      obtain ⟨⟨c0, c1, c2, c3, c4, c5⟩, _⟩ := T1.all6
      clear htk ec Q1 T1 NB OV OB AB HQ
      generalize hob0 : openV (valsR m r) = opn at *
      have HOPN : Hid (openV (valsR m r) = opn) := hob0
      clear hob0
      go_wp2_with fail
      refine (CWY.out _).mono ?_
      rintro e w5 ⟨rfl, hw5⟩
      replace hw5 := hw5.symm
      subst hw5
      go_wp2_with fail
      clear q0 q1 q2 q3 c0 c1 c2 c3 c4 c5
      go_loopw [16, 17] (fun t i wr => ∃ (u : Nat) (vm : Value), u ≤ m ∧ i = .int .i64 u ∧ t = .int .i64 ((manyL ((mailR m j r es).take u) : Nat) : Int) ∧ (∃ a n c, vm = .slice a n c) ∧ (∀ u' : Nat, u' < u → fitR j r es (u' : Int)) ∧ FlI W0 m r (T.step + 1) T.phase b8 g9 (.slice ya yn yc) vm ((mailR m j r es).take u) wr) (fun _ i _ => m - (intOf i).toNat)
      case atStart => exact ⟨0, _, by omega, rfl, rfl, ⟨_, _, _, rfl⟩, fun u h => by omega, F0.out⟩
      case round =>
        clear F0
        obtain ⟨u, vm', hu, rfl, rfl, ⟨za, zn, zc, rfl⟩, hfit0, hfl⟩ := hrel
        have FR : Hid (FlI W0 m r (T.step + 1) T.phase b8 g9 (.slice ya yn yc) (.slice za zn zc) ((mailR m j r es).take u) wr) := hfl
        have HFT0 : Hid (∀ u' : Nat, u' < u → fitR j r es (u' : Int)) := hfit0
        clear hfl hfit0
        by_cases hltu : u < m
        · obtain ⟨g4, c4, e5⟩ : ∃ g c, .slice (some ⟨g, 0, none⟩) m c = (Value.slice ya yn yc) := by
            rcases own_shapeK FR.out.ov with ⟨e, h0, _⟩ | ⟨g', c', e, _⟩
            · omega
            · exact ⟨g', c', e.symm⟩
          injection e5 with e5 e6 e7
          subst e5 e6 e7
          have p0 : (0 : Int) ≤ (u : Int) := by omega
          have p1 : (u : Int) < (m : Int) := by omega
          have S0 : Hid (sortN (msgs j r (es.take 0) (u : Int)) = []) := sortN_nil
          have HMU : Hid ((mailR m j r es).take (u + 1) = (mailR m j r es).take u ++ [sortN (msgs j r es (u : Int))]) := take_snoc (mailR_at hltu)
          have HMM : Hid (manyL ((mailR m j r es).take (u + 1)) = manyL ((mailR m j r es).take u) + (sortN (msgs j r es (u : Int))).length) := manyL_take (mailR_at hltu)
          have hmy : manyL ((mailR m j r es).take u) ≤ 1000000000 := by
            have h7 := manyL_most (m := (mailR m j r es).take u) (B := 1200) (fun l hl => by
              obtain ⟨i, hi, rfl⟩ := List.getElem_of_mem hl
              have hi' : i < m := by simp [mailR_len] at hi; omega
              have h8 := mailR_at (j := j) (r := r) (es := es) hi'
              rw [List.getElem_take]
              have h9 : (mailR m j r es)[i]? = some ((mailR m j r es)[i]'(by rw [mailR_len]; exact hi')) := List.getElem?_eq_getElem _
              rw [h8] at h9
              injection h9 with h9
              rw [← h9, sortN_len]
              have := msgs_most j r es (i : Int)
              have := HLE.out
              omega)
            have h10 : ((mailR m j r es).take u).length ≤ m := by simp [mailR_len]; omega
            have h11 : ((mailR m j r es).take u).length * 1200 ≤ 200 * 1200 := Nat.mul_le_mul_right _ (by omega)
            omega
          have hlm : ((mailR m j r es).take u).length ≤ 200 := by simp [mailR_len]; omega
          generalize hML : (mailR m j r es).take u = fm at *
          clear hML
          generalize hMY : manyL fm = my at *
          clear hMY
          go_wp2_with fail
          generalize hwA : wr = WA at *
          clear hwA
          go_loopw [18, 19] (fun t i wr => ∃ q : Nat, q ≤ es.length ∧ i = .int .i64 q ∧ (∃ a n c, t = .slice a n c) ∧ wr.ownsRow W0.heap.size 3 1 t (sortN (msgs j r (es.take q) (u : Int))).length ((sortN (msgs j r (es.take q) (u : Int))).flatMap encI) ∧ fitR j r (es.take q) (u : Int) ∧ FlI W0 m r (T.step + 1) T.phase b8 g9 (.slice (some ⟨g4, 0, none⟩) m c4) (.slice za zn zc) fm wr) (fun _ i _ => es.length - (intOf i).toNat)
          case atStart => exact ⟨0, by omega, rfl, ⟨_, _, _, rfl⟩, by rw [S0.out]; exact World.ownsRow_nil _ _ _ _, fun e he => by simp at he, FR.out⟩
          case round =>
            obtain ⟨i, hi, rfl, ⟨la, ln, lc, rfl⟩, hol, hfi, hfl⟩ := hrel
            have OL : Hid (wr.ownsRow W0.heap.size 3 1 (.slice la ln lc) (sortN (msgs j r (es.take i) (u : Int))).length ((sortN (msgs j r (es.take i) (u : Int))).flatMap encI)) := hol
            have FI : Hid (fitR j r (es.take i) (u : Int)) := hfi
            have FR3 : Hid (FlI W0 m r (T.step + 1) T.phase b8 g9 (.slice (some ⟨g4, 0, none⟩) m c4) (.slice za zn zc) fm wr) := hfl
            have HLL0 : Hid ((sortN (msgs j r (es.take i) (u : Int))).length ≤ 5000) := by
              show _ ≤ _
              rw [sortN_len]
              have h1 := msgs_most j r (es.take i) (u : Int)
              have h2 : (es.take i).length ≤ es.length := by simp; omega
              have := HLE.out
              omega
            have HLL1 : Hid ((sortN (msgs j r (es.take i) (u : Int))).length ≤ 1200) := by
              show _ ≤ _
              rw [sortN_len]
              have h1 := msgs_most j r (es.take i) (u : Int)
              have h2 : (es.take i).length ≤ es.length := by simp; omega
              have := HLE.out
              omega
            clear hol hfi hfl FR
            by_cases hlti : i < es.length
            · obtain ⟨b1, o1, cap1, e1, _, _, lt1, hv1⟩ := EdR.at (R0.out _ FR3.out.bl).1 (by omega)
              injection e1 with e1 _ e3
              subst e1 e3
              obtain ⟨x, hx⟩ := getE hlti
              obtain ⟨d1, d2, d3⟩ := hv1 i x hx
              have hin := HG0.out x (List.mem_of_getElem? hx)
              have hw3 := HWT.out x (List.mem_of_getElem? hx)
              obtain ⟨x1, x2, x3⟩ := x
              obtain ⟨x1, rfl⟩ : ∃ n : Nat, x1 = n := ⟨x1.toNat, by simp only at hin; omega⟩
              obtain ⟨x2, rfl⟩ : ∃ n : Nat, x2 = n := ⟨x2.toNat, by simp only at hin; omega⟩
              simp only at hin hw3 d1 d2 d3
              have HX : Hid (es[i]? = some ((x1 : Int), (x2 : Int), x3)) := hx
              have HSE : Hid (sortN (msgs j r (es.take (i + 1)) (u : Int)) = (if inM j r (u : Int) ((x1 : Int), (x2 : Int), x3) then insN (if outM j r (u : Int) ((x1 : Int), (x2 : Int), x3) then insN (sortN (msgs j r (es.take i) (u : Int))) (sayJ j (r (x1 : Int)).1.1 x3) else sortN (msgs j r (es.take i) (u : Int))) (sayJ j (r (x2 : Int)).1.1 x3) else (if outM j r (u : Int) ((x1 : Int), (x2 : Int), x3) then insN (sortN (msgs j r (es.take i) (u : Int))) (sayJ j (r (x1 : Int)).1.1 x3) else sortN (msgs j r (es.take i) (u : Int))))) := by
                show _ = _
                rw [take_snoc hx]
                exact sort_edge j r (es.take i) ((x1 : Int), (x2 : Int), x3) (u : Int)
              have HFN : Hid ((outM j r (u : Int) ((x1 : Int), (x2 : Int), x3) = true → sayJ j (r (x1 : Int)).1.1 x3 ≤ Jb.top j) → fitR j r (es.take (i + 1)) (u : Int)) := fun g e he ho => by
                rw [take_snoc hx] at he
                rcases List.mem_append.1 he with he | he
                · exact FI.out e he ho
                · simp only [List.mem_cons, List.not_mem_nil, or_false] at he
                  subst he
                  exact g ho
              have p2 : (0 : Int) ≤ (i : Int) := by omega
              have p3 : (i : Int) < (es.length : Int) := by omega
              have p4 : (0 : Int) ≤ (x1 : Int) := by omega
              have p5 : (x1 : Int) < (m : Int) := by omega
              have p6 : (0 : Int) ≤ (x2 : Int) := by omega
              have p7 : (x2 : Int) < (m : Int) := by omega
              have HSAID2 : Hid (∀ (f : Nat) (y1 y2 : Int), f < m → r (f : Int) = ((y1, y2), true) → _) := fun f y1 y2 hf hr => HSAID.out f y1 y2 x3 hf hw3 hr
              have W6 : Hid (FlI W0 m r (T.step + 1) T.phase b8 g9 (.slice (some ⟨g4, 0, none⟩) m c4) (.slice za zn zc) fm (wr.alloc (.cells #[.int .i64 (x1 : Int), .int .i64 (x2 : Int), .int .i64 x3] 61)) ∧ BX 61 (wr.alloc (.cells #[.int .i64 (x1 : Int), .int .i64 (x2 : Int), .int .i64 x3] 61)) wr.heap.size #[.int .i64 (x1 : Int), .int .i64 (x2 : Int), .int .i64 x3] ∧ (wr.alloc (.cells #[.int .i64 (x1 : Int), .int .i64 (x2 : Int), .int .i64 x3] 61)).ownsRow W0.heap.size 3 1 (.slice la ln lc) (sortN (msgs j r (es.take i) (u : Int))).length ((sortN (msgs j r (es.take i) (u : Int))).flatMap encI)) := ⟨FR3.out.below (below_alloc _ _), BX.new _ _ _, OL.out.alloc _⟩
              obtain ⟨Q6, T6, _, _⟩ := HK.out _ FR3.out.bl
              obtain ⟨q0, q1, q2, q3⟩ := Q6.all4
              have esd : ∀ args w, (callFunc 30 args).run Try.prog w = .ok (.enter 30 args) w := enters_of Try.func30 (by as_aux_lemma => kernel_rfl) rfl
              clear hv1 hx OL Q6 T6 FI HSAID
              have HSAID := HSAID2
              clear HSAID2
              go_upto_region 32 with fail
              generalize wr.alloc (.cells #[.int .i64 (x1 : Int), .int .i64 (x2 : Int), .int .i64 x3] 61) = w6 at *
              clear FR3 q0 q1 q2 q3 d1 d2 d3
              generalize wr.heap.size = bx at *
              obtain ⟨f6, e6, o6⟩ := W6.out
              have w6_F : Hid (FlI W0 m r (T.step + 1) T.phase b8 g9 (.slice (some ⟨g4, 0, none⟩) m c4) (.slice za zn zc) fm w6) := f6
              have w6_E : Hid (BX 61 w6 bx #[.int .i64 (x1 : Int), .int .i64 (x2 : Int), .int .i64 x3]) := e6
              have OL : Hid (w6.ownsRow W0.heap.size 3 1 (.slice la ln lc) (sortN (msgs j r (es.take i) (u : Int))).length ((sortN (msgs j r (es.take i) (u : Int))).flatMap encI)) := o6
              obtain ⟨f0, f1, f2, _⟩ := e6.all3
              clear W6 f6 e6 o6
              have HRS : Hid ((sortN (msgs j r (es.take i) (u : Int))).Pairwise fun a b => a ≤ b) := sortN_ris _
              generalize sortN (msgs j r (es.take i) (u : Int)) = L0 at *
              obtain ⟨L2, hL2⟩ : ∃ L2, (if outM j r (u : Int) ((x1 : Int), (x2 : Int), x3) then insN L0 (sayJ j (r (x1 : Int)).1.1 x3) else L0) = L2 := ⟨_, rfl⟩
              have HLT : Hid (outM j r (u : Int) ((x1 : Int), (x2 : Int), x3) = true → insN L0 (sayJ j (r (x1 : Int)).1.1 x3) = L2) := fun h => by rw [← hL2, h]; rfl
              have HLF : Hid (outM j r (u : Int) ((x1 : Int), (x2 : Int), x3) = false → L0 = L2) := fun h => by rw [← hL2, h]; rfl
              rw [hL2] at HSE
              clear hL2
              have HLL2 : Hid (L2.length ≤ 5000) := by
                show _ ≤ _
                have h1 := HLL1.out
                cases hob : outM j r (u : Int) ((x1 : Int), (x2 : Int), x3) with
                | true => rw [← HLT.out hob, insN_len _ _ HRS.out]; omega
                | false => rw [← HLF.out hob]; omega
              go_cut [156] from 156 to 156 (fun t wx => t = .bool (outM j r (u : Int) ((x1 : Int), (x2 : Int), x3)) ∧ w6 = wx)
              case first =>
                cases wo
                · have houm : outM j r (u : Int) ((x1 : Int), (x2 : Int), x3) = false := by unfold outM; rw [HWO.out]; simp
                  have HOM : Hid (Value.bool false = .bool (outM j r (u : Int) ((x1 : Int), (x2 : Int), x3))) := by show _ = _; rw [houm]
                  clear houm
                  go_wp2_with fail
                  go_meet
                  case rel => exact ⟨HOM.out, rfl⟩
                · by_cases eu2 : (x2 : Int) = (u : Int)
                  · have tu2 : ((x2 : Int) == (u : Int)) = true := by simpa using eu2
                    have EU2 : Hid ((x2 : Int) = (u : Int)) := eu2
                    clear eu2
                    obtain ⟨⟨⟨y1, y2⟩, sd⟩, hrr1⟩ : ∃ q : Ml × Bool, r (x1 : Int) = q := ⟨_, rfl⟩
                    have sb1 := w6_F.out.said (show x1 < m by omega)
                    rw [hrr1] at sb1
                    simp only at sb1
                    have HOM : Hid (Value.bool sd = .bool (outM j r (u : Int) ((x1 : Int), (x2 : Int), x3))) := by show _ = _; unfold outM; rw [HWO.out, hrr1, EU2.out]; simp
                    clear hrr1
                    go_wp2_with fail
                    go_meet
                    case rel => exact ⟨HOM.out, rfl⟩
                  · have tu2 : ((x2 : Int) == (u : Int)) = false := by simpa using eu2
                    have HOM : Hid (Value.bool false = .bool (outM j r (u : Int) ((x1 : Int), (x2 : Int), x3))) := by show _ = _; unfold outM; rw [HWO.out]; simp [tu2]
                    go_wp2_with fail
                    go_meet
                    case rel => exact ⟨HOM.out, rfl⟩
              case rest =>
              obtain ⟨rfl, rfl⟩ := hcut
              go_upto_if 156 with fail
              go_cut [18] from 156 to 156 (fun t wx => (∃ a n c, t = .slice a n c) ∧ FlI W0 m r (T.step + 1) T.phase b8 g9 (.slice (some ⟨g4, 0, none⟩) m c4) (.slice za zn zc) fm wx ∧ BX 61 wx bx #[.int .i64 (x1 : Int), .int .i64 (x2 : Int), .int .i64 x3] ∧ wx.ownsRow W0.heap.size 3 1 t L2.length (L2.flatMap encI) ∧ (outM j r (u : Int) ((x1 : Int), (x2 : Int), x3) = true → sayJ j (r (x1 : Int)).1.1 x3 ≤ Jb.top j))
              case first =>
                rcases Bool.eq_false_or_eq_true (outM j r (u : Int) ((x1 : Int), (x2 : Int), x3)) with hob | hob
                · have hob2 := hob
                  have HOB : Hid (outM j r (u : Int) ((x1 : Int), (x2 : Int), x3) = true) := hob
                  unfold outM at hob2
                  simp only [Bool.and_eq_true, beq_iff_eq] at hob2
                  have EU2 : Hid ((x2 : Int) = (u : Int)) := hob2.1.2
                  obtain ⟨⟨⟨y1, y2⟩, sd⟩, hrr1⟩ : ∃ q : Ml × Bool, r (x1 : Int) = q := ⟨_, rfl⟩
                  have hsd : sd = true := by have := hob2.2; rw [hrr1] at this; exact this
                  subst hsd
                  rw [hob]
                  clear hob2 hob
                  have hr_x1 := hrr1
                  clear hrr1
                  have HSD : Hid (∀ X, Calls Try.prog 30 #[.int .i64 k, .agg #[.int .i64 y1, .int .i64 y2], .int .i64 T.phase, .int .i64 x3] X fun e w' => ∃ v, e = .returned v ∧ (v = .tuple #[.int .i64 (if sayJ j y1 x3 ≤ Jb.top j then (sayJ j y1 x3, (0 : Int)) else (0, 6)).1, .int .i64 (if sayJ j y1 x3 ≤ Jb.top j then (sayJ j y1 x3, (0 : Int)) else (0, 6)).2] ∧ Below X.heap.size X w')) := fun X => HSAID.out x1 y1 y2 (by omega) hr_x1 X
                  have HSE2 : Hid (sayJ j (r (x1 : Int)).1.1 x3 = sayJ j y1 x3) := by show _ = _; rw [hr_x1]
                  obtain ⟨⟨q1, q2⟩, hq⟩ : ∃ q : Int × Int, (if sayJ j y1 x3 ≤ Jb.top j then (sayJ j y1 x3, (0 : Int)) else (0, 6)) = q := ⟨_, rfl⟩
                  rw [hq] at HSD
                  simp only at HSD
                  have HQ : Hid ((if sayJ j y1 x3 ≤ Jb.top j then (sayJ j y1 x3, (0 : Int)) else (0, 6)) = (q1, q2)) := hq
                  clear hq
                  go_upto_region 33 with fail
                  have KSAY : Hid (∀ V, Below w6.heap.size w6 V → (V.cell? ⟨w.heap.size, 2, none⟩ = some (.int .i64 k) ∧ V.cell? ⟨w.heap.size + 1, 1, none⟩ = some (.int .i64 T.phase) ∧ V.cell? ⟨b8, 4, none⟩ = some (.slice (some ⟨g4, 0, none⟩) m c4) ∧ V.cell? ⟨bx, 0, none⟩ = some (.int .i64 (x1 : Int)) ∧ V.cell? ⟨bx, 2, none⟩ = some (.int .i64 x3) ∧ V.cell? ⟨g4, x1 * 2, none⟩ = some (.int .i64 y1) ∧ V.cell? ⟨g4, x1 * 2 + 1, none⟩ = some (.int .i64 y2))) := fun V hV => by
                    have f1 := w6_F.out.below hV
                    obtain ⟨Q4, T4, _, _⟩ := HK.out V f1.bl
                    obtain ⟨_, _, j2, _⟩ := Q4.all4
                    obtain ⟨⟨_, t1, _⟩, _⟩ := T4.all6
                    obtain ⟨⟨_, _, _, _, n4, _⟩, _⟩ := f1.nb.all6
                    obtain ⟨e0, e1, e2, _⟩ := (w6_E.out.below hV w6_E.out.lt).all3
                    obtain ⟨z0, z1⟩ := own_atV f1.ov (valsR_at (r := r) (show x1 < m by omega))
                    rw [hr_x1] at z0 z1
                    exact ⟨j2, t1, n4, e0, e2, z0, z1⟩
                  have b_wa : Below w6.heap.size w6 w6.drew := (Below.refl _ _).drew
                  have KS : Hid (∀ V, Below w6.heap.size w6 V → (V.cell? ⟨w.heap.size, 2, none⟩ = some (.int .i64 k) ∧ V.cell? ⟨w.heap.size + 1, 1, none⟩ = some (.int .i64 T.phase) ∧ V.cell? ⟨b8, 4, none⟩ = some (.slice (some ⟨g4, 0, none⟩) m c4) ∧ V.cell? ⟨bx, 0, none⟩ = some (.int .i64 (x1 : Int)) ∧ V.cell? ⟨bx, 2, none⟩ = some (.int .i64 x3) ∧ V.cell? ⟨g4, x1 * 2, none⟩ = some (.int .i64 y1) ∧ V.cell? ⟨g4, x1 * 2 + 1, none⟩ = some (.int .i64 y2))) := fun V hV => KSAY.out V hV
                  have HS0 : Hid (w6.drew.cell? ⟨w.heap.size, 2, none⟩ = some (.int .i64 k) ∧ w6.drew.cell? ⟨w.heap.size + 1, 1, none⟩ = some (.int .i64 T.phase) ∧ w6.drew.cell? ⟨b8, 4, none⟩ = some (.slice (some ⟨g4, 0, none⟩) m c4) ∧ w6.drew.cell? ⟨bx, 0, none⟩ = some (.int .i64 (x1 : Int)) ∧ w6.drew.cell? ⟨bx, 2, none⟩ = some (.int .i64 x3) ∧ w6.drew.cell? ⟨g4, x1 * 2, none⟩ = some (.int .i64 y1) ∧ w6.drew.cell? ⟨g4, x1 * 2 + 1, none⟩ = some (.int .i64 y2)) := KS.out w6.drew b_wa
                  refine wp_region_held (S := fun V => (V.cell? ⟨w.heap.size, 2, none⟩ = some (.int .i64 k) ∧ V.cell? ⟨w.heap.size + 1, 1, none⟩ = some (.int .i64 T.phase) ∧ V.cell? ⟨b8, 4, none⟩ = some (.slice (some ⟨g4, 0, none⟩) m c4) ∧ V.cell? ⟨bx, 0, none⟩ = some (.int .i64 (x1 : Int)) ∧ V.cell? ⟨bx, 2, none⟩ = some (.int .i64 x3) ∧ V.cell? ⟨g4, x1 * 2, none⟩ = some (.int .i64 y1) ∧ V.cell? ⟨g4, x1 * 2 + 1, none⟩ = some (.int .i64 y2))) (by as_aux_lemma => kernel_rfl) ?_
                  simp only [List.size_toArray, List.length_cons, List.length_nil, Nat.reduceAdd]
                  refine takeH (i := 0) (v := .pointer (some ⟨w.heap.size, 2, none⟩)) (d := 158) rfl rfl (by as_aux_lemma => kernel_rfl) (by as_aux_lemma => kernel_rfl) (by as_aux_lemma => kernel_rfl) (fun _ _ _ h => h) (by rfl) (fun V hV => by obtain ⟨v1, v2, v3, v4, v5, v6, v7⟩ := hV; go_simp) HS0.out ?_
                  simp only [Act.put, List.setIfInBounds_toArray, List.set_cons_zero, List.set_cons_succ]
                  refine takeH (i := 1) (v := .int .i64 k) (d := 159) rfl rfl (by as_aux_lemma => kernel_rfl) (by as_aux_lemma => kernel_rfl) (by as_aux_lemma => kernel_rfl) (fun _ _ _ h => h) (by rfl) (fun V hV => by obtain ⟨v1, v2, v3, v4, v5, v6, v7⟩ := hV; go_simp) HS0.out ?_
                  simp only [Act.put, List.setIfInBounds_toArray, List.set_cons_zero, List.set_cons_succ]
                  refine takeH (i := 2) (v := .pointer (some ⟨b8, 4, none⟩)) (d := 160) rfl rfl (by as_aux_lemma => kernel_rfl) (by as_aux_lemma => kernel_rfl) (by as_aux_lemma => kernel_rfl) (fun _ _ _ h => h) (by rfl) (fun V hV => by obtain ⟨v1, v2, v3, v4, v5, v6, v7⟩ := hV; go_simp) HS0.out ?_
                  simp only [Act.put, List.setIfInBounds_toArray, List.set_cons_zero, List.set_cons_succ]
                  refine takeH (i := 3) (v := .slice (some ⟨g4, 0, none⟩) m c4) (d := 161) rfl rfl (by as_aux_lemma => kernel_rfl) (by as_aux_lemma => kernel_rfl) (by as_aux_lemma => kernel_rfl) (fun _ _ _ h => h) (by rfl) (fun V hV => by obtain ⟨v1, v2, v3, v4, v5, v6, v7⟩ := hV; go_simp) HS0.out ?_
                  simp only [Act.put, List.setIfInBounds_toArray, List.set_cons_zero, List.set_cons_succ]
                  refine takeH (i := 4) (v := .pointer (some ⟨bx, 0, none⟩)) (d := 162) rfl rfl (by as_aux_lemma => kernel_rfl) (by as_aux_lemma => kernel_rfl) (by as_aux_lemma => kernel_rfl) (fun _ _ _ h => h) (by rfl) (fun V hV => by obtain ⟨v1, v2, v3, v4, v5, v6, v7⟩ := hV; go_simp) HS0.out ?_
                  simp only [Act.put, List.setIfInBounds_toArray, List.set_cons_zero, List.set_cons_succ]
                  refine takeH (i := 5) (v := .int .i64 (x1 : Int)) (d := 163) rfl rfl (by as_aux_lemma => kernel_rfl) (by as_aux_lemma => kernel_rfl) (by as_aux_lemma => kernel_rfl) (fun _ _ _ h => h) (by rfl) (fun V hV => by obtain ⟨v1, v2, v3, v4, v5, v6, v7⟩ := hV; go_simp) HS0.out ?_
                  simp only [Act.put, List.setIfInBounds_toArray, List.set_cons_zero, List.set_cons_succ]
                  refine takeH (i := 6) (v := .pointer (some ⟨g4, x1 * 2, none⟩)) (d := 164) rfl rfl (by as_aux_lemma => kernel_rfl) (by as_aux_lemma => kernel_rfl) (by as_aux_lemma => kernel_rfl) (fun _ _ _ h => h) (by rfl) (fun V hV => by obtain ⟨v1, v2, v3, v4, v5, v6, v7⟩ := hV; go_simp) HS0.out ?_
                  simp only [Act.put, List.setIfInBounds_toArray, List.set_cons_zero, List.set_cons_succ]
                  refine takeH (i := 7) (v := .agg #[.int .i64 y1, .int .i64 y2]) (d := 165) rfl rfl (by as_aux_lemma => kernel_rfl) (by as_aux_lemma => kernel_rfl) (by as_aux_lemma => kernel_rfl) (fun _ _ _ h => h) (by rfl) (fun V hV => by obtain ⟨v1, v2, v3, v4, v5, v6, v7⟩ := hV; go_simp) HS0.out ?_
                  simp only [Act.put, List.setIfInBounds_toArray, List.set_cons_zero, List.set_cons_succ]
                  refine takeH (i := 8) (v := .pointer (some ⟨w.heap.size + 1, 1, none⟩)) (d := 166) rfl rfl (by as_aux_lemma => kernel_rfl) (by as_aux_lemma => kernel_rfl) (by as_aux_lemma => kernel_rfl) (fun _ _ _ h => h) (by rfl) (fun V hV => by obtain ⟨v1, v2, v3, v4, v5, v6, v7⟩ := hV; go_simp) HS0.out ?_
                  simp only [Act.put, List.setIfInBounds_toArray, List.set_cons_zero, List.set_cons_succ]
                  refine takeH (i := 9) (v := .int .i64 T.phase) (d := 167) rfl rfl (by as_aux_lemma => kernel_rfl) (by as_aux_lemma => kernel_rfl) (by as_aux_lemma => kernel_rfl) (fun _ _ _ h => h) (by rfl) (fun V hV => by obtain ⟨v1, v2, v3, v4, v5, v6, v7⟩ := hV; go_simp) HS0.out ?_
                  simp only [Act.put, List.setIfInBounds_toArray, List.set_cons_zero, List.set_cons_succ]
                  refine takeH (i := 10) (v := .pointer (some ⟨bx, 2, none⟩)) (d := 168) rfl rfl (by as_aux_lemma => kernel_rfl) (by as_aux_lemma => kernel_rfl) (by as_aux_lemma => kernel_rfl) (fun _ _ _ h => h) (by rfl) (fun V hV => by obtain ⟨v1, v2, v3, v4, v5, v6, v7⟩ := hV; go_simp) HS0.out ?_
                  simp only [Act.put, List.setIfInBounds_toArray, List.set_cons_zero, List.set_cons_succ]
                  refine takeH (i := 11) (v := .int .i64 x3) (d := 169) rfl rfl (by as_aux_lemma => kernel_rfl) (by as_aux_lemma => kernel_rfl) (by as_aux_lemma => kernel_rfl) (fun _ _ _ h => h) (by rfl) (fun V hV => by obtain ⟨v1, v2, v3, v4, v5, v6, v7⟩ := hV; go_simp) HS0.out ?_
                  simp only [Act.put, List.setIfInBounds_toArray, List.set_cons_zero, List.set_cons_succ]
                  refine oneH (i := 12) rfl (by as_aux_lemma => kernel_rfl) rfl (call_gets (d := 170) (f := 30) (xs := #[.tmp 159, .tmp 165, .tmp 167, .tmp 169]) (ats := #[3, 53, 3, 3]) rfl rfl esd (vs := #[.int .i64 k, .agg #[.int .i64 y1, .int .i64 y2], .int .i64 T.phase, .int .i64 x3]) (by simp [Act.eval]) (HSD.out w6.drew) ?_)
                  rintro vr wa ⟨rfl, hb_wa⟩
                  have d_wa : Below w6.heap.size w6 wa := b_wa.trans hb_wa
                  have HS4 : Hid (wa.cell? ⟨w.heap.size, 2, none⟩ = some (.int .i64 k) ∧ wa.cell? ⟨w.heap.size + 1, 1, none⟩ = some (.int .i64 T.phase) ∧ wa.cell? ⟨b8, 4, none⟩ = some (.slice (some ⟨g4, 0, none⟩) m c4) ∧ wa.cell? ⟨bx, 0, none⟩ = some (.int .i64 (x1 : Int)) ∧ wa.cell? ⟨bx, 2, none⟩ = some (.int .i64 x3) ∧ wa.cell? ⟨g4, x1 * 2, none⟩ = some (.int .i64 y1) ∧ wa.cell? ⟨g4, x1 * 2 + 1, none⟩ = some (.int .i64 y2)) := KS.out wa d_wa
                  refine ⟨HS4.out, ?_⟩
                  simp only [Act.put, List.setIfInBounds_toArray, List.set_cons_zero, List.set_cons_succ]
                  refine takeH (i := 13) (v := .tuple #[.int .i64 q1, .int .i64 q2]) (d := 157) rfl rfl (by as_aux_lemma => kernel_rfl) (by as_aux_lemma => kernel_rfl) (by as_aux_lemma => kernel_rfl) (fun _ _ _ h => h) (by rfl) (fun V hV => by obtain ⟨v1, v2, v3, v4, v5, v6, v7⟩ := hV; go_simp) HS4.out ?_
                  simp only [Act.put, List.setIfInBounds_toArray, List.set_cons_zero, List.set_cons_succ]
                  refine takeH (i := 14) (v := .int .i64 q1) (d := 171) rfl rfl (by as_aux_lemma => kernel_rfl) (by as_aux_lemma => kernel_rfl) (by as_aux_lemma => kernel_rfl) (fun _ _ _ h => h) (by rfl) (fun V hV => by obtain ⟨v1, v2, v3, v4, v5, v6, v7⟩ := hV; go_simp) HS4.out ?_
                  simp only [Act.put, List.setIfInBounds_toArray, List.set_cons_zero, List.set_cons_succ]
                  refine takeH (i := 15) (v := .int .i64 q2) (d := 172) rfl rfl (by as_aux_lemma => kernel_rfl) (by as_aux_lemma => kernel_rfl) (by as_aux_lemma => kernel_rfl) (fun _ _ _ h => h) (by rfl) (fun V hV => by obtain ⟨v1, v2, v3, v4, v5, v6, v7⟩ := hV; go_simp) HS4.out ?_
                  simp only [Act.put, List.setIfInBounds_toArray, List.set_cons_zero, List.set_cons_succ]
                  refine takeH (i := 16) (v := .int .i64 q1) (d := 21) rfl rfl (by as_aux_lemma => kernel_rfl) (by as_aux_lemma => kernel_rfl) (by as_aux_lemma => kernel_rfl) (fun _ _ _ h => h) (by rfl) (fun V hV => by obtain ⟨v1, v2, v3, v4, v5, v6, v7⟩ := hV; go_simp) HS4.out ?_
                  simp only [Act.put, List.setIfInBounds_toArray, List.set_cons_zero, List.set_cons_succ]
                  refine takeH (i := 17) (v := .int .i64 q2) (d := 22) rfl rfl (by as_aux_lemma => kernel_rfl) (by as_aux_lemma => kernel_rfl) (by as_aux_lemma => kernel_rfl) (fun _ _ _ h => h) (by rfl) (fun V hV => by obtain ⟨v1, v2, v3, v4, v5, v6, v7⟩ := hV; go_simp) HS4.out ?_
                  simp only [Act.put, List.setIfInBounds_toArray, List.set_cons_zero, List.set_cons_succ]
                  refine wpAnyH_done (by as_aux_lemma => kernel_rfl) ?_ _
                  have D_wa : Hid (Below w6.heap.size w6 wa) := d_wa
                  clear HS0 HS4 KS hb_wa d_wa b_wa KSAY
                  have wa_F : Hid (FlI W0 m r (T.step + 1) T.phase b8 g9 (.slice (some ⟨g4, 0, none⟩) m c4) (.slice za zn zc) fm wa) := w6_F.out.below D_wa.out
                  have wa_E : Hid (BX 61 wa bx #[.int .i64 (x1 : Int), .int .i64 (x2 : Int), .int .i64 x3]) := w6_E.out.below D_wa.out w6_E.out.lt
                  have OLa : Hid (InR wa (.slice la ln lc) L0) := RowK.own encI_len (own_below OL.out D_wa.out (Nat.le_refl _))
                  by_cases hfit : sayJ j y1 x3 ≤ Jb.top j
                  · rw [if_pos hfit] at HQ
                    have hq := HQ.out
                    injection hq with e5 e6
                    subst e5 e6
                    have CNI : Hid (∀ X, X = wa → _) := fun X (_ : X = wa) => numberIn_any _ L0 (sayJ j y1 x3) wa OLa.out HLL0.out
                    have FITQ : Hid (sayJ j (r (x1 : Int)).1.1 x3 ≤ Jb.top j) := by show _ ≤ _; rw [HSE2.out]; exact hfit
                    have HLQ : Hid (insN L0 (sayJ j y1 x3) = L2) := by have := HLT.out HOB.out; rw [HSE2.out] at this; exact this
                    clear HQ
                    go_wp2_with fail
                    refine (CNI.out _ rfl).mono ?_
                    rintro e wc2 ⟨nv, rfl, hon, hbn⟩
                    obtain ⟨oa, on, oc, rfl⟩ : ∃ a n c, nv = .slice a n c := by
                      rcases own_shapeK hon with ⟨e, _⟩ | ⟨g', c', e, _⟩
                      · exact ⟨_, _, _, e⟩
                      · exact ⟨_, _, _, e⟩
                    have MF : Hid (FlI W0 m r (T.step + 1) T.phase b8 g9 (.slice (some ⟨g4, 0, none⟩) m c4) (.slice za zn zc) fm wc2 ∧ BX 61 wc2 bx #[.int .i64 (x1 : Int), .int .i64 (x2 : Int), .int .i64 x3] ∧ wc2.ownsRow W0.heap.size 3 1 (.slice oa on oc) L2.length (L2.flatMap encI)) := by
                      refine ⟨wa_F.out.below hbn, wa_E.out.below hbn wa_E.out.lt, ?_⟩
                      rw [← HLQ.out]
                      exact own_lower hon wa_F.out.bl.size
                    clear hon hbn CNI OLa
                    go_wp2_with fail
                    go_meet
                    case rel => exact ⟨⟨_, _, _, rfl⟩, MF.out.1, MF.out.2.1, MF.out.2.2, fun _ => FITQ.out⟩
                  · rw [if_neg hfit] at HQ
                    have hq := HQ.out
                    injection hq with e5 e6
                    subst e5 e6
                    have HOE : overR j r es = true := over_of (List.mem_of_getElem? HX.out) HOB.out (by simp only; rw [hr_x1]; exact hfit)
                    obtain ⟨rx, hp⟩ := HNO.out _ 6 wa_F.out.bl (HOVR.out HOE)
                    have HP : Hid (StaP w R (.returned (.tuple #[.agg #[.int .i64 0, .int .i64 0, .bool false, .bool false, .slice none 0 0, .slice none 0 0], .int .i64 6])) (put6 wa (w.heap.size + 2) (.int .i64 0) (.int .i64 0) (.bool false) (.bool false) (.slice none 0 0) (.slice none 0 0))) := hp
                    have RX : Hid (BX 42 (put6 wa (w.heap.size + 2) (.int .i64 0) (.int .i64 0) (.bool false) (.bool false) (.slice none 0 0) (.slice none 0 0)) (w.heap.size + 2) #[.int .i64 0, .int .i64 0, .bool false, .bool false, .slice none 0 0, .slice none 0 0]) := rx
                    obtain ⟨_, _, Z6, _⟩ := HK.out _ wa_F.out.bl
                    obtain ⟨⟨d0, d1, d2, d3, d4, d5⟩, e0, e1, e2, e3, e4, e5⟩ := Z6.all6
                    clear hp rx Z6 HOE HQ
                    go_wp2_with fail
                    obtain ⟨⟨r0, r1, r2, r3, r4, r5⟩, _⟩ := RX.out.all6
                    unfold put6 at r0 r1 r2 r3 r4 r5
                    first
                      | exact HP.out
                      | exact bodyPost_ret (v := .tuple #[.agg #[.int .i64 0, .int .i64 0, .bool false, .bool false, .slice none 0 0, .slice none 0 0], .int .i64 6]) (by simp [results, Try.results18, go_sem, r0, r1, r2, r3, r4, r5]) rfl HP.out
                · have HOM : Hid (outM j r (u : Int) ((x1 : Int), (x2 : Int), x3) = false) := hob
                  have HMF : Hid (w6.ownsRow W0.heap.size 3 1 (.slice la ln lc) L2.length (L2.flatMap encI)) := by
                    show World.ownsRow _ _ _ _ _ _ _
                    rw [← HLF.out hob]; exact OL.out
                  rw [hob]
                  clear hob
                  go_wp2_with fail
                  go_meet
                  case rel => exact ⟨⟨_, _, _, rfl⟩, w6_F.out, w6_E.out, HMF.out, fun h => by first | cases h | (rw [HOM.out] at h; cases h)⟩
              case rest =>
              obtain ⟨⟨ka, kn, kc, rfl⟩, hfl7, hed7, hol7, hft7⟩ := hcut
              have HFT : Hid (fitR j r (es.take (i + 1)) (u : Int)) := HFN.out hft7
              clear w6_F w6_E OL f0 f1 f2 HLT HLF HRS HFN hft7
              obtain ⟨w7, hw7⟩ : ∃ w7, w7 = wc := ⟨_, rfl⟩
              rw [← hw7] at hfl7 hed7 hol7 ⊢
              clear hw7
              have w7_F : Hid (FlI W0 m r (T.step + 1) T.phase b8 g9 (.slice (some ⟨g4, 0, none⟩) m c4) (.slice za zn zc) fm w7) := hfl7
              have w7_E : Hid (BX 61 w7 bx #[.int .i64 (x1 : Int), .int .i64 (x2 : Int), .int .i64 x3]) := hed7
              have OL : Hid (w7.ownsRow W0.heap.size 3 1 (.slice ka kn kc) L2.length (L2.flatMap encI)) := hol7
              obtain ⟨f0, f1, f2, _⟩ := hed7.all3
              clear hfl7 hed7 hol7
              go_upto_region 37 with fail
              go_cut [193] from 193 to 193 (fun t wx => t = .bool (inM j r (u : Int) ((x1 : Int), (x2 : Int), x3)) ∧ w7 = wx)
              case first =>
                cases wi
                · have HOM : Hid (Value.bool false = .bool (inM j r (u : Int) ((x1 : Int), (x2 : Int), x3))) := by show _ = _; unfold inM; rw [HWI.out]; simp
                  go_wp2_with fail
                  go_meet
                  case rel => exact ⟨HOM.out, rfl⟩
                · by_cases eu1 : (x1 : Int) = (u : Int)
                  · have tu1 : ((x1 : Int) == (u : Int)) = true := by simpa using eu1
                    have EU1 : Hid ((x1 : Int) = (u : Int)) := eu1
                    clear eu1
                    obtain ⟨⟨⟨y1, y2⟩, sd⟩, hrr2⟩ : ∃ q : Ml × Bool, r (x2 : Int) = q := ⟨_, rfl⟩
                    have sb2 := w7_F.out.said (show x2 < m by omega)
                    rw [hrr2] at sb2
                    simp only at sb2
                    have HOM : Hid (Value.bool sd = .bool (inM j r (u : Int) ((x1 : Int), (x2 : Int), x3))) := by show _ = _; unfold inM; rw [HWI.out, hrr2, EU1.out]; simp
                    clear hrr2
                    go_wp2_with fail
                    go_meet
                    case rel => exact ⟨HOM.out, rfl⟩
                  · have tu1 : ((x1 : Int) == (u : Int)) = false := by simpa using eu1
                    have HOM : Hid (Value.bool false = .bool (inM j r (u : Int) ((x1 : Int), (x2 : Int), x3))) := by show _ = _; unfold inM; rw [HWI.out]; simp [tu1]
                    go_wp2_with fail
                    go_meet
                    case rel => exact ⟨HOM.out, rfl⟩
              case rest =>
              obtain ⟨rfl, rfl⟩ := hcut
              rcases Bool.eq_false_or_eq_true (inM j r (u : Int) ((x1 : Int), (x2 : Int), x3)) with hib | hib
              · have hib2 := hib
                have HIB : Hid (inM j r (u : Int) ((x1 : Int), (x2 : Int), x3) = true) := hib
                unfold inM at hib2
                simp only [Bool.and_eq_true, beq_iff_eq] at hib2
                have HWI2 : Hid ((wayJ j).2 = true) := hib2.1.1
                obtain ⟨⟨⟨y1, y2⟩, sd⟩, hrr2⟩ : ∃ q : Ml × Bool, r (x2 : Int) = q := ⟨_, rfl⟩
                have hsd : sd = true := by have := hib2.2; rw [hrr2] at this; exact this
                subst hsd
                rw [hib]
                clear hib2 hib
                have hr_x2 := hrr2
                clear hrr2
                have HSD : Hid (∀ X, Calls Try.prog 30 #[.int .i64 k, .agg #[.int .i64 y1, .int .i64 y2], .int .i64 T.phase, .int .i64 x3] X fun e w' => ∃ v, e = .returned v ∧ (v = .tuple #[.int .i64 (if sayJ j y1 x3 ≤ Jb.top j then (sayJ j y1 x3, (0 : Int)) else (0, 6)).1, .int .i64 (if sayJ j y1 x3 ≤ Jb.top j then (sayJ j y1 x3, (0 : Int)) else (0, 6)).2] ∧ Below X.heap.size X w')) := fun X => HSAID.out x2 y1 y2 (by omega) hr_x2 X
                have hfit : sayJ j y1 x3 ≤ Jb.top j := by
                  rw [way_say j HWI2.out]
                  have h2 := (valB_iff.1 (HRR.out (x2 : Int) (by omega)).1).1.2
                  rw [hr_x2] at h2
                  exact h2
                rw [if_pos hfit] at HSD
                have HSE2 : Hid (sayJ j (r (x2 : Int)).1.1 x3 = sayJ j y1 x3) := by show _ = _; rw [hr_x2]
                generalize hq1 : sayJ j y1 x3 = q1 at *
                obtain ⟨q2, hq2⟩ : ∃ q : Int, q = 0 := ⟨_, rfl⟩
                simp only at HSD
                rw [← hq2] at HSD
                go_upto_region 38 with fail
                have KSAY : Hid (∀ V, Below w7.heap.size w7 V → (V.cell? ⟨w.heap.size, 2, none⟩ = some (.int .i64 k) ∧ V.cell? ⟨w.heap.size + 1, 1, none⟩ = some (.int .i64 T.phase) ∧ V.cell? ⟨b8, 4, none⟩ = some (.slice (some ⟨g4, 0, none⟩) m c4) ∧ V.cell? ⟨bx, 1, none⟩ = some (.int .i64 (x2 : Int)) ∧ V.cell? ⟨bx, 2, none⟩ = some (.int .i64 x3) ∧ V.cell? ⟨g4, x2 * 2, none⟩ = some (.int .i64 y1) ∧ V.cell? ⟨g4, x2 * 2 + 1, none⟩ = some (.int .i64 y2))) := fun V hV => by
                  have f1 := w7_F.out.below hV
                  obtain ⟨Q4, T4, _, _⟩ := HK.out V f1.bl
                  obtain ⟨_, _, j2, _⟩ := Q4.all4
                  obtain ⟨⟨_, t1, _⟩, _⟩ := T4.all6
                  obtain ⟨⟨_, _, _, _, n4, _⟩, _⟩ := f1.nb.all6
                  obtain ⟨e0, e1, e2, _⟩ := (w7_E.out.below hV w7_E.out.lt).all3
                  obtain ⟨z0, z1⟩ := own_atV f1.ov (valsR_at (r := r) (show x2 < m by omega))
                  rw [hr_x2] at z0 z1
                  exact ⟨j2, t1, n4, e1, e2, z0, z1⟩
                have b_wb : Below w7.heap.size w7 w7.drew := (Below.refl _ _).drew
                have KS : Hid (∀ V, Below w7.heap.size w7 V → (V.cell? ⟨w.heap.size, 2, none⟩ = some (.int .i64 k) ∧ V.cell? ⟨w.heap.size + 1, 1, none⟩ = some (.int .i64 T.phase) ∧ V.cell? ⟨b8, 4, none⟩ = some (.slice (some ⟨g4, 0, none⟩) m c4) ∧ V.cell? ⟨bx, 1, none⟩ = some (.int .i64 (x2 : Int)) ∧ V.cell? ⟨bx, 2, none⟩ = some (.int .i64 x3) ∧ V.cell? ⟨g4, x2 * 2, none⟩ = some (.int .i64 y1) ∧ V.cell? ⟨g4, x2 * 2 + 1, none⟩ = some (.int .i64 y2))) := fun V hV => KSAY.out V hV
                have HS0 : Hid (w7.drew.cell? ⟨w.heap.size, 2, none⟩ = some (.int .i64 k) ∧ w7.drew.cell? ⟨w.heap.size + 1, 1, none⟩ = some (.int .i64 T.phase) ∧ w7.drew.cell? ⟨b8, 4, none⟩ = some (.slice (some ⟨g4, 0, none⟩) m c4) ∧ w7.drew.cell? ⟨bx, 1, none⟩ = some (.int .i64 (x2 : Int)) ∧ w7.drew.cell? ⟨bx, 2, none⟩ = some (.int .i64 x3) ∧ w7.drew.cell? ⟨g4, x2 * 2, none⟩ = some (.int .i64 y1) ∧ w7.drew.cell? ⟨g4, x2 * 2 + 1, none⟩ = some (.int .i64 y2)) := KS.out w7.drew b_wb
                refine wp_region_held (S := fun V => (V.cell? ⟨w.heap.size, 2, none⟩ = some (.int .i64 k) ∧ V.cell? ⟨w.heap.size + 1, 1, none⟩ = some (.int .i64 T.phase) ∧ V.cell? ⟨b8, 4, none⟩ = some (.slice (some ⟨g4, 0, none⟩) m c4) ∧ V.cell? ⟨bx, 1, none⟩ = some (.int .i64 (x2 : Int)) ∧ V.cell? ⟨bx, 2, none⟩ = some (.int .i64 x3) ∧ V.cell? ⟨g4, x2 * 2, none⟩ = some (.int .i64 y1) ∧ V.cell? ⟨g4, x2 * 2 + 1, none⟩ = some (.int .i64 y2))) (by as_aux_lemma => kernel_rfl) ?_
                simp only [List.size_toArray, List.length_cons, List.length_nil, Nat.reduceAdd]
                refine takeH (i := 0) (v := .pointer (some ⟨w.heap.size, 2, none⟩)) (d := 195) rfl rfl (by as_aux_lemma => kernel_rfl) (by as_aux_lemma => kernel_rfl) (by as_aux_lemma => kernel_rfl) (fun _ _ _ h => h) (by rfl) (fun V hV => by obtain ⟨v1, v2, v3, v4, v5, v6, v7⟩ := hV; go_simp) HS0.out ?_
                simp only [Act.put, List.setIfInBounds_toArray, List.set_cons_zero, List.set_cons_succ]
                refine takeH (i := 1) (v := .int .i64 k) (d := 196) rfl rfl (by as_aux_lemma => kernel_rfl) (by as_aux_lemma => kernel_rfl) (by as_aux_lemma => kernel_rfl) (fun _ _ _ h => h) (by rfl) (fun V hV => by obtain ⟨v1, v2, v3, v4, v5, v6, v7⟩ := hV; go_simp) HS0.out ?_
                simp only [Act.put, List.setIfInBounds_toArray, List.set_cons_zero, List.set_cons_succ]
                refine takeH (i := 2) (v := .pointer (some ⟨b8, 4, none⟩)) (d := 197) rfl rfl (by as_aux_lemma => kernel_rfl) (by as_aux_lemma => kernel_rfl) (by as_aux_lemma => kernel_rfl) (fun _ _ _ h => h) (by rfl) (fun V hV => by obtain ⟨v1, v2, v3, v4, v5, v6, v7⟩ := hV; go_simp) HS0.out ?_
                simp only [Act.put, List.setIfInBounds_toArray, List.set_cons_zero, List.set_cons_succ]
                refine takeH (i := 3) (v := .slice (some ⟨g4, 0, none⟩) m c4) (d := 198) rfl rfl (by as_aux_lemma => kernel_rfl) (by as_aux_lemma => kernel_rfl) (by as_aux_lemma => kernel_rfl) (fun _ _ _ h => h) (by rfl) (fun V hV => by obtain ⟨v1, v2, v3, v4, v5, v6, v7⟩ := hV; go_simp) HS0.out ?_
                simp only [Act.put, List.setIfInBounds_toArray, List.set_cons_zero, List.set_cons_succ]
                refine takeH (i := 4) (v := .pointer (some ⟨bx, 1, none⟩)) (d := 199) rfl rfl (by as_aux_lemma => kernel_rfl) (by as_aux_lemma => kernel_rfl) (by as_aux_lemma => kernel_rfl) (fun _ _ _ h => h) (by rfl) (fun V hV => by obtain ⟨v1, v2, v3, v4, v5, v6, v7⟩ := hV; go_simp) HS0.out ?_
                simp only [Act.put, List.setIfInBounds_toArray, List.set_cons_zero, List.set_cons_succ]
                refine takeH (i := 5) (v := .int .i64 (x2 : Int)) (d := 200) rfl rfl (by as_aux_lemma => kernel_rfl) (by as_aux_lemma => kernel_rfl) (by as_aux_lemma => kernel_rfl) (fun _ _ _ h => h) (by rfl) (fun V hV => by obtain ⟨v1, v2, v3, v4, v5, v6, v7⟩ := hV; go_simp) HS0.out ?_
                simp only [Act.put, List.setIfInBounds_toArray, List.set_cons_zero, List.set_cons_succ]
                refine takeH (i := 6) (v := .pointer (some ⟨g4, x2 * 2, none⟩)) (d := 201) rfl rfl (by as_aux_lemma => kernel_rfl) (by as_aux_lemma => kernel_rfl) (by as_aux_lemma => kernel_rfl) (fun _ _ _ h => h) (by rfl) (fun V hV => by obtain ⟨v1, v2, v3, v4, v5, v6, v7⟩ := hV; go_simp) HS0.out ?_
                simp only [Act.put, List.setIfInBounds_toArray, List.set_cons_zero, List.set_cons_succ]
                refine takeH (i := 7) (v := .agg #[.int .i64 y1, .int .i64 y2]) (d := 202) rfl rfl (by as_aux_lemma => kernel_rfl) (by as_aux_lemma => kernel_rfl) (by as_aux_lemma => kernel_rfl) (fun _ _ _ h => h) (by rfl) (fun V hV => by obtain ⟨v1, v2, v3, v4, v5, v6, v7⟩ := hV; go_simp) HS0.out ?_
                simp only [Act.put, List.setIfInBounds_toArray, List.set_cons_zero, List.set_cons_succ]
                refine takeH (i := 8) (v := .pointer (some ⟨w.heap.size + 1, 1, none⟩)) (d := 203) rfl rfl (by as_aux_lemma => kernel_rfl) (by as_aux_lemma => kernel_rfl) (by as_aux_lemma => kernel_rfl) (fun _ _ _ h => h) (by rfl) (fun V hV => by obtain ⟨v1, v2, v3, v4, v5, v6, v7⟩ := hV; go_simp) HS0.out ?_
                simp only [Act.put, List.setIfInBounds_toArray, List.set_cons_zero, List.set_cons_succ]
                refine takeH (i := 9) (v := .int .i64 T.phase) (d := 204) rfl rfl (by as_aux_lemma => kernel_rfl) (by as_aux_lemma => kernel_rfl) (by as_aux_lemma => kernel_rfl) (fun _ _ _ h => h) (by rfl) (fun V hV => by obtain ⟨v1, v2, v3, v4, v5, v6, v7⟩ := hV; go_simp) HS0.out ?_
                simp only [Act.put, List.setIfInBounds_toArray, List.set_cons_zero, List.set_cons_succ]
                refine takeH (i := 10) (v := .pointer (some ⟨bx, 2, none⟩)) (d := 205) rfl rfl (by as_aux_lemma => kernel_rfl) (by as_aux_lemma => kernel_rfl) (by as_aux_lemma => kernel_rfl) (fun _ _ _ h => h) (by rfl) (fun V hV => by obtain ⟨v1, v2, v3, v4, v5, v6, v7⟩ := hV; go_simp) HS0.out ?_
                simp only [Act.put, List.setIfInBounds_toArray, List.set_cons_zero, List.set_cons_succ]
                refine takeH (i := 11) (v := .int .i64 x3) (d := 206) rfl rfl (by as_aux_lemma => kernel_rfl) (by as_aux_lemma => kernel_rfl) (by as_aux_lemma => kernel_rfl) (fun _ _ _ h => h) (by rfl) (fun V hV => by obtain ⟨v1, v2, v3, v4, v5, v6, v7⟩ := hV; go_simp) HS0.out ?_
                simp only [Act.put, List.setIfInBounds_toArray, List.set_cons_zero, List.set_cons_succ]
                refine oneH (i := 12) rfl (by as_aux_lemma => kernel_rfl) rfl (call_gets (d := 207) (f := 30) (xs := #[.tmp 196, .tmp 202, .tmp 204, .tmp 206]) (ats := #[3, 53, 3, 3]) rfl rfl esd (vs := #[.int .i64 k, .agg #[.int .i64 y1, .int .i64 y2], .int .i64 T.phase, .int .i64 x3]) (by simp [Act.eval]) (HSD.out w7.drew) ?_)
                rintro vr wb ⟨rfl, hb_wb⟩
                have d_wb : Below w7.heap.size w7 wb := b_wb.trans hb_wb
                have HS4 : Hid (wb.cell? ⟨w.heap.size, 2, none⟩ = some (.int .i64 k) ∧ wb.cell? ⟨w.heap.size + 1, 1, none⟩ = some (.int .i64 T.phase) ∧ wb.cell? ⟨b8, 4, none⟩ = some (.slice (some ⟨g4, 0, none⟩) m c4) ∧ wb.cell? ⟨bx, 1, none⟩ = some (.int .i64 (x2 : Int)) ∧ wb.cell? ⟨bx, 2, none⟩ = some (.int .i64 x3) ∧ wb.cell? ⟨g4, x2 * 2, none⟩ = some (.int .i64 y1) ∧ wb.cell? ⟨g4, x2 * 2 + 1, none⟩ = some (.int .i64 y2)) := KS.out wb d_wb
                refine ⟨HS4.out, ?_⟩
                simp only [Act.put, List.setIfInBounds_toArray, List.set_cons_zero, List.set_cons_succ]
                refine takeH (i := 13) (v := .tuple #[.int .i64 q1, .int .i64 q2]) (d := 194) rfl rfl (by as_aux_lemma => kernel_rfl) (by as_aux_lemma => kernel_rfl) (by as_aux_lemma => kernel_rfl) (fun _ _ _ h => h) (by rfl) (fun V hV => by obtain ⟨v1, v2, v3, v4, v5, v6, v7⟩ := hV; go_simp) HS4.out ?_
                simp only [Act.put, List.setIfInBounds_toArray, List.set_cons_zero, List.set_cons_succ]
                refine takeH (i := 14) (v := .int .i64 q1) (d := 208) rfl rfl (by as_aux_lemma => kernel_rfl) (by as_aux_lemma => kernel_rfl) (by as_aux_lemma => kernel_rfl) (fun _ _ _ h => h) (by rfl) (fun V hV => by obtain ⟨v1, v2, v3, v4, v5, v6, v7⟩ := hV; go_simp) HS4.out ?_
                simp only [Act.put, List.setIfInBounds_toArray, List.set_cons_zero, List.set_cons_succ]
                refine takeH (i := 15) (v := .int .i64 q2) (d := 209) rfl rfl (by as_aux_lemma => kernel_rfl) (by as_aux_lemma => kernel_rfl) (by as_aux_lemma => kernel_rfl) (fun _ _ _ h => h) (by rfl) (fun V hV => by obtain ⟨v1, v2, v3, v4, v5, v6, v7⟩ := hV; go_simp) HS4.out ?_
                simp only [Act.put, List.setIfInBounds_toArray, List.set_cons_zero, List.set_cons_succ]
                refine takeH (i := 16) (v := .int .i64 q1) (d := 23) rfl rfl (by as_aux_lemma => kernel_rfl) (by as_aux_lemma => kernel_rfl) (by as_aux_lemma => kernel_rfl) (fun _ _ _ h => h) (by rfl) (fun V hV => by obtain ⟨v1, v2, v3, v4, v5, v6, v7⟩ := hV; go_simp) HS4.out ?_
                simp only [Act.put, List.setIfInBounds_toArray, List.set_cons_zero, List.set_cons_succ]
                refine takeH (i := 17) (v := .int .i64 q2) (d := 24) rfl rfl (by as_aux_lemma => kernel_rfl) (by as_aux_lemma => kernel_rfl) (by as_aux_lemma => kernel_rfl) (fun _ _ _ h => h) (by rfl) (fun V hV => by obtain ⟨v1, v2, v3, v4, v5, v6, v7⟩ := hV; go_simp) HS4.out ?_
                simp only [Act.put, List.setIfInBounds_toArray, List.set_cons_zero, List.set_cons_succ]
                refine wpAnyH_done (by as_aux_lemma => kernel_rfl) ?_ _
                have D_wb : Hid (Below w7.heap.size w7 wb) := d_wb
                clear HS0 HS4 KS hb_wb d_wb b_wb KSAY
                have wb_F : Hid (FlI W0 m r (T.step + 1) T.phase b8 g9 (.slice (some ⟨g4, 0, none⟩) m c4) (.slice za zn zc) fm wb) := w7_F.out.below D_wb.out
                have wb_E : Hid (BX 61 wb bx #[.int .i64 (x1 : Int), .int .i64 (x2 : Int), .int .i64 x3]) := w7_E.out.below D_wb.out w7_E.out.lt
                have OLb : Hid (InR wb (.slice ka kn kc) L2) := RowK.own encI_len (own_below OL.out D_wb.out (Nat.le_refl _))
                have CNI : Hid (∀ X, X = wb → _) := fun X (_ : X = wb) => numberIn_any _ L2 q1 wb OLb.out HLL2.out
                clear hq2 hq1
                go_wp2_with fail
                refine (CNI.out _ rfl).mono ?_
                rintro e wd ⟨nv, rfl, hon, hbn⟩
                obtain ⟨na, nn, nc, rfl⟩ : ∃ a n c, nv = .slice a n c := by
                  rcases own_shapeK hon with ⟨e, _⟩ | ⟨g', c', e, _⟩
                  · exact ⟨_, _, _, e⟩
                  · exact ⟨_, _, _, e⟩
                have wd_F : Hid (FlI W0 m r (T.step + 1) T.phase b8 g9 (.slice (some ⟨g4, 0, none⟩) m c4) (.slice za zn zc) fm wd) := wb_F.out.below hbn
                replace OL : Hid (wd.ownsRow W0.heap.size 3 1 (.slice na nn nc) (insN L2 q1).length ((insN L2 q1).flatMap encI)) := own_lower hon wb_F.out.bl.size
                have HLN : Hid (wd.ownsRow W0.heap.size 3 1 (.slice na nn nc) (sortN (msgs j r (es.take (i + 1)) (u : Int))).length ((sortN (msgs j r (es.take (i + 1)) (u : Int))).flatMap encI)) := by
                  show World.ownsRow _ _ _ _ _ _ _
                  rw [HSE.out, HIB.out, HSE2.out]
                  exact OL.out
                clear hon hbn CNI OLb
                go_wp2_with fail
                go_roundw
                case rel => exact ⟨i + 1, by omega, by go_num, ⟨_, _, _, rfl⟩, HLN.out, HFT.out, wd_F.out⟩
                case measure => simp [intOf]; omega
              · have HLN : Hid (w7.ownsRow W0.heap.size 3 1 (.slice ka kn kc) (sortN (msgs j r (es.take (i + 1)) (u : Int))).length ((sortN (msgs j r (es.take (i + 1)) (u : Int))).flatMap encI)) := by
                  show World.ownsRow _ _ _ _ _ _ _
                  rw [HSE.out, hib]
                  exact OL.out
                rw [hib]
                clear hib
                go_wp2_with fail
                go_roundw
                case rel => exact ⟨i + 1, by omega, by go_num, ⟨_, _, _, rfl⟩, HLN.out, HFT.out, w7_F.out⟩
                case measure => simp [intOf]; omega
            · have ei : es.take i = es := List.take_of_length_le (by omega)
              rw [ei] at OL FI HLL1
              have HFN : Hid (∀ u' : Nat, u' < u + 1 → fitR j r es (u' : Int)) := fun u' h => by
                by_cases e : u' = u
                · subst e; exact FI.out
                · exact HFT0.out u' (by omega)
              obtain ⟨⟨n0, n1, n2, n3, n4, n5⟩, f0, f1, f2, f3, f4, f5⟩ := FR3.out.nb.all6
              obtain ⟨Q6, _, _, _⟩ := HK.out _ FR3.out.bl
              obtain ⟨q0, q1, q2, q3⟩ := Q6.all4
              have hb8w := FR3.out.nb.lt
              have hsw := FR3.out.bl.size
              have y5 : ∀ Y, (wr.alloc Y).cell? ⟨b8, 5, none⟩ = some (.slice za zn zc) := fun Y => ((below_alloc wr Y).cell (p := ⟨b8, 5, none⟩) hb8w).trans n5
              have hlnn : (ln : Int) = ((sortN (msgs j r es (u : Int))).length : Int) := by
                obtain ⟨_, c', e, _⟩ := RowK.own encI_len OL.out
                injection e with _ e
                rw [e]
              obtain ⟨ln', hln'⟩ : ∃ q : Nat, (sortN (msgs j r es (u : Int))).length = q := ⟨_, rfl⟩
              have hLl := HLL1.out
              generalize hSL : sortN (msgs j r es (u : Int)) = SL at *
              have hln2 : ln = SL.length := by omega
              subst hln2
              have wsum : IntKind.i64.wrap ((my : Int) + (SL.length : Int)) = (my : Int) + (SL.length : Int) := wrap_id64 (by omega) (by omega)
              clear ei hSL hlnn ln' hln' Q6 FI
              go_wp2_with (at_builtin; refine wpList_append_li rfl _ _ rfl W0.heap.size _ fm rfl (FR3.out.om.below (below_alloc _ _) (Nat.le_refl _)) _ (.slice la SL.length lc) SL rfl (0, 0) (heap_alloc_new _ _) (OL.out.alloc _) (by omega) (by simp; omega) ?_)
              intro g2 c2 w10 ho2 hgr2 hli2
              obtain ⟨f10, n10⟩ := (FR3.out.below (below_alloc wr _)).app hb8 hgr2 ho2
              have F10 : Hid (FlI W0 m r (T.step + 1) T.phase b8 g9 (.slice (some ⟨g4, 0, none⟩) m c4) (.slice (some ⟨g2, 0, none⟩) (fm.length + 1) c2) ((mailR m j r es).take (u + 1)) (w10.setCell ⟨b8, 5, none⟩ (.slice (some ⟨g2, 0, none⟩) (fm.length + 1) c2))) := by
                show FlI _ _ _ _ _ _ _ _ _ _ _
                rw [HMU.out]; exact f10
              obtain ⟨⟨p0', p1', p2', p3', p4', p5'⟩, l0, l1, l2, l3, l4, l5⟩ := n10.all6
              clear n0 n1 n2 n3 n4 n5 f0 f1 f2 f3 f4 f5 q0 q1 q2 q3 y5 ho2 hgr2 hli2 f10 n10
              go_wp2_with fail
              go_roundw
              case rel => exact ⟨u + 1, _, by omega, by go_num, by rw [HMM.out]; try (congr 1; try omega), ⟨_, _, _, rfl⟩, HFN.out, F10.out⟩
              case measure => simp [intOf]; omega
        · have eu : u = m := by omega
          have htk : (mailR m j r es).take u = mailR m j r es := List.take_of_length_le (by rw [mailR_len]; omega)
          rw [htk] at FR ⊢
          have HOE : Hid (overR j r es = false) := over_no HG0.out (fun u' h => HFT0.out u' (by omega))
          have HRE : Hid (R = (0, behR j T.step T.phase (valsR m r) (mailR m j r es))) := HGOR.out HOE.out
          obtain ⟨Q6, T6, Z6, BW6⟩ := HK.out _ FR.out.bl
          have ZZ : Hid (BX 42 wr (w.heap.size + 2) #[.int .i64 0, .int .i64 0, .bool false, .bool false, .slice none 0 0, .slice none 0 0]) := Z6
          have BW : Hid (Below w.heap.size w wr) := BW6
          obtain ⟨q0, q1, q2, q3⟩ := Q6.all4
          obtain ⟨⟨c0, c1, c2, c3, c4, c5⟩, _⟩ := T6.all6
          obtain ⟨⟨n0, n1, n2, n3, n4, n5⟩, f0, f1, f2, f3, f4, f5⟩ := FR.out.nb.all6
          have hb8ne : b8 ≠ w.heap.size + 2 := by omega
          clear htk eu Q6 T6 Z6 BW6 HFT0 HGOR HOVR HOE
          have HMYX : Hid (0 < manyL (mailR m j r es) ∨ manyL (mailR m j r es) = 0) := by show _ ∨ _; omega
          by_cases hmy : 0 < manyL (mailR m j r es)
          · have HB2 : Hid (R = (0, ⟨T.step + 1, T.phase, false, false, valsR m r, mailR m j r es⟩)) := by show R = _; rw [HRE.out, beh_mailF hmy]
            have t0 : (0 : Int) < ((manyL (mailR m j r es) : Nat) : Int) := by omega
            have nx : BX 42 wr b8 #[.int .i64 (T.step + 1), .int .i64 (T.phase), .bool false, .bool false, .slice ya yn yc, .slice za zn zc] := FR.out.nb
            obtain ⟨zx, rx, hp⟩ := FR.out.fin (w := w) (R := R) (t := ⟨T.step + 1, T.phase, false, false, valsR m r, mailR m j r es⟩) (wz := wr) (Kept.refl _ _) ZZ.out BW.out (by omega) hb8ne (by omega) HB2.out rfl rfl
            simp only at rx hp
            have HP : Hid (StaP w R (.returned (.tuple #[.agg #[.int .i64 (T.step + 1), .int .i64 (T.phase), .bool false, .bool false, .slice ya yn yc, .slice za zn zc], .int .i64 0])) (put6 wr (w.heap.size + 2) (.int .i64 (T.step + 1)) (.int .i64 (T.phase)) (.bool false) (.bool false) (.slice ya yn yc) (.slice za zn zc))) := hp
            obtain ⟨⟨m0, m1, m2, m3, m4, m5⟩, _⟩ := nx.all6
            obtain ⟨⟨d0, d1, d2, d3, d4, d5⟩, e0, e1, e2, e3, e4, e5⟩ := zx.all6
            have RX : Hid (BX 42 (put6 wr (w.heap.size + 2) (.int .i64 (T.step + 1)) (.int .i64 (T.phase)) (.bool false) (.bool false) (.slice ya yn yc) (.slice za zn zc)) (w.heap.size + 2) #[.int .i64 (T.step + 1), .int .i64 (T.phase), .bool false, .bool false, .slice ya yn yc, .slice za zn zc]) := rx
            clear nx zx rx hp HB2 HRE FR ZZ BW RY RN HWK HSAID CWY HRR HOPN
            go_wp2_with fail
            obtain ⟨⟨r0, r1, r2, r3, r4, r5⟩, _⟩ := RX.out.all6
            unfold put6 at r0 r1 r2 r3 r4 r5
            first
              | exact HP.out
              | exact bodyPost_ret (v := .tuple #[.agg #[.int .i64 (T.step + 1), .int .i64 (T.phase), .bool false, .bool false, .slice ya yn yc, .slice za zn zc], .int .i64 0]) (by simp [results, Try.results18, go_sem, r0, r1, r2, r3, r4, r5]) rfl HP.out
          · have t0 : ¬ (0 : Int) < ((manyL (mailR m j r es) : Nat) : Int) := by omega
            have hkk := HKJ.out
            have hpp := HPJ.out
            rcases j with ⟨j1, j2⟩
            cases j1
            · have HB2 : Hid (R = (0, ⟨T.step + 1, T.phase, false, true, valsR m r, mailR m (false, j2) r es⟩)) := by show R = _; rw [HRE.out, beh_doneF hmy rfl]
              have t3 : (k != 3) = true := by rw [hkk]; cases j2 <;> rfl
              clear hkk hpp
              have nx : BX 42 (wr.setCell ⟨b8, 3, none⟩ (.bool true)) b8 #[.int .i64 (T.step + 1), .int .i64 (T.phase), .bool false, .bool true, .slice ya yn yc, .slice za zn zc] := FR.out.nb.set 3 _
              obtain ⟨zx, rx, hp⟩ := FR.out.fin (w := w) (R := R) (t := ⟨T.step + 1, T.phase, false, true, valsR m r, mailR m (false, j2) r es⟩) (wz := (wr.setCell ⟨b8, 3, none⟩ (.bool true))) (Kept.box _ _ _ _) ZZ.out BW.out (by omega) hb8ne (by omega) HB2.out rfl rfl
              simp only at rx hp
              have HP : Hid (StaP w R (.returned (.tuple #[.agg #[.int .i64 (T.step + 1), .int .i64 (T.phase), .bool false, .bool true, .slice ya yn yc, .slice za zn zc], .int .i64 0])) (put6 (wr.setCell ⟨b8, 3, none⟩ (.bool true)) (w.heap.size + 2) (.int .i64 (T.step + 1)) (.int .i64 (T.phase)) (.bool false) (.bool true) (.slice ya yn yc) (.slice za zn zc))) := hp
              obtain ⟨⟨m0, m1, m2, m3, m4, m5⟩, _⟩ := nx.all6
              obtain ⟨⟨d0, d1, d2, d3, d4, d5⟩, e0, e1, e2, e3, e4, e5⟩ := zx.all6
              have RX : Hid (BX 42 (put6 (wr.setCell ⟨b8, 3, none⟩ (.bool true)) (w.heap.size + 2) (.int .i64 (T.step + 1)) (.int .i64 (T.phase)) (.bool false) (.bool true) (.slice ya yn yc) (.slice za zn zc)) (w.heap.size + 2) #[.int .i64 (T.step + 1), .int .i64 (T.phase), .bool false, .bool true, .slice ya yn yc, .slice za zn zc]) := rx
              clear nx zx rx hp HB2 HRE FR ZZ BW RY RN HWK HSAID CWY HRR HOPN
              go_wp2_with fail
              obtain ⟨⟨r0, r1, r2, r3, r4, r5⟩, _⟩ := RX.out.all6
              unfold put6 at r0 r1 r2 r3 r4 r5
              first
                | exact HP.out
                | exact bodyPost_ret (v := .tuple #[.agg #[.int .i64 (T.step + 1), .int .i64 (T.phase), .bool false, .bool true, .slice ya yn yc, .slice za zn zc], .int .i64 0]) (by simp [results, Try.results18, go_sem, r0, r1, r2, r3, r4, r5]) rfl HP.out
            · have t3 : (k != 3) = false := by rw [hkk]; cases j2 <;> rfl
              cases j2
              · have HB2 : Hid (R = (0, ⟨T.step + 1, 1 - T.phase, true, false, valsR m r, mailR m (true, false) r es⟩)) := by show R = _; rw [HRE.out, beh_turnF hmy rfl]
                have t1 : (T.phase == 1) = false := by rw [hpp]; rfl
                have wph : IntKind.i64.wrap (1 - T.phase) = 1 - T.phase := by rw [hpp]; rfl
                clear hkk hpp
                have nx : BX 42 ((wr.setCell ⟨b8, 2, none⟩ (.bool true)).setCell ⟨b8, 1, none⟩ (.int .i64 (1 - T.phase))) b8 #[.int .i64 (T.step + 1), .int .i64 (1 - T.phase), .bool true, .bool false, .slice ya yn yc, .slice za zn zc] := (FR.out.nb.set 2 _).set 1 _
                obtain ⟨zx, rx, hp⟩ := FR.out.fin (w := w) (R := R) (t := ⟨T.step + 1, 1 - T.phase, true, false, valsR m r, mailR m (true, false) r es⟩) (wz := ((wr.setCell ⟨b8, 2, none⟩ (.bool true)).setCell ⟨b8, 1, none⟩ (.int .i64 (1 - T.phase)))) ((Kept.box _ _ _ _).trans (Kept.box _ _ _ _)) ZZ.out BW.out (by omega) hb8ne (by omega) HB2.out rfl rfl
                simp only at rx hp
                have HP : Hid (StaP w R (.returned (.tuple #[.agg #[.int .i64 (T.step + 1), .int .i64 (1 - T.phase), .bool true, .bool false, .slice ya yn yc, .slice za zn zc], .int .i64 0])) (put6 ((wr.setCell ⟨b8, 2, none⟩ (.bool true)).setCell ⟨b8, 1, none⟩ (.int .i64 (1 - T.phase))) (w.heap.size + 2) (.int .i64 (T.step + 1)) (.int .i64 (1 - T.phase)) (.bool true) (.bool false) (.slice ya yn yc) (.slice za zn zc))) := hp
                obtain ⟨⟨m0, m1, m2, m3, m4, m5⟩, _⟩ := nx.all6
                obtain ⟨⟨d0, d1, d2, d3, d4, d5⟩, e0, e1, e2, e3, e4, e5⟩ := zx.all6
                have RX : Hid (BX 42 (put6 ((wr.setCell ⟨b8, 2, none⟩ (.bool true)).setCell ⟨b8, 1, none⟩ (.int .i64 (1 - T.phase))) (w.heap.size + 2) (.int .i64 (T.step + 1)) (.int .i64 (1 - T.phase)) (.bool true) (.bool false) (.slice ya yn yc) (.slice za zn zc)) (w.heap.size + 2) #[.int .i64 (T.step + 1), .int .i64 (1 - T.phase), .bool true, .bool false, .slice ya yn yc, .slice za zn zc]) := rx
                clear nx zx rx hp HB2 HRE FR ZZ BW RY RN HWK HSAID CWY HRR HOPN
                go_wp2_with fail
                obtain ⟨⟨r0, r1, r2, r3, r4, r5⟩, _⟩ := RX.out.all6
                unfold put6 at r0 r1 r2 r3 r4 r5
                first
                  | exact HP.out
                  | exact bodyPost_ret (v := .tuple #[.agg #[.int .i64 (T.step + 1), .int .i64 (1 - T.phase), .bool true, .bool false, .slice ya yn yc, .slice za zn zc], .int .i64 0]) (by simp [results, Try.results18, go_sem, r0, r1, r2, r3, r4, r5]) rfl HP.out
              · have t1 : (T.phase == 1) = true := by rw [hpp]; rfl
                have wph : IntKind.i64.wrap (1 - T.phase) = 1 - T.phase := by rw [hpp]; rfl
                cases opn
                · have HB2 : Hid (R = (0, ⟨T.step + 1, T.phase, false, true, valsR m r, mailR m (true, true) r es⟩)) := by show R = _; rw [HRE.out, beh_doneF hmy (by rw [HOPN.out]; rfl)]
                  clear hkk hpp
                  have nx : BX 42 (wr.setCell ⟨b8, 3, none⟩ (.bool true)) b8 #[.int .i64 (T.step + 1), .int .i64 (T.phase), .bool false, .bool true, .slice ya yn yc, .slice za zn zc] := FR.out.nb.set 3 _
                  obtain ⟨zx, rx, hp⟩ := FR.out.fin (w := w) (R := R) (t := ⟨T.step + 1, T.phase, false, true, valsR m r, mailR m (true, true) r es⟩) (wz := (wr.setCell ⟨b8, 3, none⟩ (.bool true))) (Kept.box _ _ _ _) ZZ.out BW.out (by omega) hb8ne (by omega) HB2.out rfl rfl
                  simp only at rx hp
                  have HP : Hid (StaP w R (.returned (.tuple #[.agg #[.int .i64 (T.step + 1), .int .i64 (T.phase), .bool false, .bool true, .slice ya yn yc, .slice za zn zc], .int .i64 0])) (put6 (wr.setCell ⟨b8, 3, none⟩ (.bool true)) (w.heap.size + 2) (.int .i64 (T.step + 1)) (.int .i64 (T.phase)) (.bool false) (.bool true) (.slice ya yn yc) (.slice za zn zc))) := hp
                  obtain ⟨⟨m0, m1, m2, m3, m4, m5⟩, _⟩ := nx.all6
                  obtain ⟨⟨d0, d1, d2, d3, d4, d5⟩, e0, e1, e2, e3, e4, e5⟩ := zx.all6
                  have RX : Hid (BX 42 (put6 (wr.setCell ⟨b8, 3, none⟩ (.bool true)) (w.heap.size + 2) (.int .i64 (T.step + 1)) (.int .i64 (T.phase)) (.bool false) (.bool true) (.slice ya yn yc) (.slice za zn zc)) (w.heap.size + 2) #[.int .i64 (T.step + 1), .int .i64 (T.phase), .bool false, .bool true, .slice ya yn yc, .slice za zn zc]) := rx
                  clear nx zx rx hp HB2 HRE FR ZZ BW RY RN HWK HSAID CWY HRR HOPN
                  go_wp2_with fail
                  obtain ⟨⟨r0, r1, r2, r3, r4, r5⟩, _⟩ := RX.out.all6
                  unfold put6 at r0 r1 r2 r3 r4 r5
                  first
                    | exact HP.out
                    | exact bodyPost_ret (v := .tuple #[.agg #[.int .i64 (T.step + 1), .int .i64 (T.phase), .bool false, .bool true, .slice ya yn yc, .slice za zn zc], .int .i64 0]) (by simp [results, Try.results18, go_sem, r0, r1, r2, r3, r4, r5]) rfl HP.out
                · have HB2 : Hid (R = (0, ⟨T.step + 1, 1 - T.phase, true, false, valsR m r, mailR m (true, true) r es⟩)) := by show R = _; rw [HRE.out, beh_turnF hmy (by rw [HOPN.out]; rfl)]
                  clear hkk hpp
                  have nx : BX 42 ((wr.setCell ⟨b8, 2, none⟩ (.bool true)).setCell ⟨b8, 1, none⟩ (.int .i64 (1 - T.phase))) b8 #[.int .i64 (T.step + 1), .int .i64 (1 - T.phase), .bool true, .bool false, .slice ya yn yc, .slice za zn zc] := (FR.out.nb.set 2 _).set 1 _
                  obtain ⟨zx, rx, hp⟩ := FR.out.fin (w := w) (R := R) (t := ⟨T.step + 1, 1 - T.phase, true, false, valsR m r, mailR m (true, true) r es⟩) (wz := ((wr.setCell ⟨b8, 2, none⟩ (.bool true)).setCell ⟨b8, 1, none⟩ (.int .i64 (1 - T.phase)))) ((Kept.box _ _ _ _).trans (Kept.box _ _ _ _)) ZZ.out BW.out (by omega) hb8ne (by omega) HB2.out rfl rfl
                  simp only at rx hp
                  have HP : Hid (StaP w R (.returned (.tuple #[.agg #[.int .i64 (T.step + 1), .int .i64 (1 - T.phase), .bool true, .bool false, .slice ya yn yc, .slice za zn zc], .int .i64 0])) (put6 ((wr.setCell ⟨b8, 2, none⟩ (.bool true)).setCell ⟨b8, 1, none⟩ (.int .i64 (1 - T.phase))) (w.heap.size + 2) (.int .i64 (T.step + 1)) (.int .i64 (1 - T.phase)) (.bool true) (.bool false) (.slice ya yn yc) (.slice za zn zc))) := hp
                  obtain ⟨⟨m0, m1, m2, m3, m4, m5⟩, _⟩ := nx.all6
                  obtain ⟨⟨d0, d1, d2, d3, d4, d5⟩, e0, e1, e2, e3, e4, e5⟩ := zx.all6
                  have RX : Hid (BX 42 (put6 ((wr.setCell ⟨b8, 2, none⟩ (.bool true)).setCell ⟨b8, 1, none⟩ (.int .i64 (1 - T.phase))) (w.heap.size + 2) (.int .i64 (T.step + 1)) (.int .i64 (1 - T.phase)) (.bool true) (.bool false) (.slice ya yn yc) (.slice za zn zc)) (w.heap.size + 2) #[.int .i64 (T.step + 1), .int .i64 (1 - T.phase), .bool true, .bool false, .slice ya yn yc, .slice za zn zc]) := rx
                  clear nx zx rx hp HB2 HRE FR ZZ BW RY RN HWK HSAID CWY HRR HOPN
                  go_wp2_with fail
                  obtain ⟨⟨r0, r1, r2, r3, r4, r5⟩, _⟩ := RX.out.all6
                  unfold put6 at r0 r1 r2 r3 r4 r5
                  first
                    | exact HP.out
                    | exact bodyPost_ret (v := .tuple #[.agg #[.int .i64 (T.step + 1), .int .i64 (1 - T.phase), .bool true, .bool false, .slice ya yn yc, .slice za zn zc], .int .i64 0]) (by simp [results, Try.results18, go_sem, r0, r1, r2, r3, r4, r5]) rfl HP.out

theorem followed_any (v : Value) (es : List Ed) (n k s : Int) (T : StS) (vv vm : Value) (w : World) (h : EdR w v es) (hv : MlR w vv T.vals) (hm : LiR w vm T.mail) (hml : ∀ l ∈ T.mail, l.length ≤ 140737488355328) :
    Calls Try.prog 18 #[.agg #[.int .i64 n, v, .int .i64 k, .int .i64 s], .agg #[.int .i64 T.step, .int .i64 T.phase, .bool T.fresh, .bool T.done, vv, vm]] w (StaP w (folE n es k s T)) := by
  by_cases hc : jobE n es k s = 0 ∧ mayR n.toNat k T = true ∧ T.done = false ∧ ¬ 100000 ≤ T.step
  · obtain ⟨h1, h2, h3, h4⟩ := hc
    obtain ⟨hn0, hn1, _, _⟩ := fault_ok (jobE_zero h1).1
    obtain ⟨m, rfl⟩ : ∃ m : Nat, n = m := ⟨n.toNat, by omega⟩
    rw [Int.toNat_natCast] at h2
    exact followed_round v es m k s T vv vm w h hv hm hml h1 h2 h3 h4
  · exact followed_early v es n k s T vv vm w h hv hm hml hc
end Go.Proofs.Ytinijeejfnehmaa

namespace Go.Proofs.Ytinijeejfnehmaa
set_option maxRecDepth 100000
open Go.ChangeShapes Go.WideShapes Go.ChangeAt Go.RowKit

set_option maxHeartbeats 2000000 in
set_option maxRecDepth 100000 in
theorem begun_any (v : Value) (es : List Ed) (n k s : Int) (w : World) (h : EdR w v es) :
    Calls Try.prog 17 #[.agg #[.int .i64 n, v, .int .i64 k, .int .i64 s]] w (StaP w (begE n es k s)) := by
  have HR : Hid (EdR w v es) := h
  obtain ⟨a, cap, rfl, _, _, _, _⟩ := h
  have HCK : Hid (∀ X, EdR X (.slice a es.length cap) es → Calls Try.prog 13 #[.agg #[.int .i64 n, .slice a es.length cap, .int .i64 k, .int .i64 s]] X fun e w' => e = .returned (.int .i64 (jobE n es k s)) ∧ Below X.heap.size X w') := fun X hX => jobFault_any _ es n k s X hX
  obtain ⟨W0, hW0⟩ : ∃ W0, W0 = (w.alloc (.cells #[.int .i64 n, .slice a es.length cap, .int .i64 k, .int .i64 s] 26)).alloc (.cells #[.int .i64 0, .int .i64 0, .bool false, .bool false, .slice none 0 0, .slice none 0 0] 42) := ⟨_, rfl⟩
  obtain ⟨Q0, T0, B0, s1, s2⟩ := boxes2 w #[.int .i64 n, .slice a es.length cap, .int .i64 k, .int .i64 s] #[.int .i64 0, .int .i64 0, .bool false, .bool false, .slice none 0 0, .slice none 0 0] 26 42 W0 hW0
  have BH : Hid (Below w.heap.size w W0) := B0
  have HK : Hid (∀ X, Below W0.heap.size W0 X → BX 26 X w.heap.size #[.int .i64 n, .slice a es.length cap, .int .i64 k, .int .i64 s] ∧ BX 42 X (w.heap.size + 1) #[.int .i64 0, .int .i64 0, .bool false, .bool false, .slice none 0 0, .slice none 0 0] ∧ Below w.heap.size w X) := fun X hX => ⟨Q0.below hX (by omega), T0.below hX (by omega), BH.out.trans (hX.mono (by omega))⟩
  have R0 : Hid (EdR W0 (.slice a es.length cap) es) := HR.out.below BH.out (Nat.le_refl _)
  obtain ⟨q0, q1, q2, q3⟩ := Q0.all4
  clear Q0 T0 B0
  by_cases hj : jobE n es k s = 0
  · obtain ⟨hf, _, _⟩ := jobE_zero hj
    obtain ⟨hn0, hn1, _, _⟩ := fault_ok hf
    obtain ⟨m, rfl⟩ : ∃ m : Nat, n = m := ⟨n.toNat, by omega⟩
    have HP : Hid (∀ (w' : World) vv vm, w'.ownsRow w.heap.size 53 2 vv m ((List.replicate m ((-1, -1) : Ml)).flatMap encM) → OwnLi w' w.heap.size vm (List.replicate m []) → Below w.heap.size w w' → StaP w (begE m es k s) (.returned (.tuple #[.agg #[.int .i64 0, .int .i64 0, .bool (decide (0 < m)), .bool (decide (m = 0)), vv, vm], .int .i64 0])) w') := fun w' vv vm h1 h2 h3 => by
      unfold begE
      rw [if_pos hj, Int.toNat_natCast]
      exact StaP.yes (t := beginS m) (by simpa [beginS] using h1) h2 h3
    rw [hj] at HCK
    generalize StaP w (begE m es k s) = P at *
    obtain ⟨bf, hbf⟩ : ∃ b, decide (0 < m) = b := ⟨_, rfl⟩
    obtain ⟨bd, hbd⟩ : ∃ b, decide (m = 0) = b := ⟨_, rfl⟩
    rw [hbf, hbd] at HP
    have td : ((m : Int) == 0) = bd := by
      rw [← hbd, Bool.eq_iff_iff]
      simp
    clear hf hj hbd
    go_enter Try.func17, Try.ntmps17
    go_upto_region 1 with fail
    rw [← hW0]
    clear hW0
    go_wp2_with fail
    refine (HCK.out _ R0.out).mono ?_
    rintro e w1 ⟨rfl, hb1⟩
    have A1 : Hid (Below W0.heap.size W0 w1) := hb1
    clear q0 q1 q2 q3 HCK hb1
    obtain ⟨Q1, _, _⟩ := HK.out _ A1.out
    obtain ⟨q0, q1, q2, q3⟩ := Q1.all4
    have hs1 := A1.out.size
    clear Q1
    go_upto_region 5 with fail
    have W2 : Hid (Below W0.heap.size W0 (w1.alloc (.cells #[.int .i64 0, .int .i64 0, .bool bf, .bool bd, .slice none 0 0, .slice none 0 0] 42)) ∧ BX 42 (w1.alloc (.cells #[.int .i64 0, .int .i64 0, .bool bf, .bool bd, .slice none 0 0, .slice none 0 0] 42)) w1.heap.size #[.int .i64 0, .int .i64 0, .bool bf, .bool bd, .slice none 0 0, .slice none 0 0]) := ⟨A1.out.alloc hs1 _, BX.new _ _ _⟩
    generalize w1.alloc (.cells #[.int .i64 0, .int .i64 0, .bool bf, .bool bd, .slice none 0 0, .slice none 0 0] 42) = w2 at *
    generalize w1.heap.size = b5 at *
    obtain ⟨A2', X2'⟩ := W2.out
    have A2 : Hid (Below W0.heap.size W0 w2) := A2'
    have X2 : Hid (BX 42 w2 b5 #[.int .i64 0, .int .i64 0, .bool bf, .bool bd, .slice none 0 0, .slice none 0 0]) := X2'
    clear A2' X2' W2 q0 q1 q2 q3 hbf
    go_wp2_with fail
    go_loopw [6] (fun i wr => ∃ (j : Nat) (vv vm : Value), j ≤ m ∧ i = .int .i64 j ∧ BX 42 wr b5 #[.int .i64 0, .int .i64 0, .bool bf, .bool bd, vv, vm] ∧ wr.ownsRow W0.heap.size 53 2 vv (List.replicate j ((-1, -1) : Ml)).length ((List.replicate j ((-1, -1) : Ml)).flatMap encM) ∧ OwnLi wr W0.heap.size vm (List.replicate j []) ∧ Below W0.heap.size W0 wr) (fun i _ => m - (intOf i).toNat)
    case atStart => exact ⟨0, _, _, by omega, rfl, X2.out, World.ownsRow_nil _ _ _ _, OwnLi.nil _ _, A2.out⟩
    case round =>
      obtain ⟨j, vv, vm, hj, rfl, hbx, hvo, hmo, hbel⟩ := hrel
      have XB : Hid (BX 42 wr b5 #[.int .i64 0, .int .i64 0, .bool bf, .bool bd, vv, vm]) := hbx
      have VO : Hid (wr.ownsRow W0.heap.size 53 2 vv (List.replicate j ((-1, -1) : Ml)).length ((List.replicate j ((-1, -1) : Ml)).flatMap encM)) := hvo
      have MO : Hid (OwnLi wr W0.heap.size vm (List.replicate j [])) := hmo
      have AB : Hid (Below W0.heap.size W0 wr) := hbel
      obtain ⟨Q3, T3, _⟩ := HK.out _ hbel
      obtain ⟨q0, q1, q2, q3⟩ := Q3.all4
      have TT : Hid (BX 42 wr (w.heap.size + 1) #[.int .i64 0, .int .i64 0, .bool false, .bool false, .slice none 0 0, .slice none 0 0]) := T3
      have hsr := hbel.size
      obtain ⟨va, vn, vc, rfl⟩ : ∃ a n c, vv = .slice a n c := by
        rcases own_shapeK hvo with ⟨e, _⟩ | ⟨g', c', e, _⟩
        · exact ⟨_, _, _, e⟩
        · exact ⟨_, _, _, e⟩
      obtain ⟨ma, mc, rfl⟩ := hmo.shape
      clear hbx hvo hmo hbel Q3 T3
      by_cases hlt : j < m
      · have HNV : Hid (List.replicate (j + 1) ((-1, -1) : Ml) = List.replicate j (-1, -1) ++ [(-1, -1)]) := List.replicate_succ'
        have HNM : Hid (List.replicate (j + 1) ([] : List Int) = List.replicate j [] ++ [[]]) := List.replicate_succ'
        have hlv : (List.replicate j ((-1, -1) : Ml)).length ≤ 200 := by simp; omega
        have hlm : (List.replicate j ([] : List Int)).length ≤ 200 := by simp; omega
        generalize List.replicate j ((-1, -1) : Ml) = f at *
        generalize List.replicate j ([] : List Int) = g at *
        obtain ⟨⟨c0, c1, c2, c3, c4, c5⟩, f0, f1, f2, f3, f4, f5⟩ := XB.out.all6
        have hb5 := XB.out.lt
        have n4 : ∀ X, (wr.alloc X).cell? ⟨b5, 4, none⟩ = some (.slice va vn vc) := fun X => ((below_alloc wr X).cell (p := ⟨b5, 4, none⟩) hb5).trans c4
        go_wp2_with (at_builtin; refine wpList_append_newK kV rfl _ _ rfl W0.heap.size _ f rfl (VO.out.alloc _) _ (-1, -1) rfl #[.int .i64 (-1), .int .i64 (-1)] rfl (0, 0) (heap_alloc_new _ _) (by simp [kV]; omega) (by unfold maxLen; omega) (by simp; omega) ?_)
        intro g1 k1 w3 ho3 hb3 hg3
        have VA := VO.out.alloc (.cells #[.int .i64 (-1), .int .i64 (-1)] 53)
        have X3 : BX 42 w3 b5 #[.int .i64 0, .int .i64 0, .bool bf, .bool bd, .slice va vn vc, .slice ma g.length mc] := (XB.out.below (below_alloc _ _) hb5).grown VA (by decide) hg3
        have T3 : BX 42 w3 (w.heap.size + 1) #[.int .i64 0, .int .i64 0, .bool false, .bool false, .slice none 0 0, .slice none 0 0] := (TT.out.below (below_alloc _ _) TT.out.lt).grown VA (by decide) hg3
        have M3 : OwnLi w3 W0.heap.size (.slice ma g.length mc) g := OwnLi.apart (MO.out.below (below_alloc _ _) (Nat.le_refl _)) VA hg3 (by decide) (by decide)
        have B3 : Below W0.heap.size W0 w3 := (AB.out.alloc hsr _).trans hb3
        have V3 : w3.ownsRow W0.heap.size 53 2 (.slice (some ⟨g1, 0, none⟩) (f.length + 1) k1) (f ++ [(-1, -1)]).length ((f ++ [(-1, -1)]).flatMap encM) := by rw [flat_snoc, List.length_append]; exact ho3
        have W4 : Hid (BX 42 (w3.setCell ⟨b5, 4, none⟩ (.slice (some ⟨g1, 0, none⟩) (f.length + 1) k1)) b5 #[.int .i64 0, .int .i64 0, .bool bf, .bool bd, .slice (some ⟨g1, 0, none⟩) (f.length + 1) k1, .slice ma g.length mc] ∧ OwnLi (w3.setCell ⟨b5, 4, none⟩ (.slice (some ⟨g1, 0, none⟩) (f.length + 1) k1)) W0.heap.size (.slice ma g.length mc) g ∧ (w3.setCell ⟨b5, 4, none⟩ (.slice (some ⟨g1, 0, none⟩) (f.length + 1) k1)).ownsRow W0.heap.size 53 2 (.slice (some ⟨g1, 0, none⟩) (f.length + 1) k1) (f ++ [(-1, -1)]).length ((f ++ [(-1, -1)]).flatMap encM) ∧ Below W0.heap.size W0 (w3.setCell ⟨b5, 4, none⟩ (.slice (some ⟨g1, 0, none⟩) (f.length + 1) k1))) :=
          ⟨X3.set 4 _, M3.off X3 (by decide) (by decide) (Kept.box _ _ _ _), own_off V3 X3 (by decide) (Kept.box _ _ _ _), B3.setCell (p := ⟨b5, 4, none⟩) (by show W0.heap.size ≤ b5; omega) _⟩
        clear n4 c0 c1 c2 c3 c4 c5 f0 f1 f2 f3 f4 f5
        obtain ⟨⟨c0, c1, c2, c3, c4, c5⟩, f0, f1, f2, f3, f4, f5⟩ := X3.all6
        clear ho3 hb3 hg3 VA X3 T3 M3 B3 V3 XB VO MO AB TT
        go_upto_region 9 with fail
        generalize w3.setCell ⟨b5, 4, none⟩ (.slice (some ⟨g1, 0, none⟩) (f.length + 1) k1) = w4 at *
        obtain ⟨X4', M4', V4', B4'⟩ := W4.out
        have X4 : Hid (BX 42 w4 b5 #[.int .i64 0, .int .i64 0, .bool bf, .bool bd, .slice (some ⟨g1, 0, none⟩) (f.length + 1) k1, .slice ma g.length mc]) := X4'
        have M4 : Hid (OwnLi w4 W0.heap.size (.slice ma g.length mc) g) := M4'
        have V4 : Hid (w4.ownsRow W0.heap.size 53 2 (.slice (some ⟨g1, 0, none⟩) (f.length + 1) k1) (f ++ [(-1, -1)]).length ((f ++ [(-1, -1)]).flatMap encM)) := V4'
        have B4 : Hid (Below W0.heap.size W0 w4) := B4'
        have hs4 := B4'.size
        clear c0 c1 c2 c3 c4 c5 f0 f1 f2 f3 f4 f5 X4' M4' V4' B4' W4
        obtain ⟨⟨c0, c1, c2, c3, c4, c5⟩, f0, f1, f2, f3, f4, f5⟩ := X4.out.all6
        have hb5' := X4.out.lt
        go_wp2_with (at_builtin; refine wpList_append_li rfl _ _ rfl W0.heap.size _ g rfl (M4.out.below (below_alloc _ _) (Nat.le_refl _)) _ (.slice none 0 0) [] rfl (0, 0) (heap_alloc_new _ _) (World.ownsRow_nil _ _ _ _) (by omega) (by simp; omega) ?_)
        intro g2 k2 w5 hm5 hg5 _
        obtain ⟨mr, hmr⟩ := (M4.out.below (below_alloc w4 (.cells #[.slice none 0 0] 57)) (Nat.le_refl _)).row
        have X5 : BX 42 w5 b5 #[.int .i64 0, .int .i64 0, .bool bf, .bool bd, .slice (some ⟨g1, 0, none⟩) (f.length + 1) k1, .slice ma g.length mc] := (X4.out.below (below_alloc _ _) hb5').grown hmr (by decide) hg5
        have V5 : w5.ownsRow W0.heap.size 53 2 (.slice (some ⟨g1, 0, none⟩) (f.length + 1) k1) (f ++ [(-1, -1)]).length ((f ++ [(-1, -1)]).flatMap encM) := (V4.out.alloc _).kept hg5 (own_apart (V4.out.alloc (.cells #[.slice none 0 0] 57)) hmr (by decide))
        have B5 : Below W0.heap.size W0 w5 := (B4.out.alloc hs4 _).trans ((Below.refl _ _).grown hg5 (by show W0.heap.size ≤ (w4.alloc _).heap.size; simp; omega) (fun q hq => (own_ge hmr hq).1))
        have W6 : Hid (BX 42 (w5.setCell ⟨b5, 5, none⟩ (.slice (some ⟨g2, 0, none⟩) (g.length + 1) k2)) b5 #[.int .i64 0, .int .i64 0, .bool bf, .bool bd, .slice (some ⟨g1, 0, none⟩) (f.length + 1) k1, .slice (some ⟨g2, 0, none⟩) (g.length + 1) k2] ∧ OwnLi (w5.setCell ⟨b5, 5, none⟩ (.slice (some ⟨g2, 0, none⟩) (g.length + 1) k2)) W0.heap.size (.slice (some ⟨g2, 0, none⟩) (g.length + 1) k2) (g ++ [[]]) ∧ (w5.setCell ⟨b5, 5, none⟩ (.slice (some ⟨g2, 0, none⟩) (g.length + 1) k2)).ownsRow W0.heap.size 53 2 (.slice (some ⟨g1, 0, none⟩) (f.length + 1) k1) (f ++ [(-1, -1)]).length ((f ++ [(-1, -1)]).flatMap encM) ∧ Below W0.heap.size W0 (w5.setCell ⟨b5, 5, none⟩ (.slice (some ⟨g2, 0, none⟩) (g.length + 1) k2))) :=
          ⟨X5.set 5 _, hm5.off X5 (by decide) (by decide) (Kept.box _ _ _ _), own_off V5 X5 (by decide) (Kept.box _ _ _ _), B5.setCell (p := ⟨b5, 5, none⟩) (by show W0.heap.size ≤ b5; omega) _⟩
        rw [← HNV.out, ← HNM.out] at W6
        clear c0 c1 c2 c3 c4 c5 f0 f1 f2 f3 f4 f5
        obtain ⟨⟨c0, c1, c2, c3, c4, c5⟩, f0, f1, f2, f3, f4, f5⟩ := X5.all6
        clear hm5 hg5 hmr X5 V5 B5 X4 M4 V4 B4
        go_wp2_with fail
        go_roundw
        case rel => exact ⟨j + 1, _, _, by omega, by go_num, W6.out.1, W6.out.2.2.1, W6.out.2.1, W6.out.2.2.2⟩
        case measure => simp [intOf]; omega
      · have ej : j = m := by omega
        subst ej
        have hvl : (List.replicate j ((-1, -1) : Ml)).length = j := by simp
        have VE : Hid ((put6 wr (w.heap.size + 1) (.int .i64 0) (.int .i64 0) (.bool bf) (.bool bd) (.slice va vn vc) (.slice ma (List.replicate j ([] : List Int)).length mc)).ownsRow w.heap.size 53 2 (.slice va vn vc) j ((List.replicate j ((-1, -1) : Ml)).flatMap encM)) := by
          have := own_off VO.out TT.out (by decide) (kept_put6 wr (w.heap.size + 1) (.int .i64 0) (.int .i64 0) (.bool bf) (.bool bd) (.slice va vn vc) (.slice ma (List.replicate j ([] : List Int)).length mc))
          rw [hvl] at this
          exact own_lower this (by omega)
        have ME : Hid (OwnLi (put6 wr (w.heap.size + 1) (.int .i64 0) (.int .i64 0) (.bool bf) (.bool bd) (.slice va vn vc) (.slice ma (List.replicate j ([] : List Int)).length mc)) w.heap.size (.slice ma (List.replicate j ([] : List Int)).length mc) (List.replicate j [])) := (MO.out.off TT.out (by decide) (by decide) (kept_put6 wr (w.heap.size + 1) _ _ _ _ _ _)).lower (by omega)
        have RX : Hid (BX 42 (put6 wr (w.heap.size + 1) (.int .i64 0) (.int .i64 0) (.bool bf) (.bool bd) (.slice va vn vc) (.slice ma (List.replicate j ([] : List Int)).length mc)) (w.heap.size + 1) #[.int .i64 0, .int .i64 0, .bool bf, .bool bd, .slice va vn vc, .slice ma (List.replicate j ([] : List Int)).length mc]) := TT.out.put6
        have BE : Hid (Below w.heap.size w (put6 wr (w.heap.size + 1) (.int .i64 0) (.int .i64 0) (.bool bf) (.bool bd) (.slice va vn vc) (.slice ma (List.replicate j ([] : List Int)).length mc))) := below_put6 (HK.out _ AB.out).2.2 (by omega) TT.out.lt _ _ _ _ _ _
        obtain ⟨⟨c0, c1, c2, c3, c4, c5⟩, f0, f1, f2, f3, f4, f5⟩ := XB.out.all6
        obtain ⟨⟨d0, d1, d2, d3, d4, d5⟩, e0, e1, e2, e3, e4, e5⟩ := TT.out.all6
        clear hvl
        generalize (List.replicate j ([] : List Int)).length = ml at *
        go_wp2_with fail
        obtain ⟨⟨r0, r1, r2, r3, r4, r5⟩, _⟩ := RX.out.all6
        unfold put6 at r0 r1 r2 r3 r4 r5
        refine bodyPost_ret (v := .tuple #[.agg #[.int .i64 0, .int .i64 0, .bool bf, .bool bd, .slice va vn vc, .slice ma ml mc], .int .i64 0]) (by simp [results, Try.results17, go_sem, r0, r1, r2, r3, r4, r5]) rfl ?_
        exact HP.out _ _ _ VE.out ME.out BE.out
  · have HP : Hid (∀ (w' : World), Below w.heap.size w w' → StaP w (begE n es k s) (.returned (.tuple #[.agg #[.int .i64 0, .int .i64 0, .bool false, .bool false, .slice none 0 0, .slice none 0 0], .int .i64 (jobE n es k s)])) w') := fun w' h => by
      unfold begE
      rw [if_neg hj]
      exact StaP.no h
    generalize StaP w (begE n es k s) = P at *
    generalize jobE n es k s = je at *
    have t0 : (je != 0) = true := by simpa using hj
    clear hj
    go_enter Try.func17, Try.ntmps17
    go_upto_region 1 with fail
    rw [← hW0]
    clear hW0
    go_wp2_with fail
    refine (HCK.out _ R0.out).mono ?_
    rintro e w1 ⟨rfl, hb1⟩
    obtain ⟨_, T1, b1⟩ := HK.out _ hb1
    have RX : Hid (BX 42 (put6 w1 (w.heap.size + 1) (.int .i64 0) (.int .i64 0) (.bool false) (.bool false) (.slice none 0 0) (.slice none 0 0)) (w.heap.size + 1) #[.int .i64 0, .int .i64 0, .bool false, .bool false, .slice none 0 0, .slice none 0 0]) := T1.put6
    have BE : Hid (Below w.heap.size w (put6 w1 (w.heap.size + 1) (.int .i64 0) (.int .i64 0) (.bool false) (.bool false) (.slice none 0 0) (.slice none 0 0))) := below_put6 b1 (by omega) T1.lt _ _ _ _ _ _
    obtain ⟨⟨c0, c1, c2, c3, c4, c5⟩, f0, f1, f2, f3, f4, f5⟩ := T1.all6
    clear hb1 q0 q1 q2 q3 HCK T1 b1
    go_wp2_with fail
    obtain ⟨⟨r0, r1, r2, r3, r4, r5⟩, _⟩ := RX.out.all6
    unfold put6 at r0 r1 r2 r3 r4 r5
    refine bodyPost_ret (v := .tuple #[.agg #[.int .i64 0, .int .i64 0, .bool false, .bool false, .slice none 0 0, .slice none 0 0], .int .i64 je]) (by simp [results, Try.results17, go_sem, r0, r1, r2, r3, r4, r5]) rfl ?_
    exact HP.out _ BE.out
end Go.Proofs.Ytinijeejfnehmaa

namespace Go.Proofs.Ytinijeejfnehmaa
set_option maxRecDepth 100000
open Go.ChangeShapes Go.WideShapes Go.ChangeAt Go.RowKit

set_option maxHeartbeats 4000000 in
set_option maxRecDepth 100000 in
theorem limitOf_any (v : Value) (es : List Ed) (n k s wk ev bu : Int) (w : World) (h : EdR w v es) :
    Calls Try.prog 9 #[.agg #[.int .i64 n, v, .int .i64 k, .int .i64 s, .int .i64 wk, .int .i64 ev, .int .i64 bu]] w fun e w' => e = .returned (.tuple #[.int .i64 (limE n es k s wk ev bu).1, .int .i64 (limE n es k s wk ev bu).2]) ∧ Below w.heap.size w w' := by
  have HR : Hid (EdR w v es) := h
  obtain ⟨a, cap, rfl⟩ := h.shape
  clear h
  have CT : Hid (∀ X, EdR X (.slice a es.length cap) es → Calls Try.prog 7 #[.agg #[.int .i64 n, .slice a es.length cap, .int .i64 k, .int .i64 s, .int .i64 wk, .int .i64 ev, .int .i64 bu]] X fun e w' => e = .returned (.int .i64 (taskE n es k s wk ev bu)) ∧ Below X.heap.size X w') := fun X hX => taskFault_any _ es n k s wk ev bu X hX
  obtain ⟨W0, hW0⟩ : ∃ W0, W0 = w.alloc (.cells #[.int .i64 n, .slice a es.length cap, .int .i64 k, .int .i64 s, .int .i64 wk, .int .i64 ev, .int .i64 bu] 28) := ⟨_, rfl⟩
  have Q0 : BX 28 W0 w.heap.size #[.int .i64 n, .slice a es.length cap, .int .i64 k, .int .i64 s, .int .i64 wk, .int .i64 ev, .int .i64 bu] := by rw [hW0]; exact BX.new _ _ _
  have B0 : Below w.heap.size w W0 := by rw [hW0]; exact below_alloc _ _
  have s1 : w.heap.size + 1 ≤ W0.heap.size := by rw [hW0]; simp
  have HK : Hid (∀ X, Below W0.heap.size W0 X → BX 28 X w.heap.size #[.int .i64 n, .slice a es.length cap, .int .i64 k, .int .i64 s, .int .i64 wk, .int .i64 ev, .int .i64 bu] ∧ Below w.heap.size w X ∧ EdR X (.slice a es.length cap) es) := fun X hX => by
    have hb := B0.trans (hX.mono (show w.heap.size ≤ W0.heap.size by omega))
    exact ⟨Q0.below hX (by omega), hb, HR.out.below hb (Nat.le_refl _)⟩
  have A0 : Hid (Below W0.heap.size W0 W0) := Below.refl _ _
  have HC7 : ∀ X, BX 28 X w.heap.size #[.int .i64 n, .slice a es.length cap, .int .i64 k, .int .i64 s, .int .i64 wk, .int .i64 ev, .int .i64 bu] → X.cell? ⟨w.heap.size, 0, none⟩ = some (.int .i64 n) ∧ X.cell? ⟨w.heap.size, 1, none⟩ = some (.slice a es.length cap) ∧ X.cell? ⟨w.heap.size, 2, none⟩ = some (.int .i64 k) ∧ X.cell? ⟨w.heap.size, 3, none⟩ = some (.int .i64 s) ∧ X.cell? ⟨w.heap.size, 4, none⟩ = some (.int .i64 wk) ∧ X.cell? ⟨w.heap.size, 5, none⟩ = some (.int .i64 ev) ∧ X.cell? ⟨w.heap.size, 6, none⟩ = some (.int .i64 bu) := fun X q => ⟨q.cell 0, q.cell 1, q.cell 2, q.cell 3, q.cell 4, q.cell 5, q.cell 6⟩
  have H7 : Hid (∀ X, BX 28 X w.heap.size #[.int .i64 n, .slice a es.length cap, .int .i64 k, .int .i64 s, .int .i64 wk, .int .i64 ev, .int .i64 bu] → X.cell? ⟨w.heap.size, 0, none⟩ = some (.int .i64 n) ∧ X.cell? ⟨w.heap.size, 1, none⟩ = some (.slice a es.length cap) ∧ X.cell? ⟨w.heap.size, 2, none⟩ = some (.int .i64 k) ∧ X.cell? ⟨w.heap.size, 3, none⟩ = some (.int .i64 s) ∧ X.cell? ⟨w.heap.size, 4, none⟩ = some (.int .i64 wk) ∧ X.cell? ⟨w.heap.size, 5, none⟩ = some (.int .i64 ev) ∧ X.cell? ⟨w.heap.size, 6, none⟩ = some (.int .i64 bu)) := HC7
  clear HC7
  obtain ⟨q0, q1, q2, q3, q4, q5, q6⟩ := H7.out _ Q0
  clear Q0 B0 HR
  by_cases hT : taskE n es k s wk ev bu = 0
  case neg =>
    have HE : Hid (limE n es k s wk ev bu = (0, taskE n es k s wk ev bu)) := limE_no hT
    have t0 : (taskE n es k s wk ev bu != 0) = true := by simp [hT]
    generalize limE n es k s wk ev bu = LL at *
    generalize taskE n es k s wk ev bu = te at *
    clear hT
    go_enter Try.func9, Try.ntmps9
    go_upto_region 1 with fail
    rw [← hW0]
    clear hW0
    go_wp2_with fail
    refine (CT.out _ (HK.out _ A0.out).2.2).mono ?_
    rintro e w1 ⟨rfl, hb1⟩
    have B1 : Hid (Below w.heap.size w w1) := (HK.out _ hb1).2.1
    clear hb1 q0 q1 q2 q3 q4 q5 q6
    go_wp2_with fail
    go_ret2
    exact ⟨by rw [HE.out]; rfl, B1.out⟩
  have HE : Hid (limE n es k s wk ev bu = (((limC n es k s : Int) + 2) * (n + es.length + 12), 0)) := limE_yes hT
  obtain ⟨hj, _⟩ := taskE_zero hT
  have h5 := fault_ok (jobE_zero hj).1
  have hn0 : 0 ≤ n := h5.1
  have hn1 : n ≤ 200 := h5.2.1
  have hel : es.length ≤ 600 := h5.2.2.1
  rw [hT] at CT
  have CB : Hid (∀ X, EdR X (.slice a es.length cap) es → Calls Try.prog 17 #[.agg #[.int .i64 n, .slice a es.length cap, .int .i64 k, .int .i64 s]] X (StaP X (0, beginS n.toNat))) := fun X hX => by
    have := begun_any _ es n k s X hX
    unfold begE at this
    rw [if_pos hj] at this
    exact this
  have CA : Hid (∀ X (T : StS) vv vm, mayR n.toNat k T = true → EdR X (.slice a es.length cap) es → MlR X vv T.vals → LiR X vm T.mail → Calls Try.prog 18 #[.agg #[.int .i64 n, .slice a es.length cap, .int .i64 k, .int .i64 s], .agg #[.int .i64 T.step, .int .i64 T.phase, .bool T.fresh, .bool T.done, vv, vm]] X (StaP X (nextE n.toNat es k s T))) := fun X T vv vm hm h1 h2 h3 => by
    have := followed_any _ es n k s T vv vm X h1 h2 h3 (fun l hl => by have h7 := manyL_mem hl; have h8 := (mayR_size hm).2.2; omega)
    unfold folE at this
    rw [if_neg (by simp [hj])] at this
    exact this
  have HST : Hid (RanI n.toNat es k s (ranE n es k s) 100001 (0, beginS n.toNat)) := RanI.start (by omega) hj
  have HGO : Hid (∀ (R r : Int × StS) (f : Nat), RanI n.toNat es k s R (f + 1) r → r.1 = 0 → r.2.done = false → RanI n.toNat es k s R f (nextE n.toNat es k s r.2)) := fun R r f h1 h2 h3 => by
    refine RanI.go (by omega) (fun e he => ?_) hel h1 h2 h3
    have := in_of_out (h5.2.2.2 e he)
    omega
  clear h5 hj hT
  generalize limE n es k s wk ev bu = LL at *
  generalize ranE n es k s = R at *
  have hC : limC n es k s ≤ 100001 := limC_le _ _ _ _
  have HC0 : Hid (0 + cntR n.toNat es k s 100001 (0, beginS n.toNat) = limC n es k s) := Nat.zero_add _
  generalize limC n es k s = C at *
  generalize beginS n.toNat = RB at *
  go_enter Try.func9, Try.ntmps9
  go_upto_region 1 with fail
  rw [← hW0]
  clear hW0
  go_wp2_with fail
  refine (CT.out _ (HK.out _ A0.out).2.2).mono ?_
  rintro e w0 ⟨rfl, hb0⟩
  have A00 : Hid (Below W0.heap.size W0 w0) := hb0
  clear q0 q1 q2 q3 q4 q5 q6 hb0
  obtain ⟨q0, q1, q2, q3, q4, q5, q6⟩ := H7.out _ (HK.out _ A00.out).1
  go_wp2_with fail
  refine (CB.out _ (HK.out _ A00.out).2.2).mono ?_
  rintro e w1 ⟨v1, v2, rfl, hv1, hv2, hb1⟩
  obtain ⟨a1, n1, k1, rfl⟩ : ∃ a n c, v1 = .slice a n c := by
    rcases own_shapeK hv1 with ⟨e, _⟩ | ⟨g', c', e, _⟩
    · exact ⟨_, _, _, e⟩
    · exact ⟨_, _, _, e⟩
  obtain ⟨a2, k2, rfl⟩ := hv2.shape
  generalize hn2 : RB.mail.length = n2 at *
  have hb1' : Below W0.heap.size W0 w1 := A00.out.trans (hb1.mono A00.out.size)
  have W1 : Hid (Below W0.heap.size W0 (w1.alloc (.cells #[.int .i64 RB.step, .int .i64 RB.phase, .bool RB.fresh, .bool RB.done, .slice a1 n1 k1, .slice a2 n2 k2] 42)) ∧ BX 42 (w1.alloc (.cells #[.int .i64 RB.step, .int .i64 RB.phase, .bool RB.fresh, .bool RB.done, .slice a1 n1 k1, .slice a2 n2 k2] 42)) w1.heap.size #[.int .i64 RB.step, .int .i64 RB.phase, .bool RB.fresh, .bool RB.done, .slice a1 n1 k1, .slice a2 n2 k2] ∧ (w1.alloc (.cells #[.int .i64 RB.step, .int .i64 RB.phase, .bool RB.fresh, .bool RB.done, .slice a1 n1 k1, .slice a2 n2 k2] 42)).ownsRow W0.heap.size 53 2 (.slice a1 n1 k1) RB.vals.length (RB.vals.flatMap encM) ∧ OwnLi (w1.alloc (.cells #[.int .i64 RB.step, .int .i64 RB.phase, .bool RB.fresh, .bool RB.done, .slice a1 n1 k1, .slice a2 n2 k2] 42)) W0.heap.size (.slice a2 n2 k2) RB.mail ∧ W0.heap.size ≤ w1.heap.size) := ⟨hb1'.alloc hb1'.size _, BX.new _ _ _, (own_lower hv1 A00.out.size).alloc _, (hv2.lower A00.out.size).below (below_alloc _ _) (Nat.le_refl _), hb1'.size⟩
  clear q0 q1 q2 q3 q4 q5 q6 hv1 hv2 hb1 hb1' CB hn2 A00
  go_upto_region 6 with fail
  generalize w1.alloc (.cells #[.int .i64 RB.step, .int .i64 RB.phase, .bool RB.fresh, .bool RB.done, .slice a1 n1 k1, .slice a2 n2 k2] 42) = w2 at *
  generalize w1.heap.size = b4 at *
  obtain ⟨A2', X2', V2', M2', hb4⟩ := W1.out
  have W2 : Hid (Below W0.heap.size W0 w2 ∧ BX 42 w2 b4 #[.int .i64 RB.step, .int .i64 RB.phase, .bool RB.fresh, .bool RB.done, .slice a1 n1 k1, .slice a2 n2 k2] ∧ w2.ownsRow W0.heap.size 53 2 (.slice a1 n1 k1) RB.vals.length (RB.vals.flatMap encM) ∧ OwnLi w2 W0.heap.size (.slice a2 n2 k2) RB.mail) := ⟨A2', X2', V2', M2'⟩
  clear A2' X2' V2' M2' W1
  go_wp2_with fail
  go_loopg [5, 7] 100001 (fun gk c t wr => ∃ (r : Int × StS) (vv vm : Value) (m : Nat), c = .int .i64 m ∧ m + cntR n.toNat es k s gk r = C ∧ t = .int .i64 r.1 ∧ (∃ a n c, vv = .slice a n c) ∧ (∃ a n c, vm = .slice a n c) ∧ gk ≤ 100001 ∧ RanI n.toNat es k s R gk r ∧ BX 42 wr b4 #[.int .i64 r.2.step, .int .i64 r.2.phase, .bool r.2.fresh, .bool r.2.done, vv, vm] ∧ wr.ownsRow W0.heap.size 53 2 vv r.2.vals.length (r.2.vals.flatMap encM) ∧ OwnLi wr W0.heap.size vm r.2.mail ∧ Below W0.heap.size W0 wr)
  case atStart =>
    obtain ⟨A2, X2, V2, M2⟩ := W2.out
    exact ⟨(0, RB), _, _, 0, rfl, HC0.out, rfl, ⟨_, _, _, rfl⟩, ⟨_, _, _, rfl⟩, Nat.le_refl _, HST.out, X2, V2, M2, A2⟩
  case round =>
    obtain ⟨r, vv, vm, m, rfl, hcnt, rfl, ⟨x1, x2, x3, rfl⟩, ⟨y1, y2, y3, rfl⟩, hgk, hri, hx, hov, hom, hbel⟩ := hrel
    have RI : Hid (RanI n.toNat es k s R gk r) := hri
    have RC : Hid (m + cntR n.toNat es k s gk r = C) := hcnt
    have hmC : m ≤ 100001 := by omega
    have AB : Hid (Below W0.heap.size W0 wr) := hbel
    have XB : Hid (BX 42 wr b4 #[.int .i64 r.2.step, .int .i64 r.2.phase, .bool r.2.fresh, .bool r.2.done, .slice x1 x2 x3, .slice y1 y2 y3]) := hx
    have OV : Hid (wr.ownsRow W0.heap.size 53 2 (.slice x1 x2 x3) r.2.vals.length (r.2.vals.flatMap encM)) := hov
    have OM : Hid (OwnLi wr W0.heap.size (.slice y1 y2 y3) r.2.mail) := hom
    obtain ⟨Q1, hbw, hedr⟩ := HK.out _ hbel
    obtain ⟨q0, q1, q2, q3, q4, q5, q6⟩ := H7.out _ Q1
    obtain ⟨⟨c0, c1, c2, c3, c4, c5⟩, f0, f1, f2, f3, f4, f5⟩ := hx.all6
    have BW : Hid (Below w.heap.size w wr) := hbw
    have ER : Hid (EdR wr (.slice a es.length cap) es) := hedr
    have hsr := hbel.size
    clear hri hcnt hx hov hom hbel Q1 hbw hedr
    by_cases hgo : r.1 = 0 ∧ r.2.done = false
    · obtain ⟨f, rfl⟩ := RI.out.pos hgo.1
      have RI2 : Hid (RanI n.toNat es k s R f (nextE n.toNat es k s r.2)) := HGO.out R r f RI.out hgo.1 hgo.2
      have RC2 : Hid (m + 1 + cntR n.toNat es k s f (nextE n.toNat es k s r.2) = C) := by have := RC.out; rw [cntR_go hgo] at this; show _ = _; omega
      have HMY := (RI.out.2 hgo.1).1
      have CA1 : Hid (∀ X, EdR X (.slice a es.length cap) es → MlR X (.slice x1 x2 x3) r.2.vals → LiR X (.slice y1 y2 y3) r.2.mail → _) := fun X h1 h2 h3 => CA.out X r.2 _ _ HMY h1 h2 h3
      have MV : Hid (MlR wr (.slice x1 x2 x3) r.2.vals) := RowK.own encM_len OV.out
      have MM : Hid (LiR wr (.slice y1 y2 y3) r.2.mail) := OM.out.reads
      generalize nextE n.toNat es k s r.2 = N at *
      have t0 : (r.1 == 0) = true := by simpa using hgo.1
      rw [hgo.2] at c3 CA1
      clear HMY hgo RI RC OV OM CA HGO
      go_wp2_with fail
      refine (CA1.out _ ER.out MV.out MM.out).mono ?_
      rintro e w3 ⟨v1, v2, rfl, hv1, hv2, hb3⟩
      obtain ⟨a5, n5, k5, rfl⟩ : ∃ a n c, v1 = .slice a n c := by
        rcases own_shapeK hv1 with ⟨e, _⟩ | ⟨g', c', e, _⟩
        · exact ⟨_, _, _, e⟩
        · exact ⟨_, _, _, e⟩
      obtain ⟨a6, k6, rfl⟩ := hv2.shape
      generalize hn6 : N.2.mail.length = n6 at *
      have A3 : Below W0.heap.size W0 w3 := AB.out.trans (hb3.mono hsr)
      have X3 := XB.out.below hb3 XB.out.lt
      have XN : Hid (BX 42 (put6 w3 b4 (.int .i64 N.2.step) (.int .i64 N.2.phase) (.bool N.2.fresh) (.bool N.2.done) (.slice a5 n5 k5) (.slice a6 n6 k6)) b4 #[.int .i64 N.2.step, .int .i64 N.2.phase, .bool N.2.fresh, .bool N.2.done, .slice a5 n5 k5, .slice a6 n6 k6]) := X3.put6
      have VN : Hid ((put6 w3 b4 (.int .i64 N.2.step) (.int .i64 N.2.phase) (.bool N.2.fresh) (.bool N.2.done) (.slice a5 n5 k5) (.slice a6 n6 k6)).ownsRow W0.heap.size 53 2 (.slice a5 n5 k5) N.2.vals.length (N.2.vals.flatMap encM)) := own_lower (own_off hv1 X3 (by decide) (kept_put6 w3 b4 _ _ _ _ _ _)) hsr
      have MN : Hid (OwnLi (put6 w3 b4 (.int .i64 N.2.step) (.int .i64 N.2.phase) (.bool N.2.fresh) (.bool N.2.done) (.slice a5 n5 k5) (.slice a6 n6 k6)) W0.heap.size (.slice a6 n6 k6) N.2.mail) := (hv2.off X3 (by decide) (by decide) (kept_put6 w3 b4 _ _ _ _ _ _)).lower hsr
      have AN : Hid (Below W0.heap.size W0 (put6 w3 b4 (.int .i64 N.2.step) (.int .i64 N.2.phase) (.bool N.2.fresh) (.bool N.2.done) (.slice a5 n5 k5) (.slice a6 n6 k6))) := below_put6 A3 hb4 X3.lt _ _ _ _ _ _
      clear q0 q1 q2 q3 q4 q5 q6 c0 c1 c2 c3 c4 c5 f0 f1 f2 f3 f4 f5 hn6 hv1 hv2
      obtain ⟨⟨c0, c1, c2, c3, c4, c5⟩, f0, f1, f2, f3, f4, f5⟩ := X3.all6
      clear X3 A3 hb3
      unfold put6 at XN VN MN AN
      have wm : IntKind.i64.wrap ((m : Int) + 1) = ((m + 1 : Nat) : Int) := by rw [wrap_id64 (by omega) (by omega)]; rfl
      go_wp2_with fail
      go_roundg f
      case measure => omega
      case rel => exact ⟨N, _, _, m + 1, rfl, RC2.out, rfl, ⟨_, _, _, rfl⟩, ⟨_, _, _, rfl⟩, by omega, RI2.out, XN.out, VN.out, MN.out, AN.out⟩
    · have HM : m = C := by have := RC.out; rw [cntR_end hgo] at this; omega
      subst HM
      have hmul : ((m : Int) + 2) * (n + es.length + 12) ≤ 100003 * 812 := Int.mul_le_mul (by omega) (by omega) (by omega) (by omega)
      have hmul0 : 0 ≤ ((m : Int) + 2) * (n + es.length + 12) := Int.mul_nonneg (by omega) (by omega)
      have w1' : IntKind.i64.wrap ((m : Int) + 2) = (m : Int) + 2 := wrap_id64 (by omega) (by omega)
      have w2' : IntKind.i64.wrap (n + (es.length : Int)) = n + es.length := wrap_id64 (by omega) (by omega)
      have w3' : IntKind.i64.wrap (n + (es.length : Int) + 12) = n + es.length + 12 := wrap_id64 (by omega) (by omega)
      have w4' : IntKind.i64.wrap (((m : Int) + 2) * (n + (es.length : Int) + 12)) = ((m : Int) + 2) * (n + es.length + 12) := wrap_id64 (by omega) (by omega)
      clear hmul hmul0
      by_cases h1 : r.1 = 0
      · have t0 : (r.1 == 0) = true := by simpa using h1
        have hd : r.2.done = true := by
          cases hdn : r.2.done
          · exact absurd ⟨h1, hdn⟩ hgo
          · rfl
        rw [hd] at c3
        clear hgo h1 hd CA HGO RI RC
        go_wp2_with fail
        go_ret2
        exact ⟨by rw [HE.out]; rfl, BW.out⟩
      · have t0 : (r.1 == 0) = false := by simpa using h1
        clear hgo h1 CA HGO RI RC
        go_wp2_with fail
        go_ret2
        exact ⟨by rw [HE.out]; rfl, BW.out⟩
end Go.Proofs.Ytinijeejfnehmaa
