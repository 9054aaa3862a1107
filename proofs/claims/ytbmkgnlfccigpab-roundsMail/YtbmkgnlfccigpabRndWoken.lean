/-
  Contract of rounds.woken.
-/
import Derived.Test.YtbmkgnlfccigpabRndWake
import Derived.Test.YtbmkgnlfccigpabRndSaid
import Derived.Test.YtbmkgnlfccigpabValRow
import Derived.Test.YtbmkgnlfccigpabBoolRow
import Derived.Test.YtbmkgnlfccigpabRegionCall
import Derived.Deep.CutRange
namespace Go.Proofs.Ytbmkgnlfccigpab
set_option maxRecDepth 100000
open Go.ChangeShapes Go.WideShapes Go.ChangeAt Go.RowKit

/-- The values, as far as vertices have woken. -/
def vpR (m : Nat) (r : Int → Ml × Bool) (c : Nat) : List Ml := (valsR m r).take c ++ List.replicate (m - c) (0, 0)
theorem vpR_len {m c : Nat} {r : Int → Ml × Bool} (h : c ≤ m) : (vpR m r c).length = m := by simp [vpR, valsR_len]; omega
theorem vpR_zero (m : Nat) (r : Int → Ml × Bool) : vpR m r 0 = List.replicate m (0, 0) := by simp [vpR]
theorem vpR_all (m : Nat) (r : Int → Ml × Bool) : vpR m r m = valsR m r := by simp [vpR, List.take_of_length_le (Nat.le_of_eq (valsR_len m r))]
theorem vpR_set {m c : Nat} {r : Int → Ml × Bool} (h : c < m) : vpR m r (c + 1) = (vpR m r c).set c (r (c : Int)).1 := by
  unfold vpR
  rw [take_snoc (valsR_at h), List.append_assoc, show m - c = (m - (c + 1)) + 1 by omega, List.replicate_succ, List.set_append_right _ _ (by simp [valsR_len]; omega)]
  simp [valsR_len, Nat.min_eq_left (Nat.le_of_lt h)]
/-- What woken answers. -/
def WknP (w : World) (m : Nat) (r : Int → Ml × Bool) (e : Ending) (w' : World) : Prop :=
  ∃ v1 v2, e = .returned (.tuple #[v1, v2]) ∧ w'.ownsRow w.heap.size 44 2 v1 m ((valsR m r).flatMap encM) ∧ w'.ownsRow w.heap.size 4 1 v2 m ((sdR m r m).flatMap encT) ∧ Below w.heap.size w w'
theorem rnd_yes {j : Jb} {s : Int} {T : StS} {c : Nat} {x : Ml} {l : List Int} (hx : T.vals[c]? = some x) (hl : T.mail[c]? = some l) (h : T.fresh = true ∨ 0 < l.length) : rndV j s T (c : Int) = wakeV j (c : Int) s x T.fresh l := by
  have e1 : vlA T.vals (c : Int) = x := by unfold vlA; rw [List.getD_eq_getElem?_getD, Int.toNat_natCast, hx]; rfl
  have e2 : mlA T.mail (c : Int) = l := by unfold mlA; rw [List.getD_eq_getElem?_getD, Int.toNat_natCast, hl]; rfl
  unfold rndV
  rw [e1, e2, if_pos]
  rcases h with h | h
  · rw [h]; rfl
  · cases l with
    | nil => simp at h
    | cons a l => simp
theorem rnd_no {j : Jb} {s : Int} {T : StS} {c : Nat} {x : Ml} {l : List Int} (hx : T.vals[c]? = some x) (hl : T.mail[c]? = some l) (h : T.fresh = false) (h2 : ¬ 0 < l.length) : rndV j s T (c : Int) = (x, false) := by
  have e1 : vlA T.vals (c : Int) = x := by unfold vlA; rw [List.getD_eq_getElem?_getD, Int.toNat_natCast, hx]; rfl
  have e2 : mlA T.mail (c : Int) = l := by unfold mlA; rw [List.getD_eq_getElem?_getD, Int.toNat_natCast, hl]; rfl
  have e3 : l = [] := List.eq_nil_of_length_eq_zero (by omega)
  unfold rndV
  rw [e1, e2, if_neg (by rw [h, e3]; simp)]
theorem own_cur {w : World} {base g n cap size : Nat} {e : TypeId} {xs : List Value} (h : w.ownsRow base e size (.slice (some ⟨g, 0, none⟩) n cap) n xs) : ∃ cur, w.heap[g]? = some (.cells cur e (0, 0)) := by
  rcases h.2 with ⟨hv, _⟩ | ⟨g3, c3, cur, hv, _, hgg, _⟩
  · cases hv
  · injection hv with hv
    injection hv with hv
    injection hv with hv
    subst hv
    exact ⟨cur, hgg⟩
/-- Stores into a row leave a row of another type. -/
theorem own_else {w w' : World} {base b g n m size size' cap : Nat} {e e' : TypeId} {v : Value} {xs ys : List Value} (h : w.ownsRow base e size v n xs) (h2 : w.ownsRow b e' size' (.slice (some ⟨g, 0, none⟩) m cap) m ys) (hne : e ≠ e') (hk : Kept (fun k => k = g) w w') : w'.ownsRow base e size v n xs := by
  obtain ⟨cur, hc⟩ := own_cur h2
  exact hk.own h fun q hq e => own_block h hq hc hne e

set_option maxHeartbeats 4000000 in
set_option maxRecDepth 100000 in
theorem rWoken_any (ea : Option Addr) (el ec m : Nat) (n k s : Int) (j : Jb) (T : StS) (vv vm : Value) (w : World) (hv : MlR w vv T.vals) (hm : LiR w vm T.mail) (hj : jobF k T.phase = some j) (hI : MayI m j T) (hn : m ≤ 200) :
    Calls Try.prog 27 #[.agg #[.int .i64 n, .slice ea el ec, .int .i64 k, .int .i64 s], .agg #[.int .i64 T.step, .int .i64 T.phase, .bool T.fresh, .bool T.done, vv, vm]] w (WknP w m (rndV j s T)) := by
  have HV : Hid (MlR w vv T.vals) := hv
  have HM : Hid (LiR w vm T.mail) := hm
  obtain ⟨va, vc, rfl, hvc, hvm, _, _⟩ := hv
  obtain ⟨ma, mc, rfl, hmc, hmm, _⟩ := hm
  unfold maxLen at hvm hmm
  have lv1 : m ≤ T.vals.length := Nat.le_of_eq hI.lv.symm
  have lm1 : m ≤ T.mail.length := Nat.le_of_eq hI.lm.symm
  have lv2 : T.vals.length ≤ m := Nat.le_of_eq hI.lv
  have HLV : Hid (T.vals.length = m) := hI.lv
  obtain ⟨W0, hW0⟩ : ∃ W0, W0 = (w.alloc (.cells #[.int .i64 n, .slice ea el ec, .int .i64 k, .int .i64 s] 27)).alloc (.cells #[.int .i64 T.step, .int .i64 T.phase, .bool T.fresh, .bool T.done, .slice va T.vals.length vc, .slice ma T.mail.length mc] 34) := ⟨_, rfl⟩
  obtain ⟨Q0, T0, B0, s1, s2⟩ := boxes2 w #[.int .i64 n, .slice ea el ec, .int .i64 k, .int .i64 s] #[.int .i64 T.step, .int .i64 T.phase, .bool T.fresh, .bool T.done, .slice va T.vals.length vc, .slice ma T.mail.length mc] 27 34 W0 hW0
  have BH : Hid (Below w.heap.size w W0) := B0
  have HK : Hid (∀ X, Below W0.heap.size W0 X → BX 27 X w.heap.size #[.int .i64 n, .slice ea el ec, .int .i64 k, .int .i64 s] ∧ BX 34 X (w.heap.size + 1) #[.int .i64 T.step, .int .i64 T.phase, .bool T.fresh, .bool T.done, .slice va T.vals.length vc, .slice ma T.mail.length mc] ∧ Below w.heap.size w X) := fun X hX => ⟨Q0.below hX (by omega), T0.below hX (by omega), BH.out.trans (hX.mono (by omega))⟩
  have HVX : Hid (∀ X, Below W0.heap.size W0 X → MlR X (.slice va T.vals.length vc) T.vals ∧ LiR X (.slice ma T.mail.length mc) T.mail) := fun X hX => ⟨HV.out.below (HK.out _ hX).2.2 (Nat.le_refl _), HM.out.below (HK.out _ hX).2.2 (Nat.le_refl _)⟩
  have HWK : Hid (∀ X (c : Nat) (x : Ml) (l : List Int), Below W0.heap.size W0 X → T.vals[c]? = some x → T.mail[c]? = some l → Calls Try.prog 35 #[.agg #[.int .i64 n, .slice ea el ec, .int .i64 k, .int .i64 s], .agg #[.int .i64 T.step, .int .i64 T.phase, .bool T.fresh, .bool T.done, .slice va T.vals.length vc, .slice ma T.mail.length mc], .int .i64 (c : Int)] X fun e w' => e = .returned (.tuple #[.agg #[.int .i64 (wakeV j (c : Int) s x T.fresh l).1.1, .int .i64 (wakeV j (c : Int) s x T.fresh l).1.2], .bool (wakeV j (c : Int) s x T.fresh l).2, .int .i64 0]) ∧ Below X.heap.size X w') := fun X c x l hX hx hl => by
    have h1 := rWake_any (.slice ea el ec) n k s T _ _ c x l X ⟨_, _, _, rfl⟩ (HVX.out X hX).1 (HVX.out X hX).2 hx hl
    have hc : c < T.vals.length := (List.getElem?_eq_some_iff.1 hx).1
    have e : wakeF k (c : Int) s x T.phase T.fresh l = wakeJ j (c : Int) s x T.fresh l := by unfold wakeF; rw [hj]
    rw [e, wake_fit (by omega) (hI.val x (List.mem_of_getElem? hx)) (hI.mls l (List.mem_of_getElem? hl)).1] at h1
    exact h1
  have KEEP : Hid (∀ V, Below W0.heap.size W0 V → V.cell? ⟨w.heap.size + 1, 4, none⟩ = some (.slice va T.vals.length vc)) := fun V hV => (HK.out V hV).2.1.all6.1.2.2.2.2.1
  have RY : Hid (∀ (c : Nat) (x : Ml) (l : List Int), T.vals[c]? = some x → T.mail[c]? = some l → T.fresh = true ∨ 0 < l.length → rndV j s T (c : Int) = wakeV j (c : Int) s x T.fresh l) := fun c x l hx hl h => rnd_yes hx hl h
  have RN : Hid (∀ (c : Nat) (x : Ml) (l : List Int), T.vals[c]? = some x → T.mail[c]? = some l → T.fresh = false → ¬ 0 < l.length → rndV j s T (c : Int) = (x, false)) := fun c x l hx hl h h2 => rnd_no hx hl h h2
  have HS0 : Hid (W0.drew.cell? ⟨w.heap.size + 1, 4, none⟩ = some (.slice va T.vals.length vc)) := KEEP.out W0.drew (Below.refl _ _).drew
  have tl : (T.vals.length : Int) = (m : Int) := by rw [HLV.out]
  generalize rndV j s T = r at *
  obtain ⟨q0, q1, q2, q3⟩ := Q0.all4
  obtain ⟨⟨c0, c1, c2, c3, c4, c5⟩, _⟩ := T0.all6
  clear Q0 T0 B0 hI hj q0 q1 q2 q3 c0 c1 c2 c3 c4 c5
  go_enter Try.func27, Try.ntmps27
  go_upto_region 1 with fail
  rw [← hW0]
  clear hW0
  apply Hid.cut
  case h =>
    intro HG
    refine wp_region_held (S := fun V => V.cell? ⟨w.heap.size + 1, 4, none⟩ = some (.slice va T.vals.length vc)) (by kernel_rfl) ?_
    simp only [List.size_toArray, List.length_cons, List.length_nil, Nat.reduceAdd]
    refine takeH (i := 0) (v := .pointer (some ⟨w.heap.size + 1, 4, none⟩)) (d := 10) rfl rfl (by kernel_rfl) (by kernel_rfl) (by kernel_rfl) (fun _ _ _ h => h) (by rfl) (fun V hV => by have v1 := hV; clear hV; go_simp) HS0.out ?_
    simp only [Act.put, List.setIfInBounds_toArray, List.set_cons_zero, List.set_cons_succ]
    refine takeH (i := 1) (v := .slice va T.vals.length vc) (d := 11) rfl rfl (by kernel_rfl) (by kernel_rfl) (by kernel_rfl) (fun _ _ _ h => h) (by rfl) (fun V hV => by have v1 := hV; clear hV; go_simp) HS0.out ?_
    simp only [Act.put, List.setIfInBounds_toArray, List.set_cons_zero, List.set_cons_succ]
    refine takeH (i := 2) (v := .int .i64 (m : Int)) (d := 12) rfl rfl (by kernel_rfl) (by kernel_rfl) (by kernel_rfl) (fun _ _ _ h => h) (by rfl) (fun V hV => by have v1 := hV; clear hV; go_simp) HS0.out ?_
    simp only [Act.put, List.setIfInBounds_toArray, List.set_cons_zero, List.set_cons_succ]
    refine takeH (i := 4) (v := .pointer (some ⟨w.heap.size + 1, 4, none⟩)) (d := 14) rfl rfl (by kernel_rfl) (by kernel_rfl) (by kernel_rfl) (fun _ _ _ h => h) (by rfl) (fun V hV => by have v1 := hV; clear hV; go_simp) HS0.out ?_
    simp only [Act.put, List.setIfInBounds_toArray, List.set_cons_zero, List.set_cons_succ]
    refine takeH (i := 5) (v := .slice va T.vals.length vc) (d := 15) rfl rfl (by kernel_rfl) (by kernel_rfl) (by kernel_rfl) (fun _ _ _ h => h) (by rfl) (fun V hV => by have v1 := hV; clear hV; go_simp) HS0.out ?_
    simp only [Act.put, List.setIfInBounds_toArray, List.set_cons_zero, List.set_cons_succ]
    refine takeH (i := 6) (v := .int .i64 (m : Int)) (d := 16) rfl rfl (by kernel_rfl) (by kernel_rfl) (by kernel_rfl) (fun _ _ _ h => h) (by rfl) (fun V hV => by have v1 := hV; clear hV; go_simp) HS0.out ?_
    simp only [Act.put, List.setIfInBounds_toArray, List.set_cons_zero, List.set_cons_succ]
    refine twoH (i := 3) (j := 7) rfl rfl (by kernel_rfl) rfl rfl ?wA ?wB
    case wA =>
      obtain ⟨X1, mk1, o1, hb1⟩ := make_vals W0.drew m (by omega)
      have a1 : Below W0.heap.size W0 X1 := (Below.refl _ W0).drew.trans hb1
      have HS1 : Hid (X1.cell? ⟨w.heap.size + 1, 4, none⟩ = some (.slice va T.vals.length vc)) := KEEP.out X1 a1
      refine op_run (d := 13) (v' := .slice (some ⟨W0.drew.heap.size, 0, none⟩) m m) (w' := X1) rfl (by go_simp) ⟨HS1.out, ?_⟩
      simp only [Act.put, List.setIfInBounds_toArray, List.set_cons_zero, List.set_cons_succ]
      refine takeH (i := 8) (v := .slice (some ⟨W0.drew.heap.size, 0, none⟩) m m) (d := 6) rfl rfl (by kernel_rfl) (by kernel_rfl) (by kernel_rfl) (fun _ _ _ h => h) (by rfl) (fun V hV => by have v1 := hV; clear hV; go_simp) HS1.out ?_
      simp only [Act.put, List.setIfInBounds_toArray, List.set_cons_zero, List.set_cons_succ]
      obtain ⟨X2, mk2, o2, hb2⟩ := make_bools X1 m (by omega)
      have a2 : Below W0.heap.size W0 X2 := a1.trans (hb2.mono a1.size)
      have HS2 : Hid (X2.cell? ⟨w.heap.size + 1, 4, none⟩ = some (.slice va T.vals.length vc)) := KEEP.out X2 a2
      refine oneH (i := 7) rfl (by kernel_rfl) rfl (op_run (d := 17) (v' := .slice (some ⟨X1.heap.size, 0, none⟩) m m) (w' := X2) rfl (by go_simp) ⟨HS2.out, ?_⟩)
      simp only [Act.put, List.setIfInBounds_toArray, List.set_cons_zero, List.set_cons_succ]
      refine takeH (i := 9) (v := .slice (some ⟨X1.heap.size, 0, none⟩) m m) (d := 7) rfl rfl (by kernel_rfl) (by kernel_rfl) (by kernel_rfl) (fun _ _ _ h => h) (by rfl) (fun V hV => by have v1 := hV; clear hV; go_simp) HS2.out ?_
      simp only [Act.put, List.setIfInBounds_toArray, List.set_cons_zero, List.set_cons_succ]
      have FV : Hid (X2.ownsRow W0.heap.size 44 2 (.slice (some ⟨W0.drew.heap.size, 0, none⟩) m m) m ((List.replicate m ((0, 0) : Ml)).flatMap encM)) := own_below o1 hb2 (Nat.le_refl _)
      have FB : Hid (X2.ownsRow W0.heap.size 4 1 (.slice (some ⟨X1.heap.size, 0, none⟩) m m) m ((List.replicate m false).flatMap encT)) := own_lower o2 a1.size
      have FA : Hid (Below W0.heap.size W0 X2) := a2
      refine wpAnyH_done (by kernel_rfl) ?_ _
      clear mk1 o1 hb1 HS1 mk2 o2 hb2 HS2
      clear a2
      clear a1
      generalize W0.drew.heap.size = g1 at *
      generalize X1.heap.size = g2 at *
      revert FA
      revert FB
      revert FV
      revert X2
      revert g2
      revert g1
      exact HG.out
    case wB =>
      obtain ⟨X1, mk1, o1, hb1⟩ := make_bools W0.drew m (by omega)
      have a1 : Below W0.heap.size W0 X1 := (Below.refl _ W0).drew.trans hb1
      have HS1 : Hid (X1.cell? ⟨w.heap.size + 1, 4, none⟩ = some (.slice va T.vals.length vc)) := KEEP.out X1 a1
      refine op_run (d := 17) (v' := .slice (some ⟨W0.drew.heap.size, 0, none⟩) m m) (w' := X1) rfl (by go_simp) ⟨HS1.out, ?_⟩
      simp only [Act.put, List.setIfInBounds_toArray, List.set_cons_zero, List.set_cons_succ]
      obtain ⟨X2, mk2, o2, hb2⟩ := make_vals X1 m (by omega)
      have a2 : Below W0.heap.size W0 X2 := a1.trans (hb2.mono a1.size)
      have HS2 : Hid (X2.cell? ⟨w.heap.size + 1, 4, none⟩ = some (.slice va T.vals.length vc)) := KEEP.out X2 a2
      refine oneH (i := 3) rfl (by kernel_rfl) rfl (op_run (d := 13) (v' := .slice (some ⟨X1.heap.size, 0, none⟩) m m) (w' := X2) rfl (by go_simp) ⟨HS2.out, ?_⟩)
      simp only [Act.put, List.setIfInBounds_toArray, List.set_cons_zero, List.set_cons_succ]
      refine takeH (i := 8) (v := .slice (some ⟨X1.heap.size, 0, none⟩) m m) (d := 6) rfl rfl (by kernel_rfl) (by kernel_rfl) (by kernel_rfl) (fun _ _ _ h => h) (by rfl) (fun V hV => by have v1 := hV; clear hV; go_simp) HS2.out ?_
      simp only [Act.put, List.setIfInBounds_toArray, List.set_cons_zero, List.set_cons_succ]
      refine takeH (i := 9) (v := .slice (some ⟨W0.drew.heap.size, 0, none⟩) m m) (d := 7) rfl rfl (by kernel_rfl) (by kernel_rfl) (by kernel_rfl) (fun _ _ _ h => h) (by rfl) (fun V hV => by have v1 := hV; clear hV; go_simp) HS2.out ?_
      simp only [Act.put, List.setIfInBounds_toArray, List.set_cons_zero, List.set_cons_succ]
      have FV : Hid (X2.ownsRow W0.heap.size 44 2 (.slice (some ⟨X1.heap.size, 0, none⟩) m m) m ((List.replicate m ((0, 0) : Ml)).flatMap encM)) := own_lower o2 a1.size
      have FB : Hid (X2.ownsRow W0.heap.size 4 1 (.slice (some ⟨W0.drew.heap.size, 0, none⟩) m m) m ((List.replicate m false).flatMap encT)) := own_below o1 hb2 (Nat.le_refl _)
      have FA : Hid (Below W0.heap.size W0 X2) := a2
      refine wpAnyH_done (by kernel_rfl) ?_ _
      exact HG.out _ _ _ FV FB FA
  case g =>
    intro g1 g2 X FV FB FA
    clear HS0 KEEP tl
    have hg1 := FV.out.lt g1 rfl
    have hg2 := FB.out.lt g2 rfl
    have hne : g1 ≠ g2 := by
      obtain ⟨cur, hc⟩ := own_cur FB.out
      exact own_block FV.out rfl hc (by decide)
    have FV0 : Hid (X.ownsRow W0.heap.size 44 2 (.slice (some ⟨g1, 0, none⟩) m m) m ((vpR m r 0).flatMap encM)) := by
      show World.ownsRow _ _ _ _ _ _ _
      rw [vpR_zero]; exact FV.out
    have FB0 : Hid (X.ownsRow W0.heap.size 4 1 (.slice (some ⟨g2, 0, none⟩) m m) m ((sdR m r 0).flatMap encT)) := by
      show World.ownsRow _ _ _ _ _ _ _
      rw [sdR_zero]; exact FB.out
    obtain ⟨_, T1, _⟩ := HK.out X FA.out
    obtain ⟨⟨c0, c1, c2, c3, c4, c5⟩, _⟩ := T1.all6
    clear FV FB T1
    go_wp2_with fail
    clear c0 c1 c2 c3 c4 c5
    go_loopw [21] (fun i wr => ∃ c : Nat, c ≤ m ∧ i = .int .i64 c ∧ wr.ownsRow W0.heap.size 44 2 (.slice (some ⟨g1, 0, none⟩) m m) m ((vpR m r c).flatMap encM) ∧ wr.ownsRow W0.heap.size 4 1 (.slice (some ⟨g2, 0, none⟩) m m) m ((sdR m r c).flatMap encT) ∧ Below W0.heap.size W0 wr) (fun i _ => m - (intOf i).toNat)
    case atStart => exact ⟨0, by omega, rfl, FV0.out, FB0.out, FA.out⟩
    case round =>
      obtain ⟨c, hc, rfl, hov, hob, hbel⟩ := hrel
      have OV : Hid (wr.ownsRow W0.heap.size 44 2 (.slice (some ⟨g1, 0, none⟩) m m) m ((vpR m r c).flatMap encM)) := hov
      have OB : Hid (wr.ownsRow W0.heap.size 4 1 (.slice (some ⟨g2, 0, none⟩) m m) m ((sdR m r c).flatMap encT)) := hob
      have AB : Hid (Below W0.heap.size W0 wr) := hbel
      have hsr := hbel.size
      clear hov hob hbel FV0 FB0 FA
      by_cases hlt : c < m
      · obtain ⟨b1, o1, cap1, e1, lt1, hv1⟩ := MlR.read (HVX.out _ AB.out).1 (by omega)
        injection e1 with e1 _ e3
        subst e1 e3
        obtain ⟨b2, o2, cap2, e2, lt2, hc1, hc2, hv2⟩ := (HVX.out _ AB.out).2.at (by omega)
        injection e2 with e2 _ e4
        subst e2 e4
        obtain ⟨x, hx⟩ := getX (show c < T.vals.length by omega)
        obtain ⟨l, hl⟩ := getX (show c < T.mail.length by omega)
        obtain ⟨d0, d1⟩ := hv1 c x hx
        obtain ⟨u, hu, hur⟩ := hv2 c l hl
        obtain ⟨ua, uc, rfl, huc, hum, _⟩ := hur
        unfold maxLen at hum
        have p0 : (0 : Int) ≤ (c : Int) := by omega
        have p1 : (c : Int) < (T.vals.length : Int) := by omega
        have p2 : (c : Int) < (T.mail.length : Int) := by omega
        have p3 : (c : Int) < (m : Int) := by omega
        have HY1 : Hid (T.fresh = true ∨ 0 < l.length → r (c : Int) = wakeV j (c : Int) s x T.fresh l) := RY.out c x l hx hl
        have HN1 : Hid (T.fresh = false → ¬ 0 < l.length → r (c : Int) = (x, false)) := RN.out c x l hx hl
        have HWC : Hid (∀ X, Below W0.heap.size W0 X → _) := fun X hX => HWK.out X c x l hX hx hl
        have HVS : Hid (∀ y, (vpR m r c).set c y = (vpR m r c).set c y) := fun _ => rfl
        have HVN : Hid (vpR m r (c + 1) = (vpR m r c).set c (r (c : Int)).1) := vpR_set hlt
        have HBN : Hid (sdR m r (c + 1) = (sdR m r c).set c (r (c : Int)).2) := sdR_set hlt
        have HBK : Hid ((r (c : Int)).2 = false → sdR m r (c + 1) = sdR m r c) := sdR_keep hlt
        have hvl : c < (vpR m r c).length := by rw [vpR_len hc]; exact hlt
        obtain ⟨y, hy⟩ := getX hvl
        obtain ⟨b0, hb0⟩ := getX (show c < (sdR m r c).length by rw [sdR_len]; exact hlt)
        obtain ⟨k0, k1⟩ := own_atV OV.out hy
        have k2 := own_atB OB.out hb0
        have f0 := frozenK OV.out (c * 2)
        have f1 := frozenK OV.out (c * 2 + 1)
        have f2 := frozenK OB.out c
        clear hv1 hv2 hx hl hy hb0 HVS
        -- the box of the old value
        obtain ⟨w1, hw1⟩ : ∃ w1, w1 = wr.alloc (.cells #[.int .i64 x.1, .int .i64 x.2] 44) := ⟨_, rfl⟩
        have X1 : BX 44 w1 wr.heap.size #[.int .i64 x.1, .int .i64 x.2] := by rw [hw1]; exact BX.new _ _ _
        have ba : Below wr.heap.size wr w1 := by rw [hw1]; exact below_alloc _ _
        have A1 : Hid (Below W0.heap.size W0 w1) := AB.out.trans (ba.mono hsr)
        have OV1 : Hid (w1.ownsRow W0.heap.size 44 2 (.slice (some ⟨g1, 0, none⟩) m m) m ((vpR m r c).flatMap encM)) := own_below OV.out ba (Nat.le_refl _)
        have OB1 : Hid (w1.ownsRow W0.heap.size 4 1 (.slice (some ⟨g2, 0, none⟩) m m) m ((sdR m r c).flatMap encT)) := own_below OB.out ba (Nat.le_refl _)
        obtain ⟨z0, z1, _⟩ := X1.all2
        have gx1 : wr.heap.size ≠ g1 := by have := (OV.out.lt g1 rfl).2; omega
        have gx2 : wr.heap.size ≠ g2 := by have := (OB.out.lt g2 rfl).2; omega
        -- its store
        obtain ⟨w2, hw2⟩ : ∃ w2, w2 = putV w1 g1 (c * 2) x := ⟨_, rfl⟩
        have kp2 : Kept (fun k => k = g1) w1 w2 := by rw [hw2]; exact kept_putV _ _ _ _
        have A2 : Hid (Below W0.heap.size W0 w2) := by show Below _ _ _; rw [hw2]; exact below_putV A1.out (by omega) _
        have OV2 : Hid (w2.ownsRow W0.heap.size 44 2 (.slice (some ⟨g1, 0, none⟩) m m) m (((vpR m r c).set c x).flatMap encM)) := by show World.ownsRow _ _ _ _ _ _ _; rw [hw2]; exact own_putV OV1.out hvl x
        have OB2 : Hid (w2.ownsRow W0.heap.size 4 1 (.slice (some ⟨g2, 0, none⟩) m m) m ((sdR m r c).flatMap encT)) := own_else OB1.out OV1.out (by decide) kp2
        have z2 := own_atV OV1.out (show (vpR m r c)[c]? = some (vpR m r c)[c] from List.getElem?_eq_getElem hvl)
        obtain ⟨z3, z4⟩ := z2
        have f3 := frozenK OV1.out (c * 2)
        have f4 := frozenK OV1.out (c * 2 + 1)
        clear k0 k1 k2 f0 f1 f2 y X1
        unfold putV at hw2
        have HW2 : Hid (w2 = (w1.setCell ⟨g1, c * 2, none⟩ (.int .i64 x.1)).setCell ⟨g1, c * 2 + 1, none⟩ (.int .i64 x.2)) := hw2
        clear hw2
        go_upto_region 5 with fail
        rw [← hw1]
        clear hw1
        go_upto_region 6 with fail
        rw [← HW2.out]
        clear HW2 z0 z1 z3 z4 f3 f4 d0 d1
        obtain ⟨Q2, T2, hbw⟩ := HK.out w2 A2.out
        obtain ⟨q0, q1, q2, q3⟩ := Q2.all4
        obtain ⟨⟨c0, c1, c2, c3, c4, c5⟩, _⟩ := T2.all6
        have hu2 : w2.cell? ⟨b2, o2 + c, none⟩ = some (.slice ua l.length uc) := by
          have h9 : b2 < W0.heap.size ∨ ¬ b2 < W0.heap.size := by omega
          rw [kp2.cell (p := ⟨b2, o2 + c, none⟩) (show b2 < w1.heap.size from Nat.lt_of_lt_of_le lt2 ba.size) (show ¬ b2 = g1 from ?_), ba.cell (p := ⟨b2, o2 + c, none⟩) lt2]
          · exact hu
          · intro e
            obtain ⟨bq, oq, cq, eq, ltq, _⟩ := HM.out.at (show 0 < T.mail.length by omega)
            injection eq with eq
            injection eq with eq
            injection eq with eq
            omega
        clear Q2 T2 hbw hu ba kp2
        rcases Bool.eq_false_or_eq_true T.fresh with hfr | hfr
        rotate_left
        · by_cases hll : 0 < l.length
          · have HR : Hid (r (c : Int) = wakeV j (c : Int) s x T.fresh l) := HY1.out (.inr hll)
            have t0 : (0 : Int) < (l.length : Int) := by omega
            have HW2 := HWC.out w2 A2.out
            generalize wakeV j (c : Int) s x T.fresh l = R at *
            obtain ⟨⟨R1, R2⟩, R3⟩ := R
            simp only at HW2
            rw [hfr] at c2 HW2
            clear hfr HWC HWK
            go_wp2_with fail
            refine HW2.mono ?_
            rintro e w3 ⟨rfl, hb3⟩
            have A3 : Hid (Below W0.heap.size W0 w3) := A2.out.trans (hb3.mono A2.out.size)
            have OV3 : Hid (w3.ownsRow W0.heap.size 44 2 (.slice (some ⟨g1, 0, none⟩) m m) m (((vpR m r c).set c x).flatMap encM)) := own_below OV2.out hb3 (Nat.le_refl _)
            have OB3 : Hid (w3.ownsRow W0.heap.size 4 1 (.slice (some ⟨g2, 0, none⟩) m m) m ((sdR m r c).flatMap encT)) := own_below OB2.out hb3 (Nat.le_refl _)
            have hvl3 : c < ((vpR m r c).set c x).length := by rw [List.length_set]; exact hvl
            obtain ⟨z3, z4⟩ := own_atV OV3.out (List.getElem?_eq_getElem hvl3)
            have f3 := frozenK OV3.out (c * 2)
            have f4 := frozenK OV3.out (c * 2 + 1)
            have OV4 : Hid ((putV w3 g1 (c * 2) (R1, R2)).ownsRow W0.heap.size 44 2 (.slice (some ⟨g1, 0, none⟩) m m) m ((vpR m r (c + 1)).flatMap encM)) := by
              show World.ownsRow _ _ _ _ _ _ _
              have := own_putV OV3.out hvl3 (R1, R2)
              rw [List.set_set] at this
              rw [HVN.out, HR.out]; exact this
            have OB4 : Hid ((putV w3 g1 (c * 2) (R1, R2)).ownsRow W0.heap.size 4 1 (.slice (some ⟨g2, 0, none⟩) m m) m ((sdR m r c).flatMap encT)) := own_else OB3.out OV3.out (by decide) (kept_putV _ _ _ _)
            have A4 : Hid (Below W0.heap.size W0 (putV w3 g1 (c * 2) (R1, R2))) := below_putV A3.out (by omega) _
            obtain ⟨y0, hy0⟩ := getX (show c < (sdR m r c).length by rw [sdR_len]; exact hlt)
            have z5 := own_atB OB4.out hy0
            have f5 := frozenK OB4.out c
            have OB5 : Hid (((putV w3 g1 (c * 2) (R1, R2)).setCell ⟨g2, c, none⟩ (.bool R3)).ownsRow W0.heap.size 4 1 (.slice (some ⟨g2, 0, none⟩) m m) m ((sdR m r (c + 1)).flatMap encT)) := by
              show World.ownsRow _ _ _ _ _ _ _
              rw [HBN.out, HR.out]; exact own_setB OB4.out
            have OV5 : Hid (((putV w3 g1 (c * 2) (R1, R2)).setCell ⟨g2, c, none⟩ (.bool R3)).ownsRow W0.heap.size 44 2 (.slice (some ⟨g1, 0, none⟩) m m) m ((vpR m r (c + 1)).flatMap encM)) := own_else OV4.out OB4.out (by decide) (Kept.box _ _ _ _)
            have A5 : Hid (Below W0.heap.size W0 ((putV w3 g1 (c * 2) (R1, R2)).setCell ⟨g2, c, none⟩ (.bool R3))) := A4.out.setCell (p := ⟨g2, c, none⟩) (by show W0.heap.size ≤ g2; omega) _
            unfold putV at z5 f5 OB5 OV5 A5
            clear q0 q1 q2 q3 c0 c1 c2 c3 c4 c5 hb3 hy0 hu2
            go_wp2_with fail
            go_roundw
            case rel => exact ⟨c + 1, by omega, by go_num, OV5.out, OB5.out, A5.out⟩
            case measure => simp [intOf]; omega
          · have HR : Hid (r (c : Int) = (x, false)) := HN1.out hfr hll
            have OVE : Hid (w2.ownsRow W0.heap.size 44 2 (.slice (some ⟨g1, 0, none⟩) m m) m ((vpR m r (c + 1)).flatMap encM)) := by
              show World.ownsRow _ _ _ _ _ _ _
              rw [HVN.out, HR.out]; exact OV2.out
            have OBE : Hid (w2.ownsRow W0.heap.size 4 1 (.slice (some ⟨g2, 0, none⟩) m m) m ((sdR m r (c + 1)).flatMap encT)) := by
              show World.ownsRow _ _ _ _ _ _ _
              rw [HBK.out (by rw [HR.out])]; exact OB2.out
            rw [hfr] at c2
            have t0 : ¬ (0 : Int) < (l.length : Int) := by omega
            clear hfr
            go_wp2_with fail
            go_roundw
            case rel => exact ⟨c + 1, by omega, by go_num, OVE.out, OBE.out, A2.out⟩
            case measure => simp [intOf]; omega
        · have hll := True.intro
          have HR : Hid (r (c : Int) = wakeV j (c : Int) s x T.fresh l) := HY1.out (.inl hfr)
          have t0 : True := hll
          have HW2 := HWC.out w2 A2.out
          generalize wakeV j (c : Int) s x T.fresh l = R at *
          obtain ⟨⟨R1, R2⟩, R3⟩ := R
          simp only at HW2
          rw [hfr] at c2 HW2
          clear hfr HWC HWK
          go_wp2_with fail
          refine HW2.mono ?_
          rintro e w3 ⟨rfl, hb3⟩
          have A3 : Hid (Below W0.heap.size W0 w3) := A2.out.trans (hb3.mono A2.out.size)
          have OV3 : Hid (w3.ownsRow W0.heap.size 44 2 (.slice (some ⟨g1, 0, none⟩) m m) m (((vpR m r c).set c x).flatMap encM)) := own_below OV2.out hb3 (Nat.le_refl _)
          have OB3 : Hid (w3.ownsRow W0.heap.size 4 1 (.slice (some ⟨g2, 0, none⟩) m m) m ((sdR m r c).flatMap encT)) := own_below OB2.out hb3 (Nat.le_refl _)
          have hvl3 : c < ((vpR m r c).set c x).length := by rw [List.length_set]; exact hvl
          obtain ⟨z3, z4⟩ := own_atV OV3.out (List.getElem?_eq_getElem hvl3)
          have f3 := frozenK OV3.out (c * 2)
          have f4 := frozenK OV3.out (c * 2 + 1)
          have OV4 : Hid ((putV w3 g1 (c * 2) (R1, R2)).ownsRow W0.heap.size 44 2 (.slice (some ⟨g1, 0, none⟩) m m) m ((vpR m r (c + 1)).flatMap encM)) := by
            show World.ownsRow _ _ _ _ _ _ _
            have := own_putV OV3.out hvl3 (R1, R2)
            rw [List.set_set] at this
            rw [HVN.out, HR.out]; exact this
          have OB4 : Hid ((putV w3 g1 (c * 2) (R1, R2)).ownsRow W0.heap.size 4 1 (.slice (some ⟨g2, 0, none⟩) m m) m ((sdR m r c).flatMap encT)) := own_else OB3.out OV3.out (by decide) (kept_putV _ _ _ _)
          have A4 : Hid (Below W0.heap.size W0 (putV w3 g1 (c * 2) (R1, R2))) := below_putV A3.out (by omega) _
          obtain ⟨y0, hy0⟩ := getX (show c < (sdR m r c).length by rw [sdR_len]; exact hlt)
          have z5 := own_atB OB4.out hy0
          have f5 := frozenK OB4.out c
          have OB5 : Hid (((putV w3 g1 (c * 2) (R1, R2)).setCell ⟨g2, c, none⟩ (.bool R3)).ownsRow W0.heap.size 4 1 (.slice (some ⟨g2, 0, none⟩) m m) m ((sdR m r (c + 1)).flatMap encT)) := by
            show World.ownsRow _ _ _ _ _ _ _
            rw [HBN.out, HR.out]; exact own_setB OB4.out
          have OV5 : Hid (((putV w3 g1 (c * 2) (R1, R2)).setCell ⟨g2, c, none⟩ (.bool R3)).ownsRow W0.heap.size 44 2 (.slice (some ⟨g1, 0, none⟩) m m) m ((vpR m r (c + 1)).flatMap encM)) := own_else OV4.out OB4.out (by decide) (Kept.box _ _ _ _)
          have A5 : Hid (Below W0.heap.size W0 ((putV w3 g1 (c * 2) (R1, R2)).setCell ⟨g2, c, none⟩ (.bool R3))) := A4.out.setCell (p := ⟨g2, c, none⟩) (by show W0.heap.size ≤ g2; omega) _
          unfold putV at z5 f5 OB5 OV5 A5
          clear q0 q1 q2 q3 c0 c1 c2 c3 c4 c5 hb3 hy0 hu2
          go_wp2_with fail
          go_roundw
          case rel => exact ⟨c + 1, by omega, by go_num, OV5.out, OB5.out, A5.out⟩
          case measure => simp [intOf]; omega
      · have ec : c = m := by omega
        have OVE : Hid (wr.ownsRow w.heap.size 44 2 (.slice (some ⟨g1, 0, none⟩) m m) m ((valsR m r).flatMap encM)) := by
          have := OV.out
          rw [ec, vpR_all] at this
          exact own_lower this (by omega)
        have OBE : Hid (wr.ownsRow w.heap.size 4 1 (.slice (some ⟨g2, 0, none⟩) m m) m ((sdR m r m).flatMap encT)) := by
          have := OB.out
          rw [ec] at this
          exact own_lower this (by omega)
        have BE : Hid (Below w.heap.size w wr) := (HK.out _ AB.out).2.2
        clear ec
        go_wp2_with fail
        exact bodyPost_ret (v := .tuple #[.slice (some ⟨g1, 0, none⟩) m m, .slice (some ⟨g2, 0, none⟩) m m]) (by simp [results, Try.results27, go_sem]) rfl ⟨_, _, rfl, OVE.out, OBE.out, BE.out⟩
end Go.Proofs.Ytbmkgnlfccigpab
