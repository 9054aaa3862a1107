/-
  Nothing of another epoch is handed on, or acked, whatever mail is sent (the law LinkEpoch returns true, and its arguments read as before); no condition.
-/
import Derived.Test.YtjmjpmnjibdhhabPostMail
import Derived.Test.YtjmjpmnjibdhhabLinedMath
import Derived.Test.YtjmjpmnjibdhhabLinkOpen
import Derived.Test.YtjmjpmnjibdhhabLinkDue
import Derived.Test.YtjmjpmnjibdhhabLinkHear
import Derived.Test.YtjmjpmnjibdhhabRegionThree
import Derived.WalkKit
import Derived.ProofKit
import Derived.OpenShut
import Derived.ShutString
import Derived.SizedLaws
import Derived.ChangeOld
import Derived.Below
import Derived.Deep.QuietTactic
import Derived.BigQuiet
import Derived.Lib.QuietBelow
namespace Go.Proofs.Ytjmjpmnjibdhhab.linkEpoch
set_option maxRecDepth 100000
open Go.ChangeShapes Go.WideShapes Go.ChangeAt Go.RowKit

theorem own : ownKnob Try.prog.godebug = none := by kernel_rfl
theorem laidOut : laidOutB Try.prog = true := by kernel_rfl
theorem openIs {e : Int} (h : 0 ≤ e ∧ e ≤ 1099511627776) (X : World) : Calls Try.prog 9 #[.int .i64 e] X fun E w' => E = .returned (.tuple #[.agg #[.int .i64 e, .int .i64 0, .slice none 0 0], .agg #[.int .i64 e, .int .i64 0], .int .i64 0]) ∧ Below X.heap.size X w' := by
  have h1 := open_any e X
  have e1 : openE e = 0 := by unfold openE; rw [wi_yes h]; rfl
  unfold OpnP at h1
  rw [e1, okN_yes] at h1
  exact h1
theorem sendIs {e : Int} (he : 0 ≤ e ∧ e ≤ 1099511627776) {L : List Ml} {i : Nat} {m : Ml} (hL : L.length ≤ 12) (hm : L[i]? = some m) (v : Value) (X : World) (hX : MlR X v (L.take i)) :
    Calls Try.prog 10 #[.agg #[.int .i64 e, .int .i64 0, v], .agg #[.int .i64 m.1, .int .i64 m.2]] X fun E w' => ∃ u, E = .returned u ∧ (∃ y, u = .tuple #[.agg #[.int .i64 e, .int .i64 0, y], .int .i64 0] ∧ w'.ownsRow X.heap.size 41 2 y (L.take (i + 1)).length ((L.take (i + 1)).flatMap encM) ∧ Below X.heap.size X w') := by
  have hlt : i < L.length := (List.getElem?_eq_some_iff.1 hm).1
  have hl : (L.take i).length = i := by rw [List.length_take]; omega
  have h := send_any e 0 m v (L.take i) X hX (by rw [hl]; omega)
  have e1 : sendE e 0 (L.take i).length = 0 := by
    have hm : mayS e 0 (L.take i).length = true := mayS_iff.2 ⟨he, by omega, by rw [hl]; omega⟩
    unfold sendE
    rw [hm, if_pos rfl, if_neg (by rw [hl]; omega)]
  rw [e1, ← take_snoc hm] at h
  exact h.mono fun E w' ⟨y, h1, h2, h3⟩ => ⟨_, h1, y, rfl, h2, h3⟩
theorem dueIs {e : Int} (he : 0 ≤ e ∧ e ≤ 1099511627776) {L : List Ml} (hL : L.length ≤ 12) (v : Value) (X : World) (hX : MlR X v L) :
    Calls Try.prog 11 #[.agg #[.int .i64 e, .int .i64 0, v]] X fun E w' => ∃ y, E = .returned (.tuple #[y, .int .i64 0]) ∧ w'.ownsRow X.heap.size 50 4 y (dueF e 0 L).length ((dueF e 0 L).flatMap encP) ∧ Below X.heap.size X w' := by
  have h := due_any e 0 v L X hX (by omega)
  have e1 : dueE e 0 L.length = 0 := by
    unfold dueE
    rw [mayS_iff.2 ⟨he, by omega, by omega⟩]
    rfl
  rw [e1] at h
  exact h
theorem dueF_at {e : Int} {L : List Ml} {t : Nat} {p : Pk} (h : (dueF e 0 L)[t]? = some p) : ∃ m, p = (e, (t : Int), m) := by
  rw [dueF, pksF_at] at h
  cases hx : (L.take 4)[t]? with
  | none => rw [hx] at h; cases h
  | some m =>
    rw [hx] at h
    simp only [Option.map_some, Option.some.injEq] at h
    exact ⟨m, by rw [← h]; simp⟩
/-- What a receiver of the epoch c answers to a packet of the epoch e and the number t. -/
theorem hearIs (e c : Int) (hc : 0 ≤ c ∧ c ≤ 1099511627776) (t : Nat) (m : Ml) : ∃ (ee kk ff : Int) (hl : List Ml), (∀ X, Calls Try.prog 12 #[.agg #[.int .i64 c, .int .i64 0], .agg #[.int .i64 e, .int .i64 (t : Int), .int .i64 m.1, .int .i64 m.2]] X fun E w' => ∃ u, E = .returned u ∧ (∃ y, u = .tuple #[.agg #[.int .i64 ee, .int .i64 kk], y, .agg #[.int .i64 ee, .int .i64 kk], .int .i64 ff] ∧ w'.ownsRow X.heap.size 41 2 y hl.length (hl.flatMap encM) ∧ Below X.heap.size X w')) ∧
    ((e = c ∧ ff = 0 ∧ hl.length ≤ 1 ∧ ((hl.length : Int) == 1) = ((t : Int) == 0)) ∨ (¬ e = c ∧ ff = 11 ∧ hl.length = 0 ∧ kk = 0)) := by
  refine ⟨okN (hearE c 0 e) c, okN (hearE c 0 e) (hearW 0 (t : Int)), hearE c 0 e, okL (hearE c 0 e) (hearL 0 (t : Int) m), fun X => (hear_any c 0 e (t : Int) m X).mono fun E w' ⟨y, h1, h2, h3⟩ => ⟨_, h1, y, rfl, h2, h3⟩, ?_⟩
  have hw : (wi c && wi 0) = true := by rw [wi_yes hc]; rfl
  by_cases h : e = c
  · have e1 : hearE c 0 e = 0 := by unfold hearE; rw [hw, if_pos rfl, if_pos h]
    refine .inl ⟨h, e1, ?_, ?_⟩
    · rw [e1, okL_yes]; exact hearL_len _ _ _
    · rw [e1, okL_yes]
      unfold hearL
      by_cases ht : (t : Int) = 0
      · rw [if_pos ht, ht]; rfl
      · rw [if_neg ht]
        have : ((t : Int) == 0) = false := by simpa using ht
        rw [this]; rfl
  · have e1 : hearE c 0 e = 11 := by unfold hearE; rw [hw, if_pos rfl, if_neg h]
    exact .inr ⟨h, e1, by rw [e1]; rfl, by rw [e1]; rfl⟩
theorem ackIs {e c : Int} (he : 0 ≤ e ∧ e ≤ 1099511627776) (hne : ¬ e = c) {L : List Ml} (hL : L.length ≤ 12) (v : Value) (X : World) (hX : MlR X v L) :
    Calls Try.prog 13 #[.agg #[.int .i64 e, .int .i64 0, v], .agg #[.int .i64 c, .int .i64 1]] X fun E w' => ∃ (z1 z2 : Int) (a : Option Addr) (n cp : Nat), E = .returned (.tuple #[.agg #[.int .i64 z1, .int .i64 z2, .slice a n cp], .int .i64 11]) ∧ Below X.heap.size X w' := by
  have h := acked_any e 0 c 1 v L X hX (by omega) ⟨by omega, by omega⟩
  have e1 : ackE e 0 L.length c 1 = 11 := by
    unfold ackE
    rw [mayS_iff.2 ⟨he, by omega, by omega⟩, if_pos rfl, if_neg (fun h => hne h.symm)]
  rw [e1] at h
  refine h.mono ?_
  rintro E w' ⟨y, rfl, h2, h3⟩
  obtain ⟨a, cp, rfl⟩ := (MlR.ownd h2).shape
  exact ⟨_, _, _, _, _, rfl, h3⟩
set_option maxHeartbeats 8000000 in
set_option maxRecDepth 100000 in
theorem walk (v0 : Value) (es0 : List Ml) (n1 : Int) (n2 : Int) (w : World) (hR0 : MlR w v0 es0) (hB0 : ∀ x ∈ es0, mlB x) (hL0 : es0.length * 16 ≤ 140737488351232) (hI1 : -9223372036854775808 ≤ n1 ∧ n1 ≤ 9223372036854775807) (hI2 : -9223372036854775808 ≤ n2 ∧ n2 ≤ 9223372036854775807) :
    Calls Try.prog 4 #[v0, .int .i64 n1, .int .i64 n2] w fun e w' => e = .returned (.bool true) ∧ Below w.heap.size w w' := by
  have _u := hR0
  clear _u
  have _u := hB0
  clear _u
  have _u := hL0
  clear _u
  have _u := hI1
  clear _u
  have _u := hI2
  clear _u
  have HR : Hid (MlR w v0 es0) := hR0
  have HB0 : Hid (∀ x ∈ es0, mlB x) := hB0
  obtain ⟨a, cap, rfl⟩ := hR0.shape
  have esnd : ∀ args w, (callFunc 10 args).run Try.prog w = .ok (.enter 10 args) w := enters_of Try.func10 (by kernel_rfl) rfl
  have ehear : ∀ args w, (callFunc 12 args).run Try.prog w = .ok (.enter 12 args) w := enters_of Try.func12 (by kernel_rfl) rfl
  have hA := pickF_bd n1 100 (by omega)
  have hC := pickF_bd n2 100 (by omega)
  have C1 : Hid (∀ X, Calls Try.prog 8 #[.int .i64 n1, .int .i64 100] X fun e w' => e = .returned (.int .i64 (pickF n1 100)) ∧ w' = X) := fun X => picked_any n1 100 X hI1.1 hI1.2 (by omega) (by omega)
  have C2 : Hid (∀ X, Calls Try.prog 8 #[.int .i64 n2, .int .i64 100] X fun e w' => e = .returned (.int .i64 (pickF n2 100)) ∧ w' = X) := fun X => picked_any n2 100 X hI2.1 hI2.2 (by omega) (by omega)
  generalize pickF n1 100 = A at *
  generalize pickF n2 100 = C at *
  have HPL : Hid ((postN 5 es0).length ≤ 5) := postN_len 5 es0
  have HA : Hid (0 ≤ A ∧ A ≤ 1099511627776) := ⟨by omega, by omega⟩
  have HC : Hid (0 ≤ C ∧ C ≤ 1099511627776) := ⟨by omega, by omega⟩
  clear hR0 hB0 hA hC
  go_enter Try.func4, Try.ntmps4
  go_wp2_with fail
  refine (C1.out _).mono ?_
  rintro E w9 ⟨rfl, hw⟩
  replace hw := hw.symm
  subst hw
  go_wp2_with fail
  refine (C2.out _).mono ?_
  rintro E w9 ⟨rfl, hw⟩
  replace hw := hw.symm
  subst hw
  go_wp2_with fail
  refine (openIs HA.out _).mono ?_
  rintro E w1 ⟨rfl, hb1⟩
  have B1 : Hid (Below w.heap.size w w1) := hb1
  clear hb1
  go_upto_region 4 with fail
  obtain ⟨Q0, P0, B0, s1, s2⟩ := boxes2 w1 #[.int .i64 A, .int .i64 0, .slice none 0 0] #[.int .i64 A, .int .i64 0] 27 34 _ rfl
  generalize (w1.alloc (.cells #[.int .i64 A, .int .i64 0, .slice none 0 0] 27)).alloc (.cells #[.int .i64 A, .int .i64 0] 34) = W2 at *
  have B2 : Hid (Below w.heap.size w W2) := B1.out.trans (B0.mono B1.out.size)
  have hs1 := B1.out.size
  have X9 : Hid (BX 27 W2 w1.heap.size #[.int .i64 A, .int .i64 0, .slice none 0 0]) := Q0
  clear Q0 P0 B0 B1
  generalize w1.heap.size = q9 at *
  go_wp2_with fail
  refine (openIs HC.out _).mono ?_
  rintro E w3 ⟨rfl, hb3⟩
  have B3 : Hid (Below w.heap.size w w3) := B2.out.trans (hb3.mono B2.out.size)
  have X93 : Hid (BX 27 w3 q9 #[.int .i64 A, .int .i64 0, .slice none 0 0]) := X9.out.below hb3 X9.out.lt
  have hq9 := X93.out.lt
  clear hb3 X9 B2
  go_upto_region 5 with fail
  obtain ⟨Q0, P0, B0, s3, s4⟩ := boxes2 w3 #[.int .i64 C, .int .i64 0, .slice none 0 0] #[.int .i64 C, .int .i64 0] 27 34 _ rfl
  generalize (w3.alloc (.cells #[.int .i64 C, .int .i64 0, .slice none 0 0] 27)).alloc (.cells #[.int .i64 C, .int .i64 0] 34) = W4 at *
  have B4 : Hid (Below w.heap.size w W4) := B3.out.trans (B0.mono B3.out.size)
  have X94 : Hid (BX 27 W4 q9 #[.int .i64 A, .int .i64 0, .slice none 0 0]) := X93.out.below B0 hq9
  have X134 : Hid (BX 34 W4 (w3.heap.size + 1) #[.int .i64 C, .int .i64 0]) := P0
  have hqq : q9 < w3.heap.size + 1 := by omega
  clear Q0 P0 B0 B3 X93 hq9 s3 s4
  generalize w3.heap.size + 1 = q13 at *
  go_wp2_with fail
  refine (posts_upto 5 (by omega) _ es0 _ (HR.out.below B4.out (Nat.le_refl _)) HB0.out).mono ?_
  rintro e w5 ⟨v, rfl, ho5, hb5⟩
  obtain ⟨la, lc, rfl⟩ := (MlR.ownd ho5).shape
  have RL5 : Hid (w5.ownsRow w.heap.size 41 2 (.slice la (postN 5 es0).length lc) (postN 5 es0).length ((postN 5 es0).flatMap encM)) := own_lower ho5 B4.out.size
  have B5 : Hid (Below w.heap.size w w5) := B4.out.trans (hb5.mono B4.out.size)
  have X95 : Hid (BX 27 w5 q9 #[.int .i64 A, .int .i64 0, .slice none 0 0]) := X94.out.below hb5 X94.out.lt
  have X135 : Hid (BX 34 w5 q13 #[.int .i64 C, .int .i64 0]) := X134.out.below hb5 X134.out.lt
  have hpl := HPL.out
  clear ho5 hb5 X94 X134 B4 HPL
  generalize postN 5 es0 = L at *
  go_wp2_with fail
  go_loopw [16] (fun i wr => ∃ (j : Nat) (vS : Value), j ≤ L.length ∧ i = .int .i64 j ∧ BX 27 wr q9 #[.int .i64 A, .int .i64 0, vS] ∧ BX 34 wr q13 #[.int .i64 C, .int .i64 0] ∧ wr.ownsRow w.heap.size 41 2 vS (L.take j).length ((L.take j).flatMap encM) ∧ wr.ownsRow w.heap.size 41 2 (.slice la L.length lc) L.length (L.flatMap encM) ∧ Below w.heap.size w wr) (fun i _ => L.length - (intOf i).toNat)
  case atStart => exact ⟨0, _, by omega, rfl, X95.out, X135.out, World.ownsRow_nil _ _ _ _, RL5.out, B5.out⟩
  case round =>
    obtain ⟨j, vS, hj, rfl, hx9, hx13, hrS, hrL, hbel⟩ := hrel
    have X9 : Hid (BX 27 wr q9 #[.int .i64 A, .int .i64 0, vS]) := hx9
    have X13 : Hid (BX 34 wr q13 #[.int .i64 C, .int .i64 0]) := hx13
    have RS : Hid (wr.ownsRow w.heap.size 41 2 vS (L.take j).length ((L.take j).flatMap encM)) := hrS
    have RL : Hid (wr.ownsRow w.heap.size 41 2 (.slice la L.length lc) L.length (L.flatMap encM)) := hrL
    have BB : Hid (Below w.heap.size w wr) := hbel
    have hsr := hbel.size
    clear hx9 hx13 hrS hrL hbel X95 X135 RL5 B5
    by_cases hlt : j < L.length
    · as_aux_lemma =>
        obtain ⟨xb, xo, cap', e1, _, _, lb, hv⟩ := MlR.at (MlR.ownd RL.out) (by omega)
        injection e1 with e1 _ e3
        subst e1 e3
        obtain ⟨m, hm⟩ := getX hlt
        have p0 : (0 : Int) ≤ (j : Int) := by omega
        have p1 : (j : Int) < (L.length : Int) := by omega
        obtain ⟨sa, sc, rfl⟩ := (MlR.ownd RS.out).shape
        have KEEP : Hid (∀ V, Below wr.heap.size wr V → (V.cell? ⟨q9, 0, none⟩ = some (.int .i64 A) ∧ V.cell? ⟨q9, 1, none⟩ = some (.int .i64 0) ∧ V.cell? ⟨q9, 2, none⟩ = some (.slice sa (L.take j).length sc)) ∧ V.cell? ⟨xb, xo + j * 2, none⟩ = some (.int .i64 m.1) ∧ V.cell? ⟨xb, xo + j * 2 + 1, none⟩ = some (.int .i64 m.2)) := fun V hV => by
          obtain ⟨h1, h2, h3, _⟩ := (X9.out.below hV X9.out.lt).all3
          exact ⟨⟨h1, h2, h3⟩, (hV.cell (p := ⟨xb, xo + j * 2, none⟩) lb).trans (hv j m hm).1, (hV.cell (p := ⟨xb, xo + j * 2 + 1, none⟩) lb).trans (hv j m hm).2⟩
        have CC : Hid (∀ X, Below wr.heap.size wr X → Calls Try.prog 10 #[.agg #[.int .i64 A, .int .i64 0, .slice sa (L.take j).length sc], .agg #[.int .i64 m.1, .int .i64 m.2]] X fun E w' => ∃ u, E = .returned u ∧ (∃ y, u = .tuple #[.agg #[.int .i64 A, .int .i64 0, y], .int .i64 0] ∧ w'.ownsRow X.heap.size 41 2 y (L.take (j + 1)).length ((L.take (j + 1)).flatMap encM) ∧ Below X.heap.size X w')) := fun X hX => sendIs HA.out (by omega) hm _ X ((MlR.ownd RS.out).below hX (Nat.le_refl _))
        clear hv hm
        generalize (L.take j).length = tl at *
        go_upto_region 9 with fail
        apply Hid.cut
        case h =>
          intro HG
          have B0 : Below wr.heap.size wr wr.drew := (Below.refl _ _).drew
          have HS0 : Hid ((wr.drew.cell? ⟨q9, 0, none⟩ = some (.int .i64 A) ∧ wr.drew.cell? ⟨q9, 1, none⟩ = some (.int .i64 0) ∧ wr.drew.cell? ⟨q9, 2, none⟩ = some (.slice sa tl sc)) ∧ wr.drew.cell? ⟨xb, xo + j * 2, none⟩ = some (.int .i64 m.1) ∧ wr.drew.cell? ⟨xb, xo + j * 2 + 1, none⟩ = some (.int .i64 m.2)) := KEEP.out wr.drew B0
          refine wp_region_held (S := fun V => (V.cell? ⟨q9, 0, none⟩ = some (.int .i64 A) ∧ V.cell? ⟨q9, 1, none⟩ = some (.int .i64 0) ∧ V.cell? ⟨q9, 2, none⟩ = some (.slice sa tl sc)) ∧ V.cell? ⟨xb, xo + j * 2, none⟩ = some (.int .i64 m.1) ∧ V.cell? ⟨xb, xo + j * 2 + 1, none⟩ = some (.int .i64 m.2)) (by kernel_rfl) ?_
          simp only [List.size_toArray, List.length_cons, List.length_nil, Nat.reduceAdd]
          refine takeH (i := 0) (v := .agg #[.int .i64 A, .int .i64 0, .slice sa tl sc]) (d := 53) rfl rfl (by kernel_rfl) (by kernel_rfl) (by kernel_rfl) (fun _ _ _ h => h) (by rfl) (fun V hV => by obtain ⟨⟨v1, v2, v3⟩, v4, v5⟩ := hV; go_simp) HS0.out ?_
          simp only [Act.put, List.setIfInBounds_toArray, List.set_cons_zero, List.set_cons_succ]
          refine takeH (i := 1) (v := .slice (some ⟨xb, xo, none⟩) L.length lc) (d := 54) rfl rfl (by kernel_rfl) (by kernel_rfl) (by kernel_rfl) (fun _ _ _ h => h) (by rfl) (fun V hV => by obtain ⟨⟨v1, v2, v3⟩, v4, v5⟩ := hV; go_simp) HS0.out ?_
          simp only [Act.put, List.setIfInBounds_toArray, List.set_cons_zero, List.set_cons_succ]
          refine takeH (i := 2) (v := .int .i64 (j : Int)) (d := 55) rfl rfl (by kernel_rfl) (by kernel_rfl) (by kernel_rfl) (fun _ _ _ h => h) (by rfl) (fun V hV => by obtain ⟨⟨v1, v2, v3⟩, v4, v5⟩ := hV; go_simp) HS0.out ?_
          simp only [Act.put, List.setIfInBounds_toArray, List.set_cons_zero, List.set_cons_succ]
          refine takeH (i := 3) (v := .pointer (some ⟨xb, xo + j * 2, none⟩)) (d := 56) rfl rfl (by kernel_rfl) (by kernel_rfl) (by kernel_rfl) (fun _ _ _ h => h) (by rfl) (fun V hV => by obtain ⟨⟨v1, v2, v3⟩, v4, v5⟩ := hV; go_simp) HS0.out ?_
          simp only [Act.put, List.setIfInBounds_toArray, List.set_cons_zero, List.set_cons_succ]
          refine takeH (i := 4) (v := .agg #[.int .i64 m.1, .int .i64 m.2]) (d := 57) rfl rfl (by kernel_rfl) (by kernel_rfl) (by kernel_rfl) (fun _ _ _ h => h) (by rfl) (fun V hV => by obtain ⟨⟨v1, v2, v3⟩, v4, v5⟩ := hV; go_simp) HS0.out ?_
          simp only [Act.put, List.setIfInBounds_toArray, List.set_cons_zero, List.set_cons_succ]
          refine twoH (i := 5) (j := 9) rfl rfl (by kernel_rfl) rfl rfl ?way1call ?way1s
          case way1call =>
            refine call_gets (d := 58) (f := 10) (xs := #[.tmp 53, .tmp 57]) (ats := #[27, 41]) rfl rfl esnd (vs := #[.agg #[.int .i64 A, .int .i64 0, .slice sa tl sc], .agg #[.int .i64 m.1, .int .i64 m.2]]) (by simp [Act.eval]) (CC.out _ B0) ?_
            rintro vr wc1 ⟨yv, rfl, ho, hb⟩
            have bc1 : Below wr.heap.size wr wc1 := B0.trans (hb.mono B0.size)
            have OC : Hid (wc1.ownsRow wr.heap.size 41 2 (yv) (L.take (j + 1)).length ((L.take (j + 1)).flatMap encM)) := own_lower ho B0.size
            obtain ⟨ya, yc, rfl⟩ := (MlR.ownd OC.out).shape
            have HS1 : Hid ((wc1.cell? ⟨q9, 0, none⟩ = some (.int .i64 A) ∧ wc1.cell? ⟨q9, 1, none⟩ = some (.int .i64 0) ∧ wc1.cell? ⟨q9, 2, none⟩ = some (.slice sa tl sc)) ∧ wc1.cell? ⟨xb, xo + j * 2, none⟩ = some (.int .i64 m.1) ∧ wc1.cell? ⟨xb, xo + j * 2 + 1, none⟩ = some (.int .i64 m.2)) := KEEP.out wc1 bc1
            clear ho hb
            refine ⟨HS1.out, ?_⟩
            simp only [Act.put, List.setIfInBounds_toArray, List.set_cons_zero, List.set_cons_succ]
            refine takeH (i := 6) (v := .tuple #[.agg #[.int .i64 A, .int .i64 0, .slice ya (L.take (j + 1)).length yc], .int .i64 0]) (d := 52) rfl rfl (by kernel_rfl) (by kernel_rfl) (by kernel_rfl) (fun _ _ _ h => h) (by rfl) (fun V hV => by obtain ⟨⟨v1, v2, v3⟩, v4, v5⟩ := hV; go_simp) HS1.out ?_
            simp only [Act.put, List.setIfInBounds_toArray, List.set_cons_zero, List.set_cons_succ]
            refine takeH (i := 7) (v := .agg #[.int .i64 A, .int .i64 0, .slice ya (L.take (j + 1)).length yc]) (d := 59) rfl rfl (by kernel_rfl) (by kernel_rfl) (by kernel_rfl) (fun _ _ _ h => h) (by rfl) (fun V hV => by obtain ⟨⟨v1, v2, v3⟩, v4, v5⟩ := hV; go_simp) HS1.out ?_
            simp only [Act.put, List.setIfInBounds_toArray, List.set_cons_zero, List.set_cons_succ]
            refine takeH (i := 8) (v := .int .i64 0) (d := 60) rfl rfl (by kernel_rfl) (by kernel_rfl) (by kernel_rfl) (fun _ _ _ h => h) (by rfl) (fun V hV => by obtain ⟨⟨v1, v2, v3⟩, v4, v5⟩ := hV; go_simp) HS1.out ?_
            simp only [Act.put, List.setIfInBounds_toArray, List.set_cons_zero, List.set_cons_succ]
            refine oneH (i := 9) rfl (by kernel_rfl) rfl (op_run (d := 17) (v' := .pointer (some ⟨wc1.heap.size, 0, none⟩)) (w' := wc1.alloc (.cells #[.int .i64 0, .int .i64 0, .slice none 0 0] 27)) rfl (by go_simp) ⟨KEEP.out _ (bc1.alloc bc1.size _), ?_⟩)
            simp only [Act.put, List.setIfInBounds_toArray, List.set_cons_zero, List.set_cons_succ]
            have X_s : Hid (BX 27 (wc1.alloc (.cells #[.int .i64 0, .int .i64 0, .slice none 0 0] 27)) (wc1.heap.size) #[.int .i64 0, .int .i64 0, .slice none 0 0]) := BX.new _ _ _
            have L_s : Hid (wr.heap.size ≤ wc1.heap.size) := bc1.size
            have bc2 : Below wr.heap.size wr (wc1.alloc (.cells #[.int .i64 0, .int .i64 0, .slice none 0 0] 27)) := bc1.alloc bc1.size _
            have HS2 : Hid (((wc1.alloc (.cells #[.int .i64 0, .int .i64 0, .slice none 0 0] 27)).cell? ⟨q9, 0, none⟩ = some (.int .i64 A) ∧ (wc1.alloc (.cells #[.int .i64 0, .int .i64 0, .slice none 0 0] 27)).cell? ⟨q9, 1, none⟩ = some (.int .i64 0) ∧ (wc1.alloc (.cells #[.int .i64 0, .int .i64 0, .slice none 0 0] 27)).cell? ⟨q9, 2, none⟩ = some (.slice sa tl sc)) ∧ (wc1.alloc (.cells #[.int .i64 0, .int .i64 0, .slice none 0 0] 27)).cell? ⟨xb, xo + j * 2, none⟩ = some (.int .i64 m.1) ∧ (wc1.alloc (.cells #[.int .i64 0, .int .i64 0, .slice none 0 0] 27)).cell? ⟨xb, xo + j * 2 + 1, none⟩ = some (.int .i64 m.2)) := KEEP.out _ bc2
            replace OC : Hid ((wc1.alloc (.cells #[.int .i64 0, .int .i64 0, .slice none 0 0] 27)).ownsRow wr.heap.size 41 2 (.slice ya (L.take (j + 1)).length yc) (L.take (j + 1)).length ((L.take (j + 1)).flatMap encM)) := OC.out.alloc _
            generalize wc1.alloc (.cells #[.int .i64 0, .int .i64 0, .slice none 0 0] 27) = wa2 at *
            obtain ⟨n0, n1, n2, n3, n4, n5⟩ := X_s.out.all3
            have bd0 : Below wr.heap.size wr (put3 wa2 (wc1.heap.size) (.int .i64 A) (.int .i64 0) (.slice ya (L.take (j + 1)).length yc)) := below_put3 bc2 L_s.out _ _ _
            have HT0 : Hid (((put3 wa2 (wc1.heap.size) (.int .i64 A) (.int .i64 0) (.slice ya (L.take (j + 1)).length yc)).cell? ⟨q9, 0, none⟩ = some (.int .i64 A) ∧ (put3 wa2 (wc1.heap.size) (.int .i64 A) (.int .i64 0) (.slice ya (L.take (j + 1)).length yc)).cell? ⟨q9, 1, none⟩ = some (.int .i64 0) ∧ (put3 wa2 (wc1.heap.size) (.int .i64 A) (.int .i64 0) (.slice ya (L.take (j + 1)).length yc)).cell? ⟨q9, 2, none⟩ = some (.slice sa tl sc)) ∧ (put3 wa2 (wc1.heap.size) (.int .i64 A) (.int .i64 0) (.slice ya (L.take (j + 1)).length yc)).cell? ⟨xb, xo + j * 2, none⟩ = some (.int .i64 m.1) ∧ (put3 wa2 (wc1.heap.size) (.int .i64 A) (.int .i64 0) (.slice ya (L.take (j + 1)).length yc)).cell? ⟨xb, xo + j * 2 + 1, none⟩ = some (.int .i64 m.2)) := KEEP.out _ bd0
            have Y_s : Hid (BX 27 (put3 wa2 (wc1.heap.size) (.int .i64 A) (.int .i64 0) (.slice ya (L.take (j + 1)).length yc)) (wc1.heap.size) #[.int .i64 A, .int .i64 0, .slice ya (L.take (j + 1)).length yc]) := X_s.out.put3 _ _ _
            replace OC : Hid ((put3 wa2 (wc1.heap.size) (.int .i64 A) (.int .i64 0) (.slice ya (L.take (j + 1)).length yc)).ownsRow wr.heap.size 41 2 (.slice ya (L.take (j + 1)).length yc) (L.take (j + 1)).length ((L.take (j + 1)).flatMap encM)) := X_s.out.own3 OC.out (by decide)
            refine oneH (i := 10) rfl (by kernel_rfl) rfl (op_skip (w' := (put3 wa2 (wc1.heap.size) (.int .i64 A) (.int .i64 0) (.slice ya (L.take (j + 1)).length yc))) rfl (by unfold put3; go_simp) ⟨HT0.out, ?_⟩)
            clear n0 n1 n2 n3 n4 n5 X_s
            generalize put3 wa2 (wc1.heap.size) (.int .i64 A) (.int .i64 0) (.slice ya (L.take (j + 1)).length yc) = wp3_0 at *
            refine takeH (i := 11) (v := .int .i64 0) (d := 18) rfl rfl (by kernel_rfl) (by kernel_rfl) (by kernel_rfl) (fun _ _ _ h => h) (by rfl) (fun V hV => by obtain ⟨⟨v1, v2, v3⟩, v4, v5⟩ := hV; go_simp) HT0.out ?_
            simp only [Act.put, List.setIfInBounds_toArray, List.set_cons_zero, List.set_cons_succ]
            refine wpAnyH_done (by kernel_rfl) ?_ _
            have FB : Hid (Below wr.heap.size wr wp3_0) := bd0
            clear bc1 HS1 bc2 HS2 bd0 HT0
            generalize wc1.heap.size = pb_s at *
            revert L_s
            revert FB
            revert OC
            revert Y_s
            revert wp3_0
            revert pb_s
            revert yc
            revert ya
            exact HG.out
          case way1s =>
            refine op_run (d := 17) (v' := .pointer (some ⟨wr.heap.size, 0, none⟩)) (w' := wr.drew.alloc (.cells #[.int .i64 0, .int .i64 0, .slice none 0 0] 27)) rfl (by go_simp) ⟨KEEP.out _ (B0.alloc B0.size _), ?_⟩
            simp only [Act.put, List.setIfInBounds_toArray, List.set_cons_zero, List.set_cons_succ]
            have X_s : Hid (BX 27 (wr.drew.alloc (.cells #[.int .i64 0, .int .i64 0, .slice none 0 0] 27)) (wr.heap.size) #[.int .i64 0, .int .i64 0, .slice none 0 0]) := BX.new _ _ _
            have L_s : Hid (wr.heap.size ≤ wr.heap.size) := Nat.le_refl _
            have bc1 : Below wr.heap.size wr (wr.drew.alloc (.cells #[.int .i64 0, .int .i64 0, .slice none 0 0] 27)) := B0.alloc B0.size _
            have HS1 : Hid (((wr.drew.alloc (.cells #[.int .i64 0, .int .i64 0, .slice none 0 0] 27)).cell? ⟨q9, 0, none⟩ = some (.int .i64 A) ∧ (wr.drew.alloc (.cells #[.int .i64 0, .int .i64 0, .slice none 0 0] 27)).cell? ⟨q9, 1, none⟩ = some (.int .i64 0) ∧ (wr.drew.alloc (.cells #[.int .i64 0, .int .i64 0, .slice none 0 0] 27)).cell? ⟨q9, 2, none⟩ = some (.slice sa tl sc)) ∧ (wr.drew.alloc (.cells #[.int .i64 0, .int .i64 0, .slice none 0 0] 27)).cell? ⟨xb, xo + j * 2, none⟩ = some (.int .i64 m.1) ∧ (wr.drew.alloc (.cells #[.int .i64 0, .int .i64 0, .slice none 0 0] 27)).cell? ⟨xb, xo + j * 2 + 1, none⟩ = some (.int .i64 m.2)) := KEEP.out _ bc1
            generalize wr.drew.alloc (.cells #[.int .i64 0, .int .i64 0, .slice none 0 0] 27) = wa1 at *
            refine oneH (i := 5) rfl (by kernel_rfl) rfl (call_gets (d := 58) (f := 10) (xs := #[.tmp 53, .tmp 57]) (ats := #[27, 41]) rfl rfl esnd (vs := #[.agg #[.int .i64 A, .int .i64 0, .slice sa tl sc], .agg #[.int .i64 m.1, .int .i64 m.2]]) (by simp [Act.eval]) (CC.out _ bc1) ?_)
            rintro vr wc2 ⟨yv, rfl, ho, hb⟩
            have bc2 : Below wr.heap.size wr wc2 := bc1.trans (hb.mono bc1.size)
            have OC : Hid (wc2.ownsRow wr.heap.size 41 2 (yv) (L.take (j + 1)).length ((L.take (j + 1)).flatMap encM)) := own_lower ho bc1.size
            obtain ⟨ya, yc, rfl⟩ := (MlR.ownd OC.out).shape
            have HS2 : Hid ((wc2.cell? ⟨q9, 0, none⟩ = some (.int .i64 A) ∧ wc2.cell? ⟨q9, 1, none⟩ = some (.int .i64 0) ∧ wc2.cell? ⟨q9, 2, none⟩ = some (.slice sa tl sc)) ∧ wc2.cell? ⟨xb, xo + j * 2, none⟩ = some (.int .i64 m.1) ∧ wc2.cell? ⟨xb, xo + j * 2 + 1, none⟩ = some (.int .i64 m.2)) := KEEP.out wc2 bc2
            replace X_s : Hid (BX 27 wc2 (wr.heap.size) #[.int .i64 0, .int .i64 0, .slice none 0 0]) := X_s.out.below hb X_s.out.lt
            clear ho hb
            refine ⟨HS2.out, ?_⟩
            simp only [Act.put, List.setIfInBounds_toArray, List.set_cons_zero, List.set_cons_succ]
            refine takeH (i := 6) (v := .tuple #[.agg #[.int .i64 A, .int .i64 0, .slice ya (L.take (j + 1)).length yc], .int .i64 0]) (d := 52) rfl rfl (by kernel_rfl) (by kernel_rfl) (by kernel_rfl) (fun _ _ _ h => h) (by rfl) (fun V hV => by obtain ⟨⟨v1, v2, v3⟩, v4, v5⟩ := hV; go_simp) HS2.out ?_
            simp only [Act.put, List.setIfInBounds_toArray, List.set_cons_zero, List.set_cons_succ]
            refine takeH (i := 7) (v := .agg #[.int .i64 A, .int .i64 0, .slice ya (L.take (j + 1)).length yc]) (d := 59) rfl rfl (by kernel_rfl) (by kernel_rfl) (by kernel_rfl) (fun _ _ _ h => h) (by rfl) (fun V hV => by obtain ⟨⟨v1, v2, v3⟩, v4, v5⟩ := hV; go_simp) HS2.out ?_
            simp only [Act.put, List.setIfInBounds_toArray, List.set_cons_zero, List.set_cons_succ]
            refine takeH (i := 8) (v := .int .i64 0) (d := 60) rfl rfl (by kernel_rfl) (by kernel_rfl) (by kernel_rfl) (fun _ _ _ h => h) (by rfl) (fun V hV => by obtain ⟨⟨v1, v2, v3⟩, v4, v5⟩ := hV; go_simp) HS2.out ?_
            simp only [Act.put, List.setIfInBounds_toArray, List.set_cons_zero, List.set_cons_succ]
            obtain ⟨n0, n1, n2, n3, n4, n5⟩ := X_s.out.all3
            have bd0 : Below wr.heap.size wr (put3 wc2 (wr.heap.size) (.int .i64 A) (.int .i64 0) (.slice ya (L.take (j + 1)).length yc)) := below_put3 bc2 L_s.out _ _ _
            have HT0 : Hid (((put3 wc2 (wr.heap.size) (.int .i64 A) (.int .i64 0) (.slice ya (L.take (j + 1)).length yc)).cell? ⟨q9, 0, none⟩ = some (.int .i64 A) ∧ (put3 wc2 (wr.heap.size) (.int .i64 A) (.int .i64 0) (.slice ya (L.take (j + 1)).length yc)).cell? ⟨q9, 1, none⟩ = some (.int .i64 0) ∧ (put3 wc2 (wr.heap.size) (.int .i64 A) (.int .i64 0) (.slice ya (L.take (j + 1)).length yc)).cell? ⟨q9, 2, none⟩ = some (.slice sa tl sc)) ∧ (put3 wc2 (wr.heap.size) (.int .i64 A) (.int .i64 0) (.slice ya (L.take (j + 1)).length yc)).cell? ⟨xb, xo + j * 2, none⟩ = some (.int .i64 m.1) ∧ (put3 wc2 (wr.heap.size) (.int .i64 A) (.int .i64 0) (.slice ya (L.take (j + 1)).length yc)).cell? ⟨xb, xo + j * 2 + 1, none⟩ = some (.int .i64 m.2)) := KEEP.out _ bd0
            have Y_s : Hid (BX 27 (put3 wc2 (wr.heap.size) (.int .i64 A) (.int .i64 0) (.slice ya (L.take (j + 1)).length yc)) (wr.heap.size) #[.int .i64 A, .int .i64 0, .slice ya (L.take (j + 1)).length yc]) := X_s.out.put3 _ _ _
            replace OC : Hid ((put3 wc2 (wr.heap.size) (.int .i64 A) (.int .i64 0) (.slice ya (L.take (j + 1)).length yc)).ownsRow wr.heap.size 41 2 (.slice ya (L.take (j + 1)).length yc) (L.take (j + 1)).length ((L.take (j + 1)).flatMap encM)) := X_s.out.own3 OC.out (by decide)
            refine oneH (i := 10) rfl (by kernel_rfl) rfl (op_skip (w' := (put3 wc2 (wr.heap.size) (.int .i64 A) (.int .i64 0) (.slice ya (L.take (j + 1)).length yc))) rfl (by unfold put3; go_simp) ⟨HT0.out, ?_⟩)
            clear n0 n1 n2 n3 n4 n5 X_s
            generalize put3 wc2 (wr.heap.size) (.int .i64 A) (.int .i64 0) (.slice ya (L.take (j + 1)).length yc) = wp3_0 at *
            refine takeH (i := 11) (v := .int .i64 0) (d := 18) rfl rfl (by kernel_rfl) (by kernel_rfl) (by kernel_rfl) (fun _ _ _ h => h) (by rfl) (fun V hV => by obtain ⟨⟨v1, v2, v3⟩, v4, v5⟩ := hV; go_simp) HT0.out ?_
            simp only [Act.put, List.setIfInBounds_toArray, List.set_cons_zero, List.set_cons_succ]
            refine wpAnyH_done (by kernel_rfl) ?_ _
            have FB : Hid (Below wr.heap.size wr wp3_0) := bd0
            exact HG.out ya yc (wr.heap.size) wp3_0 Y_s OC FB L_s
        case g =>
          intro ya yc pb X FX FO FB NL
          have X9n : Hid (BX 27 X q9 #[.int .i64 A, .int .i64 0, .slice sa tl sc]) := X9.out.below FB.out X9.out.lt
          have Y9 : Hid (BX 27 (put3 X q9 (.int .i64 A) (.int .i64 0) (.slice ya (L.take (j + 1)).length yc)) q9 #[.int .i64 A, .int .i64 0, .slice ya (L.take (j + 1)).length yc]) := X9n.out.put3 _ _ _
          have Y13 : Hid (BX 34 (put3 X q9 (.int .i64 A) (.int .i64 0) (.slice ya (L.take (j + 1)).length yc)) q13 #[.int .i64 C, .int .i64 0]) := (X13.out.below FB.out X13.out.lt).off3 (by omega)
          have YS : Hid ((put3 X q9 (.int .i64 A) (.int .i64 0) (.slice ya (L.take (j + 1)).length yc)).ownsRow w.heap.size 41 2 (.slice ya (L.take (j + 1)).length yc) (L.take (j + 1)).length ((L.take (j + 1)).flatMap encM)) := X9n.out.own3 (own_lower FO.out hsr) (by decide)
          have YL : Hid ((put3 X q9 (.int .i64 A) (.int .i64 0) (.slice ya (L.take (j + 1)).length yc)).ownsRow w.heap.size 41 2 (.slice (some ⟨xb, xo, none⟩) L.length lc) L.length (L.flatMap encM)) := X9n.out.own3 (own_below RL.out FB.out (Nat.le_refl _)) (by decide)
          have YB : Hid (Below w.heap.size w (put3 X q9 (.int .i64 A) (.int .i64 0) (.slice ya (L.take (j + 1)).length yc))) := below_put3 (BB.out.trans (FB.out.mono hsr)) (by omega) _ _ _
          obtain ⟨f0, f1, f2, _⟩ := FX.out.all3
          obtain ⟨z0, z1, z2, z3, z4, z5⟩ := X9n.out.all3
          clear KEEP CC X9 X13 RS RL BB
          generalize htk : L.take (j + 1) = tk1 at *
          have HTK : Hid (L.take (j + 1) = tk1) := htk
          clear htk
          go_wp2_with fail
          go_roundw
          case rel => exact ⟨j + 1, _, by omega, by go_num, Y9.out, Y13.out, by rw [HTK.out]; exact YS.out, YL.out, YB.out⟩
          case measure => simp [intOf]; omega
    · have ej : L.take j = L := List.take_of_length_le (by omega)
      rw [ej] at RS
      obtain ⟨sa, sc, rfl⟩ := (MlR.ownd RS.out).shape
      obtain ⟨q0, q1, q2, _⟩ := X9.out.all3
      have RSR : Hid (MlR wr (.slice sa L.length sc) L) := MlR.ownd RS.out
      clear ej RL RS
      go_wp2_with fail
      refine (dueIs HA.out (by omega) _ _ RSR.out).mono ?_
      rintro E w6 ⟨y, rfl, ho6, hb6⟩
      have hlen : (dueF A 0 L).length = min 4 L.length := dueF_len A 0 L
      obtain ⟨da, dc, rfl⟩ := (PkR.ownd ho6).shape
      have RD : Hid (PkR w6 (.slice da (dueF A 0 L).length dc) (dueF A 0 L)) := PkR.ownd ho6
      have RS6 : Hid (MlR w6 (.slice sa L.length sc) L) := RSR.out.below hb6 (Nat.le_refl _)
      have X96 : Hid (BX 27 w6 q9 #[.int .i64 A, .int .i64 0, .slice sa L.length sc]) := X9.out.below hb6 X9.out.lt
      have X136 : Hid (BX 34 w6 q13 #[.int .i64 C, .int .i64 0]) := X13.out.below hb6 X13.out.lt
      have B6 : Hid (Below w.heap.size w w6) := BB.out.trans (hb6.mono hsr)
      have HAT : Hid (∀ (t : Nat) (p : Pk), (dueF A 0 L)[t]? = some p → ∃ m, p = (A, (t : Int), m)) := fun t p h => dueF_at h
      have hdl4 : (dueF A 0 L).length ≤ 4 := by omega
      have d1 : (((dueF A 0 L).length : Int) != min (L.length : Int) 4) = false := by
        have : ((dueF A 0 L).length : Int) = min (L.length : Int) 4 := by omega
        simp [this]
      have d2 : (A != A) = false := by simp
      have d3 : (C != C) = false := by simp
      obtain ⟨q0, q1, q2, _⟩ := X96.out.all3
      obtain ⟨q3, q4, _⟩ := X136.out.all2
      clear ho6 hb6 X9 X13 BB RSR hlen hlt hj
      generalize dueF A 0 L = D at *
      go_wp2_with fail
      clear q0 q1 q2 q3 q4 d1
      go_loopw [21] (fun i ws => ∃ t : Nat, t ≤ D.length ∧ i = .int .i64 t ∧ Below w6.heap.size w6 ws) (fun i _ => D.length - (intOf i).toNat)
      case atStart => exact ⟨0, by omega, rfl, Below.refl _ _⟩
      case round =>
        obtain ⟨t, ht, rfl, hbel⟩ := hrel
        have BW : Hid (Below w6.heap.size w6 wr) := hbel
        have hsw := hbel.size
        have BA : Hid (Below w.heap.size w wr) := B6.out.trans (hbel.mono B6.out.size)
        clear hbel
        by_cases hlt : t < D.length
        · as_aux_lemma =>
            obtain ⟨xb, xo, cap', e1, _, _, lb, hv⟩ := PkR.at (RD.out.below BW.out (Nat.le_refl _)) (by omega)
            injection e1 with e1 _ e3
            subst e1 e3
            obtain ⟨x, hx⟩ := getX hlt
            obtain ⟨m, rfl⟩ := HAT.out t x hx
            obtain ⟨c1, c2, c3, c4⟩ := hv t _ hx
            have p0 : (0 : Int) ≤ (t : Int) := by omega
            have p1 : (t : Int) < (D.length : Int) := by omega
            have X13 : Hid (BX 34 wr q13 #[.int .i64 C, .int .i64 0]) := X136.out.below BW.out X136.out.lt
            obtain ⟨ee, kk, ff, hl, hcc, hways⟩ := hearIs A C HC.out t m
            have HW : Hid ((A = C ∧ ff = 0 ∧ hl.length ≤ 1 ∧ ((hl.length : Int) == 1) = ((t : Int) == 0)) ∨ (¬ A = C ∧ ff = 11 ∧ hl.length = 0 ∧ kk = 0)) := hways
            have CC : Hid (∀ X, Below wr.heap.size wr X → Calls Try.prog 12 #[.agg #[.int .i64 C, .int .i64 0], .agg #[.int .i64 A, .int .i64 (t : Int), .int .i64 m.1, .int .i64 m.2]] X fun E w' => ∃ u, E = .returned u ∧ (∃ y, u = .tuple #[.agg #[.int .i64 ee, .int .i64 kk], y, .agg #[.int .i64 ee, .int .i64 kk], .int .i64 ff] ∧ w'.ownsRow X.heap.size 41 2 y hl.length (hl.flatMap encM) ∧ Below X.heap.size X w')) := fun X _ => hcc X
            have KEEP : Hid (∀ V, Below wr.heap.size wr V → (V.cell? ⟨q13, 0, none⟩ = some (.int .i64 C) ∧ V.cell? ⟨q13, 1, none⟩ = some (.int .i64 0)) ∧ (V.cell? ⟨xb, xo + t * 4, none⟩ = some (.int .i64 A) ∧ V.cell? ⟨xb, xo + t * 4 + 1, none⟩ = some (.int .i64 (t : Int))) ∧ V.cell? ⟨xb, xo + t * 4 + 2, none⟩ = some (.int .i64 m.1) ∧ V.cell? ⟨xb, xo + t * 4 + 3, none⟩ = some (.int .i64 m.2)) := fun V hV => by
              obtain ⟨h1, h2, _⟩ := (X13.out.below hV X13.out.lt).all2
              exact ⟨⟨h1, h2⟩, ⟨(hV.cell (p := ⟨xb, xo + t * 4, none⟩) lb).trans c1, (hV.cell (p := ⟨xb, xo + t * 4 + 1, none⟩) lb).trans c2⟩, (hV.cell (p := ⟨xb, xo + t * 4 + 2, none⟩) lb).trans c3, (hV.cell (p := ⟨xb, xo + t * 4 + 3, none⟩) lb).trans c4⟩
            clear hv hx c1 c2 c3 c4 hcc hways
            go_upto_region 19 with fail
            apply Hid.cut
            case h =>
              intro HG
              have B0 : Below wr.heap.size wr wr.drew := (Below.refl _ _).drew
              have HS0 : Hid ((wr.drew.cell? ⟨q13, 0, none⟩ = some (.int .i64 C) ∧ wr.drew.cell? ⟨q13, 1, none⟩ = some (.int .i64 0)) ∧ (wr.drew.cell? ⟨xb, xo + t * 4, none⟩ = some (.int .i64 A) ∧ wr.drew.cell? ⟨xb, xo + t * 4 + 1, none⟩ = some (.int .i64 (t : Int))) ∧ wr.drew.cell? ⟨xb, xo + t * 4 + 2, none⟩ = some (.int .i64 m.1) ∧ wr.drew.cell? ⟨xb, xo + t * 4 + 3, none⟩ = some (.int .i64 m.2)) := KEEP.out wr.drew B0
              refine wp_region_held (S := fun V => (V.cell? ⟨q13, 0, none⟩ = some (.int .i64 C) ∧ V.cell? ⟨q13, 1, none⟩ = some (.int .i64 0)) ∧ (V.cell? ⟨xb, xo + t * 4, none⟩ = some (.int .i64 A) ∧ V.cell? ⟨xb, xo + t * 4 + 1, none⟩ = some (.int .i64 (t : Int))) ∧ V.cell? ⟨xb, xo + t * 4 + 2, none⟩ = some (.int .i64 m.1) ∧ V.cell? ⟨xb, xo + t * 4 + 3, none⟩ = some (.int .i64 m.2)) (by kernel_rfl) ?_
              simp only [List.size_toArray, List.length_cons, List.length_nil, Nat.reduceAdd]
              refine takeH (i := 0) (v := .agg #[.int .i64 C, .int .i64 0]) (d := 106) rfl rfl (by kernel_rfl) (by kernel_rfl) (by kernel_rfl) (fun _ _ _ h => h) (by rfl) (fun V hV => by obtain ⟨⟨v1, v2⟩, ⟨v3, v4⟩, v5, v6⟩ := hV; go_simp) HS0.out ?_
              simp only [Act.put, List.setIfInBounds_toArray, List.set_cons_zero, List.set_cons_succ]
              refine takeH (i := 1) (v := .slice (some ⟨xb, xo, none⟩) D.length dc) (d := 107) rfl rfl (by kernel_rfl) (by kernel_rfl) (by kernel_rfl) (fun _ _ _ h => h) (by rfl) (fun V hV => by obtain ⟨⟨v1, v2⟩, ⟨v3, v4⟩, v5, v6⟩ := hV; go_simp) HS0.out ?_
              simp only [Act.put, List.setIfInBounds_toArray, List.set_cons_zero, List.set_cons_succ]
              refine takeH (i := 2) (v := .int .i64 (t : Int)) (d := 108) rfl rfl (by kernel_rfl) (by kernel_rfl) (by kernel_rfl) (fun _ _ _ h => h) (by rfl) (fun V hV => by obtain ⟨⟨v1, v2⟩, ⟨v3, v4⟩, v5, v6⟩ := hV; go_simp) HS0.out ?_
              simp only [Act.put, List.setIfInBounds_toArray, List.set_cons_zero, List.set_cons_succ]
              refine takeH (i := 3) (v := .pointer (some ⟨xb, xo + t * 4, none⟩)) (d := 109) rfl rfl (by kernel_rfl) (by kernel_rfl) (by kernel_rfl) (fun _ _ _ h => h) (by rfl) (fun V hV => by obtain ⟨⟨v1, v2⟩, ⟨v3, v4⟩, v5, v6⟩ := hV; go_simp) HS0.out ?_
              simp only [Act.put, List.setIfInBounds_toArray, List.set_cons_zero, List.set_cons_succ]
              refine takeH (i := 4) (v := .agg #[.int .i64 A, .int .i64 (t : Int), .int .i64 m.1, .int .i64 m.2]) (d := 110) rfl rfl (by kernel_rfl) (by kernel_rfl) (by kernel_rfl) (fun _ _ _ h => h) (by rfl) (fun V hV => by obtain ⟨⟨v1, v2⟩, ⟨v3, v4⟩, v5, v6⟩ := hV; go_simp) HS0.out ?_
              simp only [Act.put, List.setIfInBounds_toArray, List.set_cons_zero, List.set_cons_succ]
              refine threeH (i := 5) (j := 11) (m := 12) rfl rfl rfl (by kernel_rfl) rfl rfl rfl ?way1call ?way1r ?way1a
              case way1call =>
                refine call_gets (d := 111) (f := 12) (xs := #[.tmp 106, .tmp 110]) (ats := #[34, 50]) rfl rfl ehear (vs := #[.agg #[.int .i64 C, .int .i64 0], .agg #[.int .i64 A, .int .i64 (t : Int), .int .i64 m.1, .int .i64 m.2]]) (by simp [Act.eval]) (CC.out _ B0) ?_
                rintro vr wc1 ⟨yv, rfl, ho, hb⟩
                have bc1 : Below wr.heap.size wr wc1 := B0.trans (hb.mono B0.size)
                have OC : Hid (wc1.ownsRow wr.heap.size 41 2 (yv) hl.length (hl.flatMap encM)) := own_lower ho B0.size
                obtain ⟨ya, yc, rfl⟩ := (MlR.ownd OC.out).shape
                have HS1 : Hid ((wc1.cell? ⟨q13, 0, none⟩ = some (.int .i64 C) ∧ wc1.cell? ⟨q13, 1, none⟩ = some (.int .i64 0)) ∧ (wc1.cell? ⟨xb, xo + t * 4, none⟩ = some (.int .i64 A) ∧ wc1.cell? ⟨xb, xo + t * 4 + 1, none⟩ = some (.int .i64 (t : Int))) ∧ wc1.cell? ⟨xb, xo + t * 4 + 2, none⟩ = some (.int .i64 m.1) ∧ wc1.cell? ⟨xb, xo + t * 4 + 3, none⟩ = some (.int .i64 m.2)) := KEEP.out wc1 bc1
                clear ho hb
                refine ⟨HS1.out, ?_⟩
                simp only [Act.put, List.setIfInBounds_toArray, List.set_cons_zero, List.set_cons_succ]
                refine takeH (i := 6) (v := .tuple #[.agg #[.int .i64 ee, .int .i64 kk], .slice ya hl.length yc, .agg #[.int .i64 ee, .int .i64 kk], .int .i64 ff]) (d := 105) rfl rfl (by kernel_rfl) (by kernel_rfl) (by kernel_rfl) (fun _ _ _ h => h) (by rfl) (fun V hV => by obtain ⟨⟨v1, v2⟩, ⟨v3, v4⟩, v5, v6⟩ := hV; go_simp) HS1.out ?_
                simp only [Act.put, List.setIfInBounds_toArray, List.set_cons_zero, List.set_cons_succ]
                refine takeH (i := 7) (v := .agg #[.int .i64 ee, .int .i64 kk]) (d := 112) rfl rfl (by kernel_rfl) (by kernel_rfl) (by kernel_rfl) (fun _ _ _ h => h) (by rfl) (fun V hV => by obtain ⟨⟨v1, v2⟩, ⟨v3, v4⟩, v5, v6⟩ := hV; go_simp) HS1.out ?_
                simp only [Act.put, List.setIfInBounds_toArray, List.set_cons_zero, List.set_cons_succ]
                refine takeH (i := 8) (v := .slice ya hl.length yc) (d := 113) rfl rfl (by kernel_rfl) (by kernel_rfl) (by kernel_rfl) (fun _ _ _ h => h) (by rfl) (fun V hV => by obtain ⟨⟨v1, v2⟩, ⟨v3, v4⟩, v5, v6⟩ := hV; go_simp) HS1.out ?_
                simp only [Act.put, List.setIfInBounds_toArray, List.set_cons_zero, List.set_cons_succ]
                refine takeH (i := 9) (v := .agg #[.int .i64 ee, .int .i64 kk]) (d := 114) rfl rfl (by kernel_rfl) (by kernel_rfl) (by kernel_rfl) (fun _ _ _ h => h) (by rfl) (fun V hV => by obtain ⟨⟨v1, v2⟩, ⟨v3, v4⟩, v5, v6⟩ := hV; go_simp) HS1.out ?_
                simp only [Act.put, List.setIfInBounds_toArray, List.set_cons_zero, List.set_cons_succ]
                refine takeH (i := 10) (v := .int .i64 ff) (d := 115) rfl rfl (by kernel_rfl) (by kernel_rfl) (by kernel_rfl) (fun _ _ _ h => h) (by rfl) (fun V hV => by obtain ⟨⟨v1, v2⟩, ⟨v3, v4⟩, v5, v6⟩ := hV; go_simp) HS1.out ?_
                simp only [Act.put, List.setIfInBounds_toArray, List.set_cons_zero, List.set_cons_succ]
                refine twoH (i := 11) (j := 12) rfl rfl (by kernel_rfl) rfl rfl ?way2r ?way2a
                case way2r =>
                  refine op_run (d := 22) (v' := .pointer (some ⟨wc1.heap.size, 0, none⟩)) (w' := wc1.alloc (.cells #[.int .i64 0, .int .i64 0] 34)) rfl (by go_simp) ⟨KEEP.out _ (bc1.alloc bc1.size _), ?_⟩
                  simp only [Act.put, List.setIfInBounds_toArray, List.set_cons_zero, List.set_cons_succ]
                  have X_r : Hid (BX 34 (wc1.alloc (.cells #[.int .i64 0, .int .i64 0] 34)) (wc1.heap.size) #[.int .i64 0, .int .i64 0]) := BX.new _ _ _
                  have L_r : Hid (wr.heap.size ≤ wc1.heap.size) := bc1.size
                  have bc2 : Below wr.heap.size wr (wc1.alloc (.cells #[.int .i64 0, .int .i64 0] 34)) := bc1.alloc bc1.size _
                  have HS2 : Hid (((wc1.alloc (.cells #[.int .i64 0, .int .i64 0] 34)).cell? ⟨q13, 0, none⟩ = some (.int .i64 C) ∧ (wc1.alloc (.cells #[.int .i64 0, .int .i64 0] 34)).cell? ⟨q13, 1, none⟩ = some (.int .i64 0)) ∧ ((wc1.alloc (.cells #[.int .i64 0, .int .i64 0] 34)).cell? ⟨xb, xo + t * 4, none⟩ = some (.int .i64 A) ∧ (wc1.alloc (.cells #[.int .i64 0, .int .i64 0] 34)).cell? ⟨xb, xo + t * 4 + 1, none⟩ = some (.int .i64 (t : Int))) ∧ (wc1.alloc (.cells #[.int .i64 0, .int .i64 0] 34)).cell? ⟨xb, xo + t * 4 + 2, none⟩ = some (.int .i64 m.1) ∧ (wc1.alloc (.cells #[.int .i64 0, .int .i64 0] 34)).cell? ⟨xb, xo + t * 4 + 3, none⟩ = some (.int .i64 m.2)) := KEEP.out _ bc2
                  replace OC : Hid ((wc1.alloc (.cells #[.int .i64 0, .int .i64 0] 34)).ownsRow wr.heap.size 41 2 (.slice ya hl.length yc) hl.length (hl.flatMap encM)) := OC.out.alloc _
                  generalize wc1.alloc (.cells #[.int .i64 0, .int .i64 0] 34) = wa2 at *
                  refine oneH (i := 12) rfl (by kernel_rfl) rfl (op_run (d := 24) (v' := .pointer (some ⟨wa2.heap.size, 0, none⟩)) (w' := wa2.alloc (.cells #[.int .i64 0, .int .i64 0] 46)) rfl (by go_simp) ⟨KEEP.out _ (bc2.alloc bc2.size _), ?_⟩)
                  simp only [Act.put, List.setIfInBounds_toArray, List.set_cons_zero, List.set_cons_succ]
                  have NE_r_a : (wc1.heap.size) ≠ wa2.heap.size := Nat.ne_of_lt X_r.out.lt
                  have X_a : Hid (BX 46 (wa2.alloc (.cells #[.int .i64 0, .int .i64 0] 46)) (wa2.heap.size) #[.int .i64 0, .int .i64 0]) := BX.new _ _ _
                  have L_a : Hid (wr.heap.size ≤ wa2.heap.size) := bc2.size
                  have bc3 : Below wr.heap.size wr (wa2.alloc (.cells #[.int .i64 0, .int .i64 0] 46)) := bc2.alloc bc2.size _
                  have HS3 : Hid (((wa2.alloc (.cells #[.int .i64 0, .int .i64 0] 46)).cell? ⟨q13, 0, none⟩ = some (.int .i64 C) ∧ (wa2.alloc (.cells #[.int .i64 0, .int .i64 0] 46)).cell? ⟨q13, 1, none⟩ = some (.int .i64 0)) ∧ ((wa2.alloc (.cells #[.int .i64 0, .int .i64 0] 46)).cell? ⟨xb, xo + t * 4, none⟩ = some (.int .i64 A) ∧ (wa2.alloc (.cells #[.int .i64 0, .int .i64 0] 46)).cell? ⟨xb, xo + t * 4 + 1, none⟩ = some (.int .i64 (t : Int))) ∧ (wa2.alloc (.cells #[.int .i64 0, .int .i64 0] 46)).cell? ⟨xb, xo + t * 4 + 2, none⟩ = some (.int .i64 m.1) ∧ (wa2.alloc (.cells #[.int .i64 0, .int .i64 0] 46)).cell? ⟨xb, xo + t * 4 + 3, none⟩ = some (.int .i64 m.2)) := KEEP.out _ bc3
                  replace X_r : Hid (BX 34 (wa2.alloc (.cells #[.int .i64 0, .int .i64 0] 46)) (wc1.heap.size) #[.int .i64 0, .int .i64 0]) := X_r.out.below (below_alloc _ _) X_r.out.lt
                  replace OC : Hid ((wa2.alloc (.cells #[.int .i64 0, .int .i64 0] 46)).ownsRow wr.heap.size 41 2 (.slice ya hl.length yc) hl.length (hl.flatMap encM)) := OC.out.alloc _
                  generalize wa2.alloc (.cells #[.int .i64 0, .int .i64 0] 46) = wa3 at *
                  obtain ⟨n0, n1, n2, n3⟩ := X_r.out.all2
                  have bd0 : Below wr.heap.size wr (put2 wa3 (wc1.heap.size) (.int .i64 ee) (.int .i64 kk)) := below_put2 bc3 L_r.out _ _
                  have HT0 : Hid (((put2 wa3 (wc1.heap.size) (.int .i64 ee) (.int .i64 kk)).cell? ⟨q13, 0, none⟩ = some (.int .i64 C) ∧ (put2 wa3 (wc1.heap.size) (.int .i64 ee) (.int .i64 kk)).cell? ⟨q13, 1, none⟩ = some (.int .i64 0)) ∧ ((put2 wa3 (wc1.heap.size) (.int .i64 ee) (.int .i64 kk)).cell? ⟨xb, xo + t * 4, none⟩ = some (.int .i64 A) ∧ (put2 wa3 (wc1.heap.size) (.int .i64 ee) (.int .i64 kk)).cell? ⟨xb, xo + t * 4 + 1, none⟩ = some (.int .i64 (t : Int))) ∧ (put2 wa3 (wc1.heap.size) (.int .i64 ee) (.int .i64 kk)).cell? ⟨xb, xo + t * 4 + 2, none⟩ = some (.int .i64 m.1) ∧ (put2 wa3 (wc1.heap.size) (.int .i64 ee) (.int .i64 kk)).cell? ⟨xb, xo + t * 4 + 3, none⟩ = some (.int .i64 m.2)) := KEEP.out _ bd0
                  have Y_r : Hid (BX 34 (put2 wa3 (wc1.heap.size) (.int .i64 ee) (.int .i64 kk)) (wc1.heap.size) #[.int .i64 ee, .int .i64 kk]) := X_r.out.put2 _ _
                  replace X_a : Hid (BX 46 (put2 wa3 (wc1.heap.size) (.int .i64 ee) (.int .i64 kk)) (wa2.heap.size) #[.int .i64 0, .int .i64 0]) := X_a.out.off2 NE_r_a.symm
                  replace OC : Hid ((put2 wa3 (wc1.heap.size) (.int .i64 ee) (.int .i64 kk)).ownsRow wr.heap.size 41 2 (.slice ya hl.length yc) hl.length (hl.flatMap encM)) := X_r.out.own2 OC.out (by decide)
                  refine oneH (i := 13) rfl (by kernel_rfl) rfl (op_skip (w' := (put2 wa3 (wc1.heap.size) (.int .i64 ee) (.int .i64 kk))) rfl (by unfold put2; go_simp) ⟨HT0.out, ?_⟩)
                  clear n0 n1 n2 n3 X_r
                  generalize put2 wa3 (wc1.heap.size) (.int .i64 ee) (.int .i64 kk) = wp4_0 at *
                  refine takeH (i := 14) (v := .slice ya hl.length yc) (d := 23) rfl rfl (by kernel_rfl) (by kernel_rfl) (by kernel_rfl) (fun _ _ _ h => h) (by rfl) (fun V hV => by obtain ⟨⟨v1, v2⟩, ⟨v3, v4⟩, v5, v6⟩ := hV; go_simp) HT0.out ?_
                  simp only [Act.put, List.setIfInBounds_toArray, List.set_cons_zero, List.set_cons_succ]
                  obtain ⟨n0, n1, n2, n3⟩ := X_a.out.all2
                  have bd1 : Below wr.heap.size wr (put2 wp4_0 (wa2.heap.size) (.int .i64 ee) (.int .i64 kk)) := below_put2 bd0 L_a.out _ _
                  have HT1 : Hid (((put2 wp4_0 (wa2.heap.size) (.int .i64 ee) (.int .i64 kk)).cell? ⟨q13, 0, none⟩ = some (.int .i64 C) ∧ (put2 wp4_0 (wa2.heap.size) (.int .i64 ee) (.int .i64 kk)).cell? ⟨q13, 1, none⟩ = some (.int .i64 0)) ∧ ((put2 wp4_0 (wa2.heap.size) (.int .i64 ee) (.int .i64 kk)).cell? ⟨xb, xo + t * 4, none⟩ = some (.int .i64 A) ∧ (put2 wp4_0 (wa2.heap.size) (.int .i64 ee) (.int .i64 kk)).cell? ⟨xb, xo + t * 4 + 1, none⟩ = some (.int .i64 (t : Int))) ∧ (put2 wp4_0 (wa2.heap.size) (.int .i64 ee) (.int .i64 kk)).cell? ⟨xb, xo + t * 4 + 2, none⟩ = some (.int .i64 m.1) ∧ (put2 wp4_0 (wa2.heap.size) (.int .i64 ee) (.int .i64 kk)).cell? ⟨xb, xo + t * 4 + 3, none⟩ = some (.int .i64 m.2)) := KEEP.out _ bd1
                  replace Y_r : Hid (BX 34 (put2 wp4_0 (wa2.heap.size) (.int .i64 ee) (.int .i64 kk)) (wc1.heap.size) #[.int .i64 ee, .int .i64 kk]) := Y_r.out.off2 NE_r_a
                  have Y_a : Hid (BX 46 (put2 wp4_0 (wa2.heap.size) (.int .i64 ee) (.int .i64 kk)) (wa2.heap.size) #[.int .i64 ee, .int .i64 kk]) := X_a.out.put2 _ _
                  replace OC : Hid ((put2 wp4_0 (wa2.heap.size) (.int .i64 ee) (.int .i64 kk)).ownsRow wr.heap.size 41 2 (.slice ya hl.length yc) hl.length (hl.flatMap encM)) := X_a.out.own2 OC.out (by decide)
                  refine oneH (i := 15) rfl (by kernel_rfl) rfl (op_skip (w' := (put2 wp4_0 (wa2.heap.size) (.int .i64 ee) (.int .i64 kk))) rfl (by unfold put2; go_simp) ⟨HT1.out, ?_⟩)
                  clear n0 n1 n2 n3 X_a
                  generalize put2 wp4_0 (wa2.heap.size) (.int .i64 ee) (.int .i64 kk) = wp4_1 at *
                  refine takeH (i := 16) (v := .int .i64 ff) (d := 25) rfl rfl (by kernel_rfl) (by kernel_rfl) (by kernel_rfl) (fun _ _ _ h => h) (by rfl) (fun V hV => by obtain ⟨⟨v1, v2⟩, ⟨v3, v4⟩, v5, v6⟩ := hV; go_simp) HT1.out ?_
                  simp only [Act.put, List.setIfInBounds_toArray, List.set_cons_zero, List.set_cons_succ]
                  refine wpAnyH_done (by kernel_rfl) ?_ _
                  have FB : Hid (Below wr.heap.size wr wp4_1) := bd1
                  clear bc1 HS1 bc2 HS2 NE_r_a bc3 HS3 bd0 HT0 bd1 HT1
                  generalize wc1.heap.size = pb_r at *
                  generalize wa2.heap.size = pb_a at *
                  revert L_a
                  revert L_r
                  revert FB
                  revert OC
                  revert Y_a
                  revert Y_r
                  revert wp4_1
                  revert pb_a
                  revert pb_r
                  revert yc
                  revert ya
                  exact HG.out
                case way2a =>
                  refine op_run (d := 24) (v' := .pointer (some ⟨wc1.heap.size, 0, none⟩)) (w' := wc1.alloc (.cells #[.int .i64 0, .int .i64 0] 46)) rfl (by go_simp) ⟨KEEP.out _ (bc1.alloc bc1.size _), ?_⟩
                  simp only [Act.put, List.setIfInBounds_toArray, List.set_cons_zero, List.set_cons_succ]
                  have X_a : Hid (BX 46 (wc1.alloc (.cells #[.int .i64 0, .int .i64 0] 46)) (wc1.heap.size) #[.int .i64 0, .int .i64 0]) := BX.new _ _ _
                  have L_a : Hid (wr.heap.size ≤ wc1.heap.size) := bc1.size
                  have bc2 : Below wr.heap.size wr (wc1.alloc (.cells #[.int .i64 0, .int .i64 0] 46)) := bc1.alloc bc1.size _
                  have HS2 : Hid (((wc1.alloc (.cells #[.int .i64 0, .int .i64 0] 46)).cell? ⟨q13, 0, none⟩ = some (.int .i64 C) ∧ (wc1.alloc (.cells #[.int .i64 0, .int .i64 0] 46)).cell? ⟨q13, 1, none⟩ = some (.int .i64 0)) ∧ ((wc1.alloc (.cells #[.int .i64 0, .int .i64 0] 46)).cell? ⟨xb, xo + t * 4, none⟩ = some (.int .i64 A) ∧ (wc1.alloc (.cells #[.int .i64 0, .int .i64 0] 46)).cell? ⟨xb, xo + t * 4 + 1, none⟩ = some (.int .i64 (t : Int))) ∧ (wc1.alloc (.cells #[.int .i64 0, .int .i64 0] 46)).cell? ⟨xb, xo + t * 4 + 2, none⟩ = some (.int .i64 m.1) ∧ (wc1.alloc (.cells #[.int .i64 0, .int .i64 0] 46)).cell? ⟨xb, xo + t * 4 + 3, none⟩ = some (.int .i64 m.2)) := KEEP.out _ bc2
                  replace OC : Hid ((wc1.alloc (.cells #[.int .i64 0, .int .i64 0] 46)).ownsRow wr.heap.size 41 2 (.slice ya hl.length yc) hl.length (hl.flatMap encM)) := OC.out.alloc _
                  generalize wc1.alloc (.cells #[.int .i64 0, .int .i64 0] 46) = wa2 at *
                  refine oneH (i := 11) rfl (by kernel_rfl) rfl (op_run (d := 22) (v' := .pointer (some ⟨wa2.heap.size, 0, none⟩)) (w' := wa2.alloc (.cells #[.int .i64 0, .int .i64 0] 34)) rfl (by go_simp) ⟨KEEP.out _ (bc2.alloc bc2.size _), ?_⟩)
                  simp only [Act.put, List.setIfInBounds_toArray, List.set_cons_zero, List.set_cons_succ]
                  have NE_a_r : (wc1.heap.size) ≠ wa2.heap.size := Nat.ne_of_lt X_a.out.lt
                  have X_r : Hid (BX 34 (wa2.alloc (.cells #[.int .i64 0, .int .i64 0] 34)) (wa2.heap.size) #[.int .i64 0, .int .i64 0]) := BX.new _ _ _
                  have L_r : Hid (wr.heap.size ≤ wa2.heap.size) := bc2.size
                  have bc3 : Below wr.heap.size wr (wa2.alloc (.cells #[.int .i64 0, .int .i64 0] 34)) := bc2.alloc bc2.size _
                  have HS3 : Hid (((wa2.alloc (.cells #[.int .i64 0, .int .i64 0] 34)).cell? ⟨q13, 0, none⟩ = some (.int .i64 C) ∧ (wa2.alloc (.cells #[.int .i64 0, .int .i64 0] 34)).cell? ⟨q13, 1, none⟩ = some (.int .i64 0)) ∧ ((wa2.alloc (.cells #[.int .i64 0, .int .i64 0] 34)).cell? ⟨xb, xo + t * 4, none⟩ = some (.int .i64 A) ∧ (wa2.alloc (.cells #[.int .i64 0, .int .i64 0] 34)).cell? ⟨xb, xo + t * 4 + 1, none⟩ = some (.int .i64 (t : Int))) ∧ (wa2.alloc (.cells #[.int .i64 0, .int .i64 0] 34)).cell? ⟨xb, xo + t * 4 + 2, none⟩ = some (.int .i64 m.1) ∧ (wa2.alloc (.cells #[.int .i64 0, .int .i64 0] 34)).cell? ⟨xb, xo + t * 4 + 3, none⟩ = some (.int .i64 m.2)) := KEEP.out _ bc3
                  replace X_a : Hid (BX 46 (wa2.alloc (.cells #[.int .i64 0, .int .i64 0] 34)) (wc1.heap.size) #[.int .i64 0, .int .i64 0]) := X_a.out.below (below_alloc _ _) X_a.out.lt
                  replace OC : Hid ((wa2.alloc (.cells #[.int .i64 0, .int .i64 0] 34)).ownsRow wr.heap.size 41 2 (.slice ya hl.length yc) hl.length (hl.flatMap encM)) := OC.out.alloc _
                  generalize wa2.alloc (.cells #[.int .i64 0, .int .i64 0] 34) = wa3 at *
                  obtain ⟨n0, n1, n2, n3⟩ := X_r.out.all2
                  have bd0 : Below wr.heap.size wr (put2 wa3 (wa2.heap.size) (.int .i64 ee) (.int .i64 kk)) := below_put2 bc3 L_r.out _ _
                  have HT0 : Hid (((put2 wa3 (wa2.heap.size) (.int .i64 ee) (.int .i64 kk)).cell? ⟨q13, 0, none⟩ = some (.int .i64 C) ∧ (put2 wa3 (wa2.heap.size) (.int .i64 ee) (.int .i64 kk)).cell? ⟨q13, 1, none⟩ = some (.int .i64 0)) ∧ ((put2 wa3 (wa2.heap.size) (.int .i64 ee) (.int .i64 kk)).cell? ⟨xb, xo + t * 4, none⟩ = some (.int .i64 A) ∧ (put2 wa3 (wa2.heap.size) (.int .i64 ee) (.int .i64 kk)).cell? ⟨xb, xo + t * 4 + 1, none⟩ = some (.int .i64 (t : Int))) ∧ (put2 wa3 (wa2.heap.size) (.int .i64 ee) (.int .i64 kk)).cell? ⟨xb, xo + t * 4 + 2, none⟩ = some (.int .i64 m.1) ∧ (put2 wa3 (wa2.heap.size) (.int .i64 ee) (.int .i64 kk)).cell? ⟨xb, xo + t * 4 + 3, none⟩ = some (.int .i64 m.2)) := KEEP.out _ bd0
                  replace X_a : Hid (BX 46 (put2 wa3 (wa2.heap.size) (.int .i64 ee) (.int .i64 kk)) (wc1.heap.size) #[.int .i64 0, .int .i64 0]) := X_a.out.off2 NE_a_r
                  have Y_r : Hid (BX 34 (put2 wa3 (wa2.heap.size) (.int .i64 ee) (.int .i64 kk)) (wa2.heap.size) #[.int .i64 ee, .int .i64 kk]) := X_r.out.put2 _ _
                  replace OC : Hid ((put2 wa3 (wa2.heap.size) (.int .i64 ee) (.int .i64 kk)).ownsRow wr.heap.size 41 2 (.slice ya hl.length yc) hl.length (hl.flatMap encM)) := X_r.out.own2 OC.out (by decide)
                  refine oneH (i := 13) rfl (by kernel_rfl) rfl (op_skip (w' := (put2 wa3 (wa2.heap.size) (.int .i64 ee) (.int .i64 kk))) rfl (by unfold put2; go_simp) ⟨HT0.out, ?_⟩)
                  clear n0 n1 n2 n3 X_r
                  generalize put2 wa3 (wa2.heap.size) (.int .i64 ee) (.int .i64 kk) = wp4_0 at *
                  refine takeH (i := 14) (v := .slice ya hl.length yc) (d := 23) rfl rfl (by kernel_rfl) (by kernel_rfl) (by kernel_rfl) (fun _ _ _ h => h) (by rfl) (fun V hV => by obtain ⟨⟨v1, v2⟩, ⟨v3, v4⟩, v5, v6⟩ := hV; go_simp) HT0.out ?_
                  simp only [Act.put, List.setIfInBounds_toArray, List.set_cons_zero, List.set_cons_succ]
                  obtain ⟨n0, n1, n2, n3⟩ := X_a.out.all2
                  have bd1 : Below wr.heap.size wr (put2 wp4_0 (wc1.heap.size) (.int .i64 ee) (.int .i64 kk)) := below_put2 bd0 L_a.out _ _
                  have HT1 : Hid (((put2 wp4_0 (wc1.heap.size) (.int .i64 ee) (.int .i64 kk)).cell? ⟨q13, 0, none⟩ = some (.int .i64 C) ∧ (put2 wp4_0 (wc1.heap.size) (.int .i64 ee) (.int .i64 kk)).cell? ⟨q13, 1, none⟩ = some (.int .i64 0)) ∧ ((put2 wp4_0 (wc1.heap.size) (.int .i64 ee) (.int .i64 kk)).cell? ⟨xb, xo + t * 4, none⟩ = some (.int .i64 A) ∧ (put2 wp4_0 (wc1.heap.size) (.int .i64 ee) (.int .i64 kk)).cell? ⟨xb, xo + t * 4 + 1, none⟩ = some (.int .i64 (t : Int))) ∧ (put2 wp4_0 (wc1.heap.size) (.int .i64 ee) (.int .i64 kk)).cell? ⟨xb, xo + t * 4 + 2, none⟩ = some (.int .i64 m.1) ∧ (put2 wp4_0 (wc1.heap.size) (.int .i64 ee) (.int .i64 kk)).cell? ⟨xb, xo + t * 4 + 3, none⟩ = some (.int .i64 m.2)) := KEEP.out _ bd1
                  have Y_a : Hid (BX 46 (put2 wp4_0 (wc1.heap.size) (.int .i64 ee) (.int .i64 kk)) (wc1.heap.size) #[.int .i64 ee, .int .i64 kk]) := X_a.out.put2 _ _
                  replace Y_r : Hid (BX 34 (put2 wp4_0 (wc1.heap.size) (.int .i64 ee) (.int .i64 kk)) (wa2.heap.size) #[.int .i64 ee, .int .i64 kk]) := Y_r.out.off2 NE_a_r.symm
                  replace OC : Hid ((put2 wp4_0 (wc1.heap.size) (.int .i64 ee) (.int .i64 kk)).ownsRow wr.heap.size 41 2 (.slice ya hl.length yc) hl.length (hl.flatMap encM)) := X_a.out.own2 OC.out (by decide)
                  refine oneH (i := 15) rfl (by kernel_rfl) rfl (op_skip (w' := (put2 wp4_0 (wc1.heap.size) (.int .i64 ee) (.int .i64 kk))) rfl (by unfold put2; go_simp) ⟨HT1.out, ?_⟩)
                  clear n0 n1 n2 n3 X_a
                  generalize put2 wp4_0 (wc1.heap.size) (.int .i64 ee) (.int .i64 kk) = wp4_1 at *
                  refine takeH (i := 16) (v := .int .i64 ff) (d := 25) rfl rfl (by kernel_rfl) (by kernel_rfl) (by kernel_rfl) (fun _ _ _ h => h) (by rfl) (fun V hV => by obtain ⟨⟨v1, v2⟩, ⟨v3, v4⟩, v5, v6⟩ := hV; go_simp) HT1.out ?_
                  simp only [Act.put, List.setIfInBounds_toArray, List.set_cons_zero, List.set_cons_succ]
                  refine wpAnyH_done (by kernel_rfl) ?_ _
                  have FB : Hid (Below wr.heap.size wr wp4_1) := bd1
                  exact HG.out ya yc (wa2.heap.size) (wc1.heap.size) wp4_1 Y_r Y_a OC FB L_r L_a
              case way1r =>
                refine op_run (d := 22) (v' := .pointer (some ⟨wr.heap.size, 0, none⟩)) (w' := wr.drew.alloc (.cells #[.int .i64 0, .int .i64 0] 34)) rfl (by go_simp) ⟨KEEP.out _ (B0.alloc B0.size _), ?_⟩
                simp only [Act.put, List.setIfInBounds_toArray, List.set_cons_zero, List.set_cons_succ]
                have X_r : Hid (BX 34 (wr.drew.alloc (.cells #[.int .i64 0, .int .i64 0] 34)) (wr.heap.size) #[.int .i64 0, .int .i64 0]) := BX.new _ _ _
                have L_r : Hid (wr.heap.size ≤ wr.heap.size) := Nat.le_refl _
                have bc1 : Below wr.heap.size wr (wr.drew.alloc (.cells #[.int .i64 0, .int .i64 0] 34)) := B0.alloc B0.size _
                have HS1 : Hid (((wr.drew.alloc (.cells #[.int .i64 0, .int .i64 0] 34)).cell? ⟨q13, 0, none⟩ = some (.int .i64 C) ∧ (wr.drew.alloc (.cells #[.int .i64 0, .int .i64 0] 34)).cell? ⟨q13, 1, none⟩ = some (.int .i64 0)) ∧ ((wr.drew.alloc (.cells #[.int .i64 0, .int .i64 0] 34)).cell? ⟨xb, xo + t * 4, none⟩ = some (.int .i64 A) ∧ (wr.drew.alloc (.cells #[.int .i64 0, .int .i64 0] 34)).cell? ⟨xb, xo + t * 4 + 1, none⟩ = some (.int .i64 (t : Int))) ∧ (wr.drew.alloc (.cells #[.int .i64 0, .int .i64 0] 34)).cell? ⟨xb, xo + t * 4 + 2, none⟩ = some (.int .i64 m.1) ∧ (wr.drew.alloc (.cells #[.int .i64 0, .int .i64 0] 34)).cell? ⟨xb, xo + t * 4 + 3, none⟩ = some (.int .i64 m.2)) := KEEP.out _ bc1
                generalize wr.drew.alloc (.cells #[.int .i64 0, .int .i64 0] 34) = wa1 at *
                refine twoH (i := 5) (j := 12) rfl rfl (by kernel_rfl) rfl rfl ?way2call ?way2a
                case way2call =>
                  refine call_gets (d := 111) (f := 12) (xs := #[.tmp 106, .tmp 110]) (ats := #[34, 50]) rfl rfl ehear (vs := #[.agg #[.int .i64 C, .int .i64 0], .agg #[.int .i64 A, .int .i64 (t : Int), .int .i64 m.1, .int .i64 m.2]]) (by simp [Act.eval]) (CC.out _ bc1) ?_
                  rintro vr wc2 ⟨yv, rfl, ho, hb⟩
                  have bc2 : Below wr.heap.size wr wc2 := bc1.trans (hb.mono bc1.size)
                  have OC : Hid (wc2.ownsRow wr.heap.size 41 2 (yv) hl.length (hl.flatMap encM)) := own_lower ho bc1.size
                  obtain ⟨ya, yc, rfl⟩ := (MlR.ownd OC.out).shape
                  have HS2 : Hid ((wc2.cell? ⟨q13, 0, none⟩ = some (.int .i64 C) ∧ wc2.cell? ⟨q13, 1, none⟩ = some (.int .i64 0)) ∧ (wc2.cell? ⟨xb, xo + t * 4, none⟩ = some (.int .i64 A) ∧ wc2.cell? ⟨xb, xo + t * 4 + 1, none⟩ = some (.int .i64 (t : Int))) ∧ wc2.cell? ⟨xb, xo + t * 4 + 2, none⟩ = some (.int .i64 m.1) ∧ wc2.cell? ⟨xb, xo + t * 4 + 3, none⟩ = some (.int .i64 m.2)) := KEEP.out wc2 bc2
                  replace X_r : Hid (BX 34 wc2 (wr.heap.size) #[.int .i64 0, .int .i64 0]) := X_r.out.below hb X_r.out.lt
                  clear ho hb
                  refine ⟨HS2.out, ?_⟩
                  simp only [Act.put, List.setIfInBounds_toArray, List.set_cons_zero, List.set_cons_succ]
                  refine takeH (i := 6) (v := .tuple #[.agg #[.int .i64 ee, .int .i64 kk], .slice ya hl.length yc, .agg #[.int .i64 ee, .int .i64 kk], .int .i64 ff]) (d := 105) rfl rfl (by kernel_rfl) (by kernel_rfl) (by kernel_rfl) (fun _ _ _ h => h) (by rfl) (fun V hV => by obtain ⟨⟨v1, v2⟩, ⟨v3, v4⟩, v5, v6⟩ := hV; go_simp) HS2.out ?_
                  simp only [Act.put, List.setIfInBounds_toArray, List.set_cons_zero, List.set_cons_succ]
                  refine takeH (i := 7) (v := .agg #[.int .i64 ee, .int .i64 kk]) (d := 112) rfl rfl (by kernel_rfl) (by kernel_rfl) (by kernel_rfl) (fun _ _ _ h => h) (by rfl) (fun V hV => by obtain ⟨⟨v1, v2⟩, ⟨v3, v4⟩, v5, v6⟩ := hV; go_simp) HS2.out ?_
                  simp only [Act.put, List.setIfInBounds_toArray, List.set_cons_zero, List.set_cons_succ]
                  refine takeH (i := 8) (v := .slice ya hl.length yc) (d := 113) rfl rfl (by kernel_rfl) (by kernel_rfl) (by kernel_rfl) (fun _ _ _ h => h) (by rfl) (fun V hV => by obtain ⟨⟨v1, v2⟩, ⟨v3, v4⟩, v5, v6⟩ := hV; go_simp) HS2.out ?_
                  simp only [Act.put, List.setIfInBounds_toArray, List.set_cons_zero, List.set_cons_succ]
                  refine takeH (i := 9) (v := .agg #[.int .i64 ee, .int .i64 kk]) (d := 114) rfl rfl (by kernel_rfl) (by kernel_rfl) (by kernel_rfl) (fun _ _ _ h => h) (by rfl) (fun V hV => by obtain ⟨⟨v1, v2⟩, ⟨v3, v4⟩, v5, v6⟩ := hV; go_simp) HS2.out ?_
                  simp only [Act.put, List.setIfInBounds_toArray, List.set_cons_zero, List.set_cons_succ]
                  refine takeH (i := 10) (v := .int .i64 ff) (d := 115) rfl rfl (by kernel_rfl) (by kernel_rfl) (by kernel_rfl) (fun _ _ _ h => h) (by rfl) (fun V hV => by obtain ⟨⟨v1, v2⟩, ⟨v3, v4⟩, v5, v6⟩ := hV; go_simp) HS2.out ?_
                  simp only [Act.put, List.setIfInBounds_toArray, List.set_cons_zero, List.set_cons_succ]
                  refine oneH (i := 12) rfl (by kernel_rfl) rfl (op_run (d := 24) (v' := .pointer (some ⟨wc2.heap.size, 0, none⟩)) (w' := wc2.alloc (.cells #[.int .i64 0, .int .i64 0] 46)) rfl (by go_simp) ⟨KEEP.out _ (bc2.alloc bc2.size _), ?_⟩)
                  simp only [Act.put, List.setIfInBounds_toArray, List.set_cons_zero, List.set_cons_succ]
                  have NE_r_a : (wr.heap.size) ≠ wc2.heap.size := Nat.ne_of_lt X_r.out.lt
                  have X_a : Hid (BX 46 (wc2.alloc (.cells #[.int .i64 0, .int .i64 0] 46)) (wc2.heap.size) #[.int .i64 0, .int .i64 0]) := BX.new _ _ _
                  have L_a : Hid (wr.heap.size ≤ wc2.heap.size) := bc2.size
                  have bc3 : Below wr.heap.size wr (wc2.alloc (.cells #[.int .i64 0, .int .i64 0] 46)) := bc2.alloc bc2.size _
                  have HS3 : Hid (((wc2.alloc (.cells #[.int .i64 0, .int .i64 0] 46)).cell? ⟨q13, 0, none⟩ = some (.int .i64 C) ∧ (wc2.alloc (.cells #[.int .i64 0, .int .i64 0] 46)).cell? ⟨q13, 1, none⟩ = some (.int .i64 0)) ∧ ((wc2.alloc (.cells #[.int .i64 0, .int .i64 0] 46)).cell? ⟨xb, xo + t * 4, none⟩ = some (.int .i64 A) ∧ (wc2.alloc (.cells #[.int .i64 0, .int .i64 0] 46)).cell? ⟨xb, xo + t * 4 + 1, none⟩ = some (.int .i64 (t : Int))) ∧ (wc2.alloc (.cells #[.int .i64 0, .int .i64 0] 46)).cell? ⟨xb, xo + t * 4 + 2, none⟩ = some (.int .i64 m.1) ∧ (wc2.alloc (.cells #[.int .i64 0, .int .i64 0] 46)).cell? ⟨xb, xo + t * 4 + 3, none⟩ = some (.int .i64 m.2)) := KEEP.out _ bc3
                  replace X_r : Hid (BX 34 (wc2.alloc (.cells #[.int .i64 0, .int .i64 0] 46)) (wr.heap.size) #[.int .i64 0, .int .i64 0]) := X_r.out.below (below_alloc _ _) X_r.out.lt
                  replace OC : Hid ((wc2.alloc (.cells #[.int .i64 0, .int .i64 0] 46)).ownsRow wr.heap.size 41 2 (.slice ya hl.length yc) hl.length (hl.flatMap encM)) := OC.out.alloc _
                  generalize wc2.alloc (.cells #[.int .i64 0, .int .i64 0] 46) = wa3 at *
                  obtain ⟨n0, n1, n2, n3⟩ := X_r.out.all2
                  have bd0 : Below wr.heap.size wr (put2 wa3 (wr.heap.size) (.int .i64 ee) (.int .i64 kk)) := below_put2 bc3 L_r.out _ _
                  have HT0 : Hid (((put2 wa3 (wr.heap.size) (.int .i64 ee) (.int .i64 kk)).cell? ⟨q13, 0, none⟩ = some (.int .i64 C) ∧ (put2 wa3 (wr.heap.size) (.int .i64 ee) (.int .i64 kk)).cell? ⟨q13, 1, none⟩ = some (.int .i64 0)) ∧ ((put2 wa3 (wr.heap.size) (.int .i64 ee) (.int .i64 kk)).cell? ⟨xb, xo + t * 4, none⟩ = some (.int .i64 A) ∧ (put2 wa3 (wr.heap.size) (.int .i64 ee) (.int .i64 kk)).cell? ⟨xb, xo + t * 4 + 1, none⟩ = some (.int .i64 (t : Int))) ∧ (put2 wa3 (wr.heap.size) (.int .i64 ee) (.int .i64 kk)).cell? ⟨xb, xo + t * 4 + 2, none⟩ = some (.int .i64 m.1) ∧ (put2 wa3 (wr.heap.size) (.int .i64 ee) (.int .i64 kk)).cell? ⟨xb, xo + t * 4 + 3, none⟩ = some (.int .i64 m.2)) := KEEP.out _ bd0
                  have Y_r : Hid (BX 34 (put2 wa3 (wr.heap.size) (.int .i64 ee) (.int .i64 kk)) (wr.heap.size) #[.int .i64 ee, .int .i64 kk]) := X_r.out.put2 _ _
                  replace X_a : Hid (BX 46 (put2 wa3 (wr.heap.size) (.int .i64 ee) (.int .i64 kk)) (wc2.heap.size) #[.int .i64 0, .int .i64 0]) := X_a.out.off2 NE_r_a.symm
                  replace OC : Hid ((put2 wa3 (wr.heap.size) (.int .i64 ee) (.int .i64 kk)).ownsRow wr.heap.size 41 2 (.slice ya hl.length yc) hl.length (hl.flatMap encM)) := X_r.out.own2 OC.out (by decide)
                  refine oneH (i := 13) rfl (by kernel_rfl) rfl (op_skip (w' := (put2 wa3 (wr.heap.size) (.int .i64 ee) (.int .i64 kk))) rfl (by unfold put2; go_simp) ⟨HT0.out, ?_⟩)
                  clear n0 n1 n2 n3 X_r
                  generalize put2 wa3 (wr.heap.size) (.int .i64 ee) (.int .i64 kk) = wp4_0 at *
                  refine takeH (i := 14) (v := .slice ya hl.length yc) (d := 23) rfl rfl (by kernel_rfl) (by kernel_rfl) (by kernel_rfl) (fun _ _ _ h => h) (by rfl) (fun V hV => by obtain ⟨⟨v1, v2⟩, ⟨v3, v4⟩, v5, v6⟩ := hV; go_simp) HT0.out ?_
                  simp only [Act.put, List.setIfInBounds_toArray, List.set_cons_zero, List.set_cons_succ]
                  obtain ⟨n0, n1, n2, n3⟩ := X_a.out.all2
                  have bd1 : Below wr.heap.size wr (put2 wp4_0 (wc2.heap.size) (.int .i64 ee) (.int .i64 kk)) := below_put2 bd0 L_a.out _ _
                  have HT1 : Hid (((put2 wp4_0 (wc2.heap.size) (.int .i64 ee) (.int .i64 kk)).cell? ⟨q13, 0, none⟩ = some (.int .i64 C) ∧ (put2 wp4_0 (wc2.heap.size) (.int .i64 ee) (.int .i64 kk)).cell? ⟨q13, 1, none⟩ = some (.int .i64 0)) ∧ ((put2 wp4_0 (wc2.heap.size) (.int .i64 ee) (.int .i64 kk)).cell? ⟨xb, xo + t * 4, none⟩ = some (.int .i64 A) ∧ (put2 wp4_0 (wc2.heap.size) (.int .i64 ee) (.int .i64 kk)).cell? ⟨xb, xo + t * 4 + 1, none⟩ = some (.int .i64 (t : Int))) ∧ (put2 wp4_0 (wc2.heap.size) (.int .i64 ee) (.int .i64 kk)).cell? ⟨xb, xo + t * 4 + 2, none⟩ = some (.int .i64 m.1) ∧ (put2 wp4_0 (wc2.heap.size) (.int .i64 ee) (.int .i64 kk)).cell? ⟨xb, xo + t * 4 + 3, none⟩ = some (.int .i64 m.2)) := KEEP.out _ bd1
                  replace Y_r : Hid (BX 34 (put2 wp4_0 (wc2.heap.size) (.int .i64 ee) (.int .i64 kk)) (wr.heap.size) #[.int .i64 ee, .int .i64 kk]) := Y_r.out.off2 NE_r_a
                  have Y_a : Hid (BX 46 (put2 wp4_0 (wc2.heap.size) (.int .i64 ee) (.int .i64 kk)) (wc2.heap.size) #[.int .i64 ee, .int .i64 kk]) := X_a.out.put2 _ _
                  replace OC : Hid ((put2 wp4_0 (wc2.heap.size) (.int .i64 ee) (.int .i64 kk)).ownsRow wr.heap.size 41 2 (.slice ya hl.length yc) hl.length (hl.flatMap encM)) := X_a.out.own2 OC.out (by decide)
                  refine oneH (i := 15) rfl (by kernel_rfl) rfl (op_skip (w' := (put2 wp4_0 (wc2.heap.size) (.int .i64 ee) (.int .i64 kk))) rfl (by unfold put2; go_simp) ⟨HT1.out, ?_⟩)
                  clear n0 n1 n2 n3 X_a
                  generalize put2 wp4_0 (wc2.heap.size) (.int .i64 ee) (.int .i64 kk) = wp4_1 at *
                  refine takeH (i := 16) (v := .int .i64 ff) (d := 25) rfl rfl (by kernel_rfl) (by kernel_rfl) (by kernel_rfl) (fun _ _ _ h => h) (by rfl) (fun V hV => by obtain ⟨⟨v1, v2⟩, ⟨v3, v4⟩, v5, v6⟩ := hV; go_simp) HT1.out ?_
                  simp only [Act.put, List.setIfInBounds_toArray, List.set_cons_zero, List.set_cons_succ]
                  refine wpAnyH_done (by kernel_rfl) ?_ _
                  have FB : Hid (Below wr.heap.size wr wp4_1) := bd1
                  exact HG.out ya yc (wr.heap.size) (wc2.heap.size) wp4_1 Y_r Y_a OC FB L_r L_a
                case way2a =>
                  refine op_run (d := 24) (v' := .pointer (some ⟨wa1.heap.size, 0, none⟩)) (w' := wa1.alloc (.cells #[.int .i64 0, .int .i64 0] 46)) rfl (by go_simp) ⟨KEEP.out _ (bc1.alloc bc1.size _), ?_⟩
                  simp only [Act.put, List.setIfInBounds_toArray, List.set_cons_zero, List.set_cons_succ]
                  have NE_r_a : (wr.heap.size) ≠ wa1.heap.size := Nat.ne_of_lt X_r.out.lt
                  have X_a : Hid (BX 46 (wa1.alloc (.cells #[.int .i64 0, .int .i64 0] 46)) (wa1.heap.size) #[.int .i64 0, .int .i64 0]) := BX.new _ _ _
                  have L_a : Hid (wr.heap.size ≤ wa1.heap.size) := bc1.size
                  have bc2 : Below wr.heap.size wr (wa1.alloc (.cells #[.int .i64 0, .int .i64 0] 46)) := bc1.alloc bc1.size _
                  have HS2 : Hid (((wa1.alloc (.cells #[.int .i64 0, .int .i64 0] 46)).cell? ⟨q13, 0, none⟩ = some (.int .i64 C) ∧ (wa1.alloc (.cells #[.int .i64 0, .int .i64 0] 46)).cell? ⟨q13, 1, none⟩ = some (.int .i64 0)) ∧ ((wa1.alloc (.cells #[.int .i64 0, .int .i64 0] 46)).cell? ⟨xb, xo + t * 4, none⟩ = some (.int .i64 A) ∧ (wa1.alloc (.cells #[.int .i64 0, .int .i64 0] 46)).cell? ⟨xb, xo + t * 4 + 1, none⟩ = some (.int .i64 (t : Int))) ∧ (wa1.alloc (.cells #[.int .i64 0, .int .i64 0] 46)).cell? ⟨xb, xo + t * 4 + 2, none⟩ = some (.int .i64 m.1) ∧ (wa1.alloc (.cells #[.int .i64 0, .int .i64 0] 46)).cell? ⟨xb, xo + t * 4 + 3, none⟩ = some (.int .i64 m.2)) := KEEP.out _ bc2
                  replace X_r : Hid (BX 34 (wa1.alloc (.cells #[.int .i64 0, .int .i64 0] 46)) (wr.heap.size) #[.int .i64 0, .int .i64 0]) := X_r.out.below (below_alloc _ _) X_r.out.lt
                  generalize wa1.alloc (.cells #[.int .i64 0, .int .i64 0] 46) = wa2 at *
                  refine oneH (i := 5) rfl (by kernel_rfl) rfl (call_gets (d := 111) (f := 12) (xs := #[.tmp 106, .tmp 110]) (ats := #[34, 50]) rfl rfl ehear (vs := #[.agg #[.int .i64 C, .int .i64 0], .agg #[.int .i64 A, .int .i64 (t : Int), .int .i64 m.1, .int .i64 m.2]]) (by simp [Act.eval]) (CC.out _ bc2) ?_)
                  rintro vr wc3 ⟨yv, rfl, ho, hb⟩
                  have bc3 : Below wr.heap.size wr wc3 := bc2.trans (hb.mono bc2.size)
                  have OC : Hid (wc3.ownsRow wr.heap.size 41 2 (yv) hl.length (hl.flatMap encM)) := own_lower ho bc2.size
                  obtain ⟨ya, yc, rfl⟩ := (MlR.ownd OC.out).shape
                  have HS3 : Hid ((wc3.cell? ⟨q13, 0, none⟩ = some (.int .i64 C) ∧ wc3.cell? ⟨q13, 1, none⟩ = some (.int .i64 0)) ∧ (wc3.cell? ⟨xb, xo + t * 4, none⟩ = some (.int .i64 A) ∧ wc3.cell? ⟨xb, xo + t * 4 + 1, none⟩ = some (.int .i64 (t : Int))) ∧ wc3.cell? ⟨xb, xo + t * 4 + 2, none⟩ = some (.int .i64 m.1) ∧ wc3.cell? ⟨xb, xo + t * 4 + 3, none⟩ = some (.int .i64 m.2)) := KEEP.out wc3 bc3
                  replace X_r : Hid (BX 34 wc3 (wr.heap.size) #[.int .i64 0, .int .i64 0]) := X_r.out.below hb X_r.out.lt
                  replace X_a : Hid (BX 46 wc3 (wa1.heap.size) #[.int .i64 0, .int .i64 0]) := X_a.out.below hb X_a.out.lt
                  clear ho hb
                  refine ⟨HS3.out, ?_⟩
                  simp only [Act.put, List.setIfInBounds_toArray, List.set_cons_zero, List.set_cons_succ]
                  refine takeH (i := 6) (v := .tuple #[.agg #[.int .i64 ee, .int .i64 kk], .slice ya hl.length yc, .agg #[.int .i64 ee, .int .i64 kk], .int .i64 ff]) (d := 105) rfl rfl (by kernel_rfl) (by kernel_rfl) (by kernel_rfl) (fun _ _ _ h => h) (by rfl) (fun V hV => by obtain ⟨⟨v1, v2⟩, ⟨v3, v4⟩, v5, v6⟩ := hV; go_simp) HS3.out ?_
                  simp only [Act.put, List.setIfInBounds_toArray, List.set_cons_zero, List.set_cons_succ]
                  refine takeH (i := 7) (v := .agg #[.int .i64 ee, .int .i64 kk]) (d := 112) rfl rfl (by kernel_rfl) (by kernel_rfl) (by kernel_rfl) (fun _ _ _ h => h) (by rfl) (fun V hV => by obtain ⟨⟨v1, v2⟩, ⟨v3, v4⟩, v5, v6⟩ := hV; go_simp) HS3.out ?_
                  simp only [Act.put, List.setIfInBounds_toArray, List.set_cons_zero, List.set_cons_succ]
                  refine takeH (i := 8) (v := .slice ya hl.length yc) (d := 113) rfl rfl (by kernel_rfl) (by kernel_rfl) (by kernel_rfl) (fun _ _ _ h => h) (by rfl) (fun V hV => by obtain ⟨⟨v1, v2⟩, ⟨v3, v4⟩, v5, v6⟩ := hV; go_simp) HS3.out ?_
                  simp only [Act.put, List.setIfInBounds_toArray, List.set_cons_zero, List.set_cons_succ]
                  refine takeH (i := 9) (v := .agg #[.int .i64 ee, .int .i64 kk]) (d := 114) rfl rfl (by kernel_rfl) (by kernel_rfl) (by kernel_rfl) (fun _ _ _ h => h) (by rfl) (fun V hV => by obtain ⟨⟨v1, v2⟩, ⟨v3, v4⟩, v5, v6⟩ := hV; go_simp) HS3.out ?_
                  simp only [Act.put, List.setIfInBounds_toArray, List.set_cons_zero, List.set_cons_succ]
                  refine takeH (i := 10) (v := .int .i64 ff) (d := 115) rfl rfl (by kernel_rfl) (by kernel_rfl) (by kernel_rfl) (fun _ _ _ h => h) (by rfl) (fun V hV => by obtain ⟨⟨v1, v2⟩, ⟨v3, v4⟩, v5, v6⟩ := hV; go_simp) HS3.out ?_
                  simp only [Act.put, List.setIfInBounds_toArray, List.set_cons_zero, List.set_cons_succ]
                  obtain ⟨n0, n1, n2, n3⟩ := X_r.out.all2
                  have bd0 : Below wr.heap.size wr (put2 wc3 (wr.heap.size) (.int .i64 ee) (.int .i64 kk)) := below_put2 bc3 L_r.out _ _
                  have HT0 : Hid (((put2 wc3 (wr.heap.size) (.int .i64 ee) (.int .i64 kk)).cell? ⟨q13, 0, none⟩ = some (.int .i64 C) ∧ (put2 wc3 (wr.heap.size) (.int .i64 ee) (.int .i64 kk)).cell? ⟨q13, 1, none⟩ = some (.int .i64 0)) ∧ ((put2 wc3 (wr.heap.size) (.int .i64 ee) (.int .i64 kk)).cell? ⟨xb, xo + t * 4, none⟩ = some (.int .i64 A) ∧ (put2 wc3 (wr.heap.size) (.int .i64 ee) (.int .i64 kk)).cell? ⟨xb, xo + t * 4 + 1, none⟩ = some (.int .i64 (t : Int))) ∧ (put2 wc3 (wr.heap.size) (.int .i64 ee) (.int .i64 kk)).cell? ⟨xb, xo + t * 4 + 2, none⟩ = some (.int .i64 m.1) ∧ (put2 wc3 (wr.heap.size) (.int .i64 ee) (.int .i64 kk)).cell? ⟨xb, xo + t * 4 + 3, none⟩ = some (.int .i64 m.2)) := KEEP.out _ bd0
                  have Y_r : Hid (BX 34 (put2 wc3 (wr.heap.size) (.int .i64 ee) (.int .i64 kk)) (wr.heap.size) #[.int .i64 ee, .int .i64 kk]) := X_r.out.put2 _ _
                  replace X_a : Hid (BX 46 (put2 wc3 (wr.heap.size) (.int .i64 ee) (.int .i64 kk)) (wa1.heap.size) #[.int .i64 0, .int .i64 0]) := X_a.out.off2 NE_r_a.symm
                  replace OC : Hid ((put2 wc3 (wr.heap.size) (.int .i64 ee) (.int .i64 kk)).ownsRow wr.heap.size 41 2 (.slice ya hl.length yc) hl.length (hl.flatMap encM)) := X_r.out.own2 OC.out (by decide)
                  refine oneH (i := 13) rfl (by kernel_rfl) rfl (op_skip (w' := (put2 wc3 (wr.heap.size) (.int .i64 ee) (.int .i64 kk))) rfl (by unfold put2; go_simp) ⟨HT0.out, ?_⟩)
                  clear n0 n1 n2 n3 X_r
                  generalize put2 wc3 (wr.heap.size) (.int .i64 ee) (.int .i64 kk) = wp4_0 at *
                  refine takeH (i := 14) (v := .slice ya hl.length yc) (d := 23) rfl rfl (by kernel_rfl) (by kernel_rfl) (by kernel_rfl) (fun _ _ _ h => h) (by rfl) (fun V hV => by obtain ⟨⟨v1, v2⟩, ⟨v3, v4⟩, v5, v6⟩ := hV; go_simp) HT0.out ?_
                  simp only [Act.put, List.setIfInBounds_toArray, List.set_cons_zero, List.set_cons_succ]
                  obtain ⟨n0, n1, n2, n3⟩ := X_a.out.all2
                  have bd1 : Below wr.heap.size wr (put2 wp4_0 (wa1.heap.size) (.int .i64 ee) (.int .i64 kk)) := below_put2 bd0 L_a.out _ _
                  have HT1 : Hid (((put2 wp4_0 (wa1.heap.size) (.int .i64 ee) (.int .i64 kk)).cell? ⟨q13, 0, none⟩ = some (.int .i64 C) ∧ (put2 wp4_0 (wa1.heap.size) (.int .i64 ee) (.int .i64 kk)).cell? ⟨q13, 1, none⟩ = some (.int .i64 0)) ∧ ((put2 wp4_0 (wa1.heap.size) (.int .i64 ee) (.int .i64 kk)).cell? ⟨xb, xo + t * 4, none⟩ = some (.int .i64 A) ∧ (put2 wp4_0 (wa1.heap.size) (.int .i64 ee) (.int .i64 kk)).cell? ⟨xb, xo + t * 4 + 1, none⟩ = some (.int .i64 (t : Int))) ∧ (put2 wp4_0 (wa1.heap.size) (.int .i64 ee) (.int .i64 kk)).cell? ⟨xb, xo + t * 4 + 2, none⟩ = some (.int .i64 m.1) ∧ (put2 wp4_0 (wa1.heap.size) (.int .i64 ee) (.int .i64 kk)).cell? ⟨xb, xo + t * 4 + 3, none⟩ = some (.int .i64 m.2)) := KEEP.out _ bd1
                  replace Y_r : Hid (BX 34 (put2 wp4_0 (wa1.heap.size) (.int .i64 ee) (.int .i64 kk)) (wr.heap.size) #[.int .i64 ee, .int .i64 kk]) := Y_r.out.off2 NE_r_a
                  have Y_a : Hid (BX 46 (put2 wp4_0 (wa1.heap.size) (.int .i64 ee) (.int .i64 kk)) (wa1.heap.size) #[.int .i64 ee, .int .i64 kk]) := X_a.out.put2 _ _
                  replace OC : Hid ((put2 wp4_0 (wa1.heap.size) (.int .i64 ee) (.int .i64 kk)).ownsRow wr.heap.size 41 2 (.slice ya hl.length yc) hl.length (hl.flatMap encM)) := X_a.out.own2 OC.out (by decide)
                  refine oneH (i := 15) rfl (by kernel_rfl) rfl (op_skip (w' := (put2 wp4_0 (wa1.heap.size) (.int .i64 ee) (.int .i64 kk))) rfl (by unfold put2; go_simp) ⟨HT1.out, ?_⟩)
                  clear n0 n1 n2 n3 X_a
                  generalize put2 wp4_0 (wa1.heap.size) (.int .i64 ee) (.int .i64 kk) = wp4_1 at *
                  refine takeH (i := 16) (v := .int .i64 ff) (d := 25) rfl rfl (by kernel_rfl) (by kernel_rfl) (by kernel_rfl) (fun _ _ _ h => h) (by rfl) (fun V hV => by obtain ⟨⟨v1, v2⟩, ⟨v3, v4⟩, v5, v6⟩ := hV; go_simp) HT1.out ?_
                  simp only [Act.put, List.setIfInBounds_toArray, List.set_cons_zero, List.set_cons_succ]
                  refine wpAnyH_done (by kernel_rfl) ?_ _
                  have FB : Hid (Below wr.heap.size wr wp4_1) := bd1
                  exact HG.out ya yc (wr.heap.size) (wa1.heap.size) wp4_1 Y_r Y_a OC FB L_r L_a
              case way1a =>
                refine op_run (d := 24) (v' := .pointer (some ⟨wr.heap.size, 0, none⟩)) (w' := wr.drew.alloc (.cells #[.int .i64 0, .int .i64 0] 46)) rfl (by go_simp) ⟨KEEP.out _ (B0.alloc B0.size _), ?_⟩
                simp only [Act.put, List.setIfInBounds_toArray, List.set_cons_zero, List.set_cons_succ]
                have X_a : Hid (BX 46 (wr.drew.alloc (.cells #[.int .i64 0, .int .i64 0] 46)) (wr.heap.size) #[.int .i64 0, .int .i64 0]) := BX.new _ _ _
                have L_a : Hid (wr.heap.size ≤ wr.heap.size) := Nat.le_refl _
                have bc1 : Below wr.heap.size wr (wr.drew.alloc (.cells #[.int .i64 0, .int .i64 0] 46)) := B0.alloc B0.size _
                have HS1 : Hid (((wr.drew.alloc (.cells #[.int .i64 0, .int .i64 0] 46)).cell? ⟨q13, 0, none⟩ = some (.int .i64 C) ∧ (wr.drew.alloc (.cells #[.int .i64 0, .int .i64 0] 46)).cell? ⟨q13, 1, none⟩ = some (.int .i64 0)) ∧ ((wr.drew.alloc (.cells #[.int .i64 0, .int .i64 0] 46)).cell? ⟨xb, xo + t * 4, none⟩ = some (.int .i64 A) ∧ (wr.drew.alloc (.cells #[.int .i64 0, .int .i64 0] 46)).cell? ⟨xb, xo + t * 4 + 1, none⟩ = some (.int .i64 (t : Int))) ∧ (wr.drew.alloc (.cells #[.int .i64 0, .int .i64 0] 46)).cell? ⟨xb, xo + t * 4 + 2, none⟩ = some (.int .i64 m.1) ∧ (wr.drew.alloc (.cells #[.int .i64 0, .int .i64 0] 46)).cell? ⟨xb, xo + t * 4 + 3, none⟩ = some (.int .i64 m.2)) := KEEP.out _ bc1
                generalize wr.drew.alloc (.cells #[.int .i64 0, .int .i64 0] 46) = wa1 at *
                refine twoH (i := 5) (j := 11) rfl rfl (by kernel_rfl) rfl rfl ?way2call ?way2r
                case way2call =>
                  refine call_gets (d := 111) (f := 12) (xs := #[.tmp 106, .tmp 110]) (ats := #[34, 50]) rfl rfl ehear (vs := #[.agg #[.int .i64 C, .int .i64 0], .agg #[.int .i64 A, .int .i64 (t : Int), .int .i64 m.1, .int .i64 m.2]]) (by simp [Act.eval]) (CC.out _ bc1) ?_
                  rintro vr wc2 ⟨yv, rfl, ho, hb⟩
                  have bc2 : Below wr.heap.size wr wc2 := bc1.trans (hb.mono bc1.size)
                  have OC : Hid (wc2.ownsRow wr.heap.size 41 2 (yv) hl.length (hl.flatMap encM)) := own_lower ho bc1.size
                  obtain ⟨ya, yc, rfl⟩ := (MlR.ownd OC.out).shape
                  have HS2 : Hid ((wc2.cell? ⟨q13, 0, none⟩ = some (.int .i64 C) ∧ wc2.cell? ⟨q13, 1, none⟩ = some (.int .i64 0)) ∧ (wc2.cell? ⟨xb, xo + t * 4, none⟩ = some (.int .i64 A) ∧ wc2.cell? ⟨xb, xo + t * 4 + 1, none⟩ = some (.int .i64 (t : Int))) ∧ wc2.cell? ⟨xb, xo + t * 4 + 2, none⟩ = some (.int .i64 m.1) ∧ wc2.cell? ⟨xb, xo + t * 4 + 3, none⟩ = some (.int .i64 m.2)) := KEEP.out wc2 bc2
                  replace X_a : Hid (BX 46 wc2 (wr.heap.size) #[.int .i64 0, .int .i64 0]) := X_a.out.below hb X_a.out.lt
                  clear ho hb
                  refine ⟨HS2.out, ?_⟩
                  simp only [Act.put, List.setIfInBounds_toArray, List.set_cons_zero, List.set_cons_succ]
                  refine takeH (i := 6) (v := .tuple #[.agg #[.int .i64 ee, .int .i64 kk], .slice ya hl.length yc, .agg #[.int .i64 ee, .int .i64 kk], .int .i64 ff]) (d := 105) rfl rfl (by kernel_rfl) (by kernel_rfl) (by kernel_rfl) (fun _ _ _ h => h) (by rfl) (fun V hV => by obtain ⟨⟨v1, v2⟩, ⟨v3, v4⟩, v5, v6⟩ := hV; go_simp) HS2.out ?_
                  simp only [Act.put, List.setIfInBounds_toArray, List.set_cons_zero, List.set_cons_succ]
                  refine takeH (i := 7) (v := .agg #[.int .i64 ee, .int .i64 kk]) (d := 112) rfl rfl (by kernel_rfl) (by kernel_rfl) (by kernel_rfl) (fun _ _ _ h => h) (by rfl) (fun V hV => by obtain ⟨⟨v1, v2⟩, ⟨v3, v4⟩, v5, v6⟩ := hV; go_simp) HS2.out ?_
                  simp only [Act.put, List.setIfInBounds_toArray, List.set_cons_zero, List.set_cons_succ]
                  refine takeH (i := 8) (v := .slice ya hl.length yc) (d := 113) rfl rfl (by kernel_rfl) (by kernel_rfl) (by kernel_rfl) (fun _ _ _ h => h) (by rfl) (fun V hV => by obtain ⟨⟨v1, v2⟩, ⟨v3, v4⟩, v5, v6⟩ := hV; go_simp) HS2.out ?_
                  simp only [Act.put, List.setIfInBounds_toArray, List.set_cons_zero, List.set_cons_succ]
                  refine takeH (i := 9) (v := .agg #[.int .i64 ee, .int .i64 kk]) (d := 114) rfl rfl (by kernel_rfl) (by kernel_rfl) (by kernel_rfl) (fun _ _ _ h => h) (by rfl) (fun V hV => by obtain ⟨⟨v1, v2⟩, ⟨v3, v4⟩, v5, v6⟩ := hV; go_simp) HS2.out ?_
                  simp only [Act.put, List.setIfInBounds_toArray, List.set_cons_zero, List.set_cons_succ]
                  refine takeH (i := 10) (v := .int .i64 ff) (d := 115) rfl rfl (by kernel_rfl) (by kernel_rfl) (by kernel_rfl) (fun _ _ _ h => h) (by rfl) (fun V hV => by obtain ⟨⟨v1, v2⟩, ⟨v3, v4⟩, v5, v6⟩ := hV; go_simp) HS2.out ?_
                  simp only [Act.put, List.setIfInBounds_toArray, List.set_cons_zero, List.set_cons_succ]
                  refine oneH (i := 11) rfl (by kernel_rfl) rfl (op_run (d := 22) (v' := .pointer (some ⟨wc2.heap.size, 0, none⟩)) (w' := wc2.alloc (.cells #[.int .i64 0, .int .i64 0] 34)) rfl (by go_simp) ⟨KEEP.out _ (bc2.alloc bc2.size _), ?_⟩)
                  simp only [Act.put, List.setIfInBounds_toArray, List.set_cons_zero, List.set_cons_succ]
                  have NE_a_r : (wr.heap.size) ≠ wc2.heap.size := Nat.ne_of_lt X_a.out.lt
                  have X_r : Hid (BX 34 (wc2.alloc (.cells #[.int .i64 0, .int .i64 0] 34)) (wc2.heap.size) #[.int .i64 0, .int .i64 0]) := BX.new _ _ _
                  have L_r : Hid (wr.heap.size ≤ wc2.heap.size) := bc2.size
                  have bc3 : Below wr.heap.size wr (wc2.alloc (.cells #[.int .i64 0, .int .i64 0] 34)) := bc2.alloc bc2.size _
                  have HS3 : Hid (((wc2.alloc (.cells #[.int .i64 0, .int .i64 0] 34)).cell? ⟨q13, 0, none⟩ = some (.int .i64 C) ∧ (wc2.alloc (.cells #[.int .i64 0, .int .i64 0] 34)).cell? ⟨q13, 1, none⟩ = some (.int .i64 0)) ∧ ((wc2.alloc (.cells #[.int .i64 0, .int .i64 0] 34)).cell? ⟨xb, xo + t * 4, none⟩ = some (.int .i64 A) ∧ (wc2.alloc (.cells #[.int .i64 0, .int .i64 0] 34)).cell? ⟨xb, xo + t * 4 + 1, none⟩ = some (.int .i64 (t : Int))) ∧ (wc2.alloc (.cells #[.int .i64 0, .int .i64 0] 34)).cell? ⟨xb, xo + t * 4 + 2, none⟩ = some (.int .i64 m.1) ∧ (wc2.alloc (.cells #[.int .i64 0, .int .i64 0] 34)).cell? ⟨xb, xo + t * 4 + 3, none⟩ = some (.int .i64 m.2)) := KEEP.out _ bc3
                  replace X_a : Hid (BX 46 (wc2.alloc (.cells #[.int .i64 0, .int .i64 0] 34)) (wr.heap.size) #[.int .i64 0, .int .i64 0]) := X_a.out.below (below_alloc _ _) X_a.out.lt
                  replace OC : Hid ((wc2.alloc (.cells #[.int .i64 0, .int .i64 0] 34)).ownsRow wr.heap.size 41 2 (.slice ya hl.length yc) hl.length (hl.flatMap encM)) := OC.out.alloc _
                  generalize wc2.alloc (.cells #[.int .i64 0, .int .i64 0] 34) = wa3 at *
                  obtain ⟨n0, n1, n2, n3⟩ := X_r.out.all2
                  have bd0 : Below wr.heap.size wr (put2 wa3 (wc2.heap.size) (.int .i64 ee) (.int .i64 kk)) := below_put2 bc3 L_r.out _ _
                  have HT0 : Hid (((put2 wa3 (wc2.heap.size) (.int .i64 ee) (.int .i64 kk)).cell? ⟨q13, 0, none⟩ = some (.int .i64 C) ∧ (put2 wa3 (wc2.heap.size) (.int .i64 ee) (.int .i64 kk)).cell? ⟨q13, 1, none⟩ = some (.int .i64 0)) ∧ ((put2 wa3 (wc2.heap.size) (.int .i64 ee) (.int .i64 kk)).cell? ⟨xb, xo + t * 4, none⟩ = some (.int .i64 A) ∧ (put2 wa3 (wc2.heap.size) (.int .i64 ee) (.int .i64 kk)).cell? ⟨xb, xo + t * 4 + 1, none⟩ = some (.int .i64 (t : Int))) ∧ (put2 wa3 (wc2.heap.size) (.int .i64 ee) (.int .i64 kk)).cell? ⟨xb, xo + t * 4 + 2, none⟩ = some (.int .i64 m.1) ∧ (put2 wa3 (wc2.heap.size) (.int .i64 ee) (.int .i64 kk)).cell? ⟨xb, xo + t * 4 + 3, none⟩ = some (.int .i64 m.2)) := KEEP.out _ bd0
                  replace X_a : Hid (BX 46 (put2 wa3 (wc2.heap.size) (.int .i64 ee) (.int .i64 kk)) (wr.heap.size) #[.int .i64 0, .int .i64 0]) := X_a.out.off2 NE_a_r
                  have Y_r : Hid (BX 34 (put2 wa3 (wc2.heap.size) (.int .i64 ee) (.int .i64 kk)) (wc2.heap.size) #[.int .i64 ee, .int .i64 kk]) := X_r.out.put2 _ _
                  replace OC : Hid ((put2 wa3 (wc2.heap.size) (.int .i64 ee) (.int .i64 kk)).ownsRow wr.heap.size 41 2 (.slice ya hl.length yc) hl.length (hl.flatMap encM)) := X_r.out.own2 OC.out (by decide)
                  refine oneH (i := 13) rfl (by kernel_rfl) rfl (op_skip (w' := (put2 wa3 (wc2.heap.size) (.int .i64 ee) (.int .i64 kk))) rfl (by unfold put2; go_simp) ⟨HT0.out, ?_⟩)
                  clear n0 n1 n2 n3 X_r
                  generalize put2 wa3 (wc2.heap.size) (.int .i64 ee) (.int .i64 kk) = wp4_0 at *
                  refine takeH (i := 14) (v := .slice ya hl.length yc) (d := 23) rfl rfl (by kernel_rfl) (by kernel_rfl) (by kernel_rfl) (fun _ _ _ h => h) (by rfl) (fun V hV => by obtain ⟨⟨v1, v2⟩, ⟨v3, v4⟩, v5, v6⟩ := hV; go_simp) HT0.out ?_
                  simp only [Act.put, List.setIfInBounds_toArray, List.set_cons_zero, List.set_cons_succ]
                  obtain ⟨n0, n1, n2, n3⟩ := X_a.out.all2
                  have bd1 : Below wr.heap.size wr (put2 wp4_0 (wr.heap.size) (.int .i64 ee) (.int .i64 kk)) := below_put2 bd0 L_a.out _ _
                  have HT1 : Hid (((put2 wp4_0 (wr.heap.size) (.int .i64 ee) (.int .i64 kk)).cell? ⟨q13, 0, none⟩ = some (.int .i64 C) ∧ (put2 wp4_0 (wr.heap.size) (.int .i64 ee) (.int .i64 kk)).cell? ⟨q13, 1, none⟩ = some (.int .i64 0)) ∧ ((put2 wp4_0 (wr.heap.size) (.int .i64 ee) (.int .i64 kk)).cell? ⟨xb, xo + t * 4, none⟩ = some (.int .i64 A) ∧ (put2 wp4_0 (wr.heap.size) (.int .i64 ee) (.int .i64 kk)).cell? ⟨xb, xo + t * 4 + 1, none⟩ = some (.int .i64 (t : Int))) ∧ (put2 wp4_0 (wr.heap.size) (.int .i64 ee) (.int .i64 kk)).cell? ⟨xb, xo + t * 4 + 2, none⟩ = some (.int .i64 m.1) ∧ (put2 wp4_0 (wr.heap.size) (.int .i64 ee) (.int .i64 kk)).cell? ⟨xb, xo + t * 4 + 3, none⟩ = some (.int .i64 m.2)) := KEEP.out _ bd1
                  have Y_a : Hid (BX 46 (put2 wp4_0 (wr.heap.size) (.int .i64 ee) (.int .i64 kk)) (wr.heap.size) #[.int .i64 ee, .int .i64 kk]) := X_a.out.put2 _ _
                  replace Y_r : Hid (BX 34 (put2 wp4_0 (wr.heap.size) (.int .i64 ee) (.int .i64 kk)) (wc2.heap.size) #[.int .i64 ee, .int .i64 kk]) := Y_r.out.off2 NE_a_r.symm
                  replace OC : Hid ((put2 wp4_0 (wr.heap.size) (.int .i64 ee) (.int .i64 kk)).ownsRow wr.heap.size 41 2 (.slice ya hl.length yc) hl.length (hl.flatMap encM)) := X_a.out.own2 OC.out (by decide)
                  refine oneH (i := 15) rfl (by kernel_rfl) rfl (op_skip (w' := (put2 wp4_0 (wr.heap.size) (.int .i64 ee) (.int .i64 kk))) rfl (by unfold put2; go_simp) ⟨HT1.out, ?_⟩)
                  clear n0 n1 n2 n3 X_a
                  generalize put2 wp4_0 (wr.heap.size) (.int .i64 ee) (.int .i64 kk) = wp4_1 at *
                  refine takeH (i := 16) (v := .int .i64 ff) (d := 25) rfl rfl (by kernel_rfl) (by kernel_rfl) (by kernel_rfl) (fun _ _ _ h => h) (by rfl) (fun V hV => by obtain ⟨⟨v1, v2⟩, ⟨v3, v4⟩, v5, v6⟩ := hV; go_simp) HT1.out ?_
                  simp only [Act.put, List.setIfInBounds_toArray, List.set_cons_zero, List.set_cons_succ]
                  refine wpAnyH_done (by kernel_rfl) ?_ _
                  have FB : Hid (Below wr.heap.size wr wp4_1) := bd1
                  exact HG.out ya yc (wc2.heap.size) (wr.heap.size) wp4_1 Y_r Y_a OC FB L_r L_a
                case way2r =>
                  refine op_run (d := 22) (v' := .pointer (some ⟨wa1.heap.size, 0, none⟩)) (w' := wa1.alloc (.cells #[.int .i64 0, .int .i64 0] 34)) rfl (by go_simp) ⟨KEEP.out _ (bc1.alloc bc1.size _), ?_⟩
                  simp only [Act.put, List.setIfInBounds_toArray, List.set_cons_zero, List.set_cons_succ]
                  have NE_a_r : (wr.heap.size) ≠ wa1.heap.size := Nat.ne_of_lt X_a.out.lt
                  have X_r : Hid (BX 34 (wa1.alloc (.cells #[.int .i64 0, .int .i64 0] 34)) (wa1.heap.size) #[.int .i64 0, .int .i64 0]) := BX.new _ _ _
                  have L_r : Hid (wr.heap.size ≤ wa1.heap.size) := bc1.size
                  have bc2 : Below wr.heap.size wr (wa1.alloc (.cells #[.int .i64 0, .int .i64 0] 34)) := bc1.alloc bc1.size _
                  have HS2 : Hid (((wa1.alloc (.cells #[.int .i64 0, .int .i64 0] 34)).cell? ⟨q13, 0, none⟩ = some (.int .i64 C) ∧ (wa1.alloc (.cells #[.int .i64 0, .int .i64 0] 34)).cell? ⟨q13, 1, none⟩ = some (.int .i64 0)) ∧ ((wa1.alloc (.cells #[.int .i64 0, .int .i64 0] 34)).cell? ⟨xb, xo + t * 4, none⟩ = some (.int .i64 A) ∧ (wa1.alloc (.cells #[.int .i64 0, .int .i64 0] 34)).cell? ⟨xb, xo + t * 4 + 1, none⟩ = some (.int .i64 (t : Int))) ∧ (wa1.alloc (.cells #[.int .i64 0, .int .i64 0] 34)).cell? ⟨xb, xo + t * 4 + 2, none⟩ = some (.int .i64 m.1) ∧ (wa1.alloc (.cells #[.int .i64 0, .int .i64 0] 34)).cell? ⟨xb, xo + t * 4 + 3, none⟩ = some (.int .i64 m.2)) := KEEP.out _ bc2
                  replace X_a : Hid (BX 46 (wa1.alloc (.cells #[.int .i64 0, .int .i64 0] 34)) (wr.heap.size) #[.int .i64 0, .int .i64 0]) := X_a.out.below (below_alloc _ _) X_a.out.lt
                  generalize wa1.alloc (.cells #[.int .i64 0, .int .i64 0] 34) = wa2 at *
                  refine oneH (i := 5) rfl (by kernel_rfl) rfl (call_gets (d := 111) (f := 12) (xs := #[.tmp 106, .tmp 110]) (ats := #[34, 50]) rfl rfl ehear (vs := #[.agg #[.int .i64 C, .int .i64 0], .agg #[.int .i64 A, .int .i64 (t : Int), .int .i64 m.1, .int .i64 m.2]]) (by simp [Act.eval]) (CC.out _ bc2) ?_)
                  rintro vr wc3 ⟨yv, rfl, ho, hb⟩
                  have bc3 : Below wr.heap.size wr wc3 := bc2.trans (hb.mono bc2.size)
                  have OC : Hid (wc3.ownsRow wr.heap.size 41 2 (yv) hl.length (hl.flatMap encM)) := own_lower ho bc2.size
                  obtain ⟨ya, yc, rfl⟩ := (MlR.ownd OC.out).shape
                  have HS3 : Hid ((wc3.cell? ⟨q13, 0, none⟩ = some (.int .i64 C) ∧ wc3.cell? ⟨q13, 1, none⟩ = some (.int .i64 0)) ∧ (wc3.cell? ⟨xb, xo + t * 4, none⟩ = some (.int .i64 A) ∧ wc3.cell? ⟨xb, xo + t * 4 + 1, none⟩ = some (.int .i64 (t : Int))) ∧ wc3.cell? ⟨xb, xo + t * 4 + 2, none⟩ = some (.int .i64 m.1) ∧ wc3.cell? ⟨xb, xo + t * 4 + 3, none⟩ = some (.int .i64 m.2)) := KEEP.out wc3 bc3
                  replace X_a : Hid (BX 46 wc3 (wr.heap.size) #[.int .i64 0, .int .i64 0]) := X_a.out.below hb X_a.out.lt
                  replace X_r : Hid (BX 34 wc3 (wa1.heap.size) #[.int .i64 0, .int .i64 0]) := X_r.out.below hb X_r.out.lt
                  clear ho hb
                  refine ⟨HS3.out, ?_⟩
                  simp only [Act.put, List.setIfInBounds_toArray, List.set_cons_zero, List.set_cons_succ]
                  refine takeH (i := 6) (v := .tuple #[.agg #[.int .i64 ee, .int .i64 kk], .slice ya hl.length yc, .agg #[.int .i64 ee, .int .i64 kk], .int .i64 ff]) (d := 105) rfl rfl (by kernel_rfl) (by kernel_rfl) (by kernel_rfl) (fun _ _ _ h => h) (by rfl) (fun V hV => by obtain ⟨⟨v1, v2⟩, ⟨v3, v4⟩, v5, v6⟩ := hV; go_simp) HS3.out ?_
                  simp only [Act.put, List.setIfInBounds_toArray, List.set_cons_zero, List.set_cons_succ]
                  refine takeH (i := 7) (v := .agg #[.int .i64 ee, .int .i64 kk]) (d := 112) rfl rfl (by kernel_rfl) (by kernel_rfl) (by kernel_rfl) (fun _ _ _ h => h) (by rfl) (fun V hV => by obtain ⟨⟨v1, v2⟩, ⟨v3, v4⟩, v5, v6⟩ := hV; go_simp) HS3.out ?_
                  simp only [Act.put, List.setIfInBounds_toArray, List.set_cons_zero, List.set_cons_succ]
                  refine takeH (i := 8) (v := .slice ya hl.length yc) (d := 113) rfl rfl (by kernel_rfl) (by kernel_rfl) (by kernel_rfl) (fun _ _ _ h => h) (by rfl) (fun V hV => by obtain ⟨⟨v1, v2⟩, ⟨v3, v4⟩, v5, v6⟩ := hV; go_simp) HS3.out ?_
                  simp only [Act.put, List.setIfInBounds_toArray, List.set_cons_zero, List.set_cons_succ]
                  refine takeH (i := 9) (v := .agg #[.int .i64 ee, .int .i64 kk]) (d := 114) rfl rfl (by kernel_rfl) (by kernel_rfl) (by kernel_rfl) (fun _ _ _ h => h) (by rfl) (fun V hV => by obtain ⟨⟨v1, v2⟩, ⟨v3, v4⟩, v5, v6⟩ := hV; go_simp) HS3.out ?_
                  simp only [Act.put, List.setIfInBounds_toArray, List.set_cons_zero, List.set_cons_succ]
                  refine takeH (i := 10) (v := .int .i64 ff) (d := 115) rfl rfl (by kernel_rfl) (by kernel_rfl) (by kernel_rfl) (fun _ _ _ h => h) (by rfl) (fun V hV => by obtain ⟨⟨v1, v2⟩, ⟨v3, v4⟩, v5, v6⟩ := hV; go_simp) HS3.out ?_
                  simp only [Act.put, List.setIfInBounds_toArray, List.set_cons_zero, List.set_cons_succ]
                  obtain ⟨n0, n1, n2, n3⟩ := X_r.out.all2
                  have bd0 : Below wr.heap.size wr (put2 wc3 (wa1.heap.size) (.int .i64 ee) (.int .i64 kk)) := below_put2 bc3 L_r.out _ _
                  have HT0 : Hid (((put2 wc3 (wa1.heap.size) (.int .i64 ee) (.int .i64 kk)).cell? ⟨q13, 0, none⟩ = some (.int .i64 C) ∧ (put2 wc3 (wa1.heap.size) (.int .i64 ee) (.int .i64 kk)).cell? ⟨q13, 1, none⟩ = some (.int .i64 0)) ∧ ((put2 wc3 (wa1.heap.size) (.int .i64 ee) (.int .i64 kk)).cell? ⟨xb, xo + t * 4, none⟩ = some (.int .i64 A) ∧ (put2 wc3 (wa1.heap.size) (.int .i64 ee) (.int .i64 kk)).cell? ⟨xb, xo + t * 4 + 1, none⟩ = some (.int .i64 (t : Int))) ∧ (put2 wc3 (wa1.heap.size) (.int .i64 ee) (.int .i64 kk)).cell? ⟨xb, xo + t * 4 + 2, none⟩ = some (.int .i64 m.1) ∧ (put2 wc3 (wa1.heap.size) (.int .i64 ee) (.int .i64 kk)).cell? ⟨xb, xo + t * 4 + 3, none⟩ = some (.int .i64 m.2)) := KEEP.out _ bd0
                  replace X_a : Hid (BX 46 (put2 wc3 (wa1.heap.size) (.int .i64 ee) (.int .i64 kk)) (wr.heap.size) #[.int .i64 0, .int .i64 0]) := X_a.out.off2 NE_a_r
                  have Y_r : Hid (BX 34 (put2 wc3 (wa1.heap.size) (.int .i64 ee) (.int .i64 kk)) (wa1.heap.size) #[.int .i64 ee, .int .i64 kk]) := X_r.out.put2 _ _
                  replace OC : Hid ((put2 wc3 (wa1.heap.size) (.int .i64 ee) (.int .i64 kk)).ownsRow wr.heap.size 41 2 (.slice ya hl.length yc) hl.length (hl.flatMap encM)) := X_r.out.own2 OC.out (by decide)
                  refine oneH (i := 13) rfl (by kernel_rfl) rfl (op_skip (w' := (put2 wc3 (wa1.heap.size) (.int .i64 ee) (.int .i64 kk))) rfl (by unfold put2; go_simp) ⟨HT0.out, ?_⟩)
                  clear n0 n1 n2 n3 X_r
                  generalize put2 wc3 (wa1.heap.size) (.int .i64 ee) (.int .i64 kk) = wp4_0 at *
                  refine takeH (i := 14) (v := .slice ya hl.length yc) (d := 23) rfl rfl (by kernel_rfl) (by kernel_rfl) (by kernel_rfl) (fun _ _ _ h => h) (by rfl) (fun V hV => by obtain ⟨⟨v1, v2⟩, ⟨v3, v4⟩, v5, v6⟩ := hV; go_simp) HT0.out ?_
                  simp only [Act.put, List.setIfInBounds_toArray, List.set_cons_zero, List.set_cons_succ]
                  obtain ⟨n0, n1, n2, n3⟩ := X_a.out.all2
                  have bd1 : Below wr.heap.size wr (put2 wp4_0 (wr.heap.size) (.int .i64 ee) (.int .i64 kk)) := below_put2 bd0 L_a.out _ _
                  have HT1 : Hid (((put2 wp4_0 (wr.heap.size) (.int .i64 ee) (.int .i64 kk)).cell? ⟨q13, 0, none⟩ = some (.int .i64 C) ∧ (put2 wp4_0 (wr.heap.size) (.int .i64 ee) (.int .i64 kk)).cell? ⟨q13, 1, none⟩ = some (.int .i64 0)) ∧ ((put2 wp4_0 (wr.heap.size) (.int .i64 ee) (.int .i64 kk)).cell? ⟨xb, xo + t * 4, none⟩ = some (.int .i64 A) ∧ (put2 wp4_0 (wr.heap.size) (.int .i64 ee) (.int .i64 kk)).cell? ⟨xb, xo + t * 4 + 1, none⟩ = some (.int .i64 (t : Int))) ∧ (put2 wp4_0 (wr.heap.size) (.int .i64 ee) (.int .i64 kk)).cell? ⟨xb, xo + t * 4 + 2, none⟩ = some (.int .i64 m.1) ∧ (put2 wp4_0 (wr.heap.size) (.int .i64 ee) (.int .i64 kk)).cell? ⟨xb, xo + t * 4 + 3, none⟩ = some (.int .i64 m.2)) := KEEP.out _ bd1
                  have Y_a : Hid (BX 46 (put2 wp4_0 (wr.heap.size) (.int .i64 ee) (.int .i64 kk)) (wr.heap.size) #[.int .i64 ee, .int .i64 kk]) := X_a.out.put2 _ _
                  replace Y_r : Hid (BX 34 (put2 wp4_0 (wr.heap.size) (.int .i64 ee) (.int .i64 kk)) (wa1.heap.size) #[.int .i64 ee, .int .i64 kk]) := Y_r.out.off2 NE_a_r.symm
                  replace OC : Hid ((put2 wp4_0 (wr.heap.size) (.int .i64 ee) (.int .i64 kk)).ownsRow wr.heap.size 41 2 (.slice ya hl.length yc) hl.length (hl.flatMap encM)) := X_a.out.own2 OC.out (by decide)
                  refine oneH (i := 15) rfl (by kernel_rfl) rfl (op_skip (w' := (put2 wp4_0 (wr.heap.size) (.int .i64 ee) (.int .i64 kk))) rfl (by unfold put2; go_simp) ⟨HT1.out, ?_⟩)
                  clear n0 n1 n2 n3 X_a
                  generalize put2 wp4_0 (wr.heap.size) (.int .i64 ee) (.int .i64 kk) = wp4_1 at *
                  refine takeH (i := 16) (v := .int .i64 ff) (d := 25) rfl rfl (by kernel_rfl) (by kernel_rfl) (by kernel_rfl) (fun _ _ _ h => h) (by rfl) (fun V hV => by obtain ⟨⟨v1, v2⟩, ⟨v3, v4⟩, v5, v6⟩ := hV; go_simp) HT1.out ?_
                  simp only [Act.put, List.setIfInBounds_toArray, List.set_cons_zero, List.set_cons_succ]
                  refine wpAnyH_done (by kernel_rfl) ?_ _
                  have FB : Hid (Below wr.heap.size wr wp4_1) := bd1
                  exact HG.out ya yc (wa1.heap.size) (wr.heap.size) wp4_1 Y_r Y_a OC FB L_r L_a
            case g =>
              intro ya yc pr pk X FX FY FO FB NL NL2
              obtain ⟨⟨k1, k2⟩, ⟨k3, k4⟩, _, _⟩ := KEEP.out X FB.out
              have BX1 : Hid (Below w6.heap.size w6 X) := BW.out.trans (FB.out.mono hsw)
              obtain ⟨f0, f1, _⟩ := FY.out.all2
              clear KEEP CC FX FO FB NL NL2
              rcases HW.out with ⟨h1, h2, h3, h4⟩ | ⟨h1, h2, h3, h4⟩
              · subst h1 h2
                clear HW
                have g1 : (A == A) = true := by simp
                obtain ⟨tt, htt⟩ : ∃ tt, ((t : Int) == 0) = tt := ⟨_, rfl⟩
                rw [htt] at h4
                have g2 : decide ((1 : Int) < (hl.length : Int)) = false := by simp; omega
                have g3 : (tt != tt) = false := by simp
                generalize hl.length = ln at *
                clear h3
                go_upto_region 22 with fail
                go_quiet (fail)
                have B9 : Hid (Below w6.heap.size w6 (X.drewN nq)) := below_drewN BX1.out nq
                clear k1 k2 k3 k4 f0 f1
                generalize X.drewN nq = X9 at B9 ⊢
                go_wp2_with fail
                go_roundw
                case rel => exact ⟨t + 1, by omega, by go_num, B9.out⟩
                case measure => simp [intOf]; omega
              · subst h2 h4
                clear HW
                have HNE : Hid (¬ A = C) := h1
                have g1 : (A != C) = true := by simpa using h1
                have g2 : (A == C) = false := by simpa using h1
                have g3 : ((11 : Int) != 11) = false := by simp
                have g4 : ((0 : Int) != 0) = false := by simp
                rw [h3]
                clear h3
                go_upto_region 22 with fail
                go_quiet (fail)
                have B9 : Hid (Below w6.heap.size w6 (X.drewN nq)) := below_drewN BX1.out nq
                clear k1 k2 k3 k4 f0 f1
                generalize X.drewN nq = X9 at B9 ⊢
                obtain ⟨q0, q1, q2, _⟩ := (X96.out.below B9.out X96.out.lt).all3
                go_wp2_with fail
                refine (ackIs HA.out HNE.out (by omega) _ _ (RS6.out.below B9.out (Nat.le_refl _))).mono ?_
                rintro E w8 ⟨z1, z2, za, zn, zc, rfl, hb8⟩
                have B8 : Hid (Below w6.heap.size w6 w8) := B9.out.trans (hb8.mono B9.out.size)
                have B10 : Hid (Below w6.heap.size w6 (w8.alloc (.cells #[.int .i64 z1, .int .i64 z2, .slice za zn zc] 27))) := B8.out.alloc B8.out.size _
                clear hb8 q0 q1 q2
                go_wp2_with fail
                go_roundw
                case rel => exact ⟨t + 1, by omega, by go_num, B10.out⟩
                case measure => simp [intOf]; omega
        · have d5 : ¬ (t : Int) < (D.length : Int) := by omega
          go_wp2_with fail
          go_ret
          exact ⟨rfl, BA.out⟩

set_option maxHeartbeats 400000 in
set_option maxRecDepth 100000 in
theorem lifted (os : Os) (started : os.Started) (H : Type) (enc : TypeId × Value → H) :
    ReturnsInHanded {} Try.checked os 4 .any (Rows.linkEpochSpec.pre6 enc Try.prog Try.f4 Rows.linkEpochRow.domain false) (Rows.linkEpochSpec.post enc Try.prog Try.f4 false true false false) := by
  refine returnsInHanded_of_change_sized (C := Try.checked) own started (by kernel_rfl) Try.func4
    (ChangeSpec.witness6 (enc := enc) (C := Try.checked) false ⟨#[], #[.slice none 0 0, .int .i64 0, .int .i64 0], []⟩ 8 (by kernel_rfl) (by kernel_rfl) (by kernel_rfl) (by kernel_rfl)) ?_
  intro W base args ds gs before hval0 hW _ hsz0 _
  have hval : ∀ (j : Nat) t v, Try.f4.params[j]? = some t → args[j]? = some v → Value.okWide Try.prog W .any base t v := hval0
  have hW' := hW
  obtain ⟨p, q, hA0, hV, rfl, hfz, hnd⟩ := hW
  have hA : DataW.TrodAll enc Try.prog W 0 (fun _ => true) true Try.f4.params.toList args.toList ds p := hA0
  have hsz : (DataW.weightsEach Try.prog (Try.f4.params.toList ++ Rows.linkEpochSpec.plain.varTypes Try.prog) (ds ++ gs)).all (fun x => decide (x ≤ reachBytes)) = true := hsz0
  rw [Try.params4] at hA hval hsz
  obtain ⟨v0, vs0, d0, ds0, p0, q0, hargs, rfl, rfl, h0, r0⟩ := trodAll_cons hA
  obtain ⟨v1, vs1, d1, ds1, p1, q1, rfl, rfl, rfl, h1, r1⟩ := trodAll_cons r0
  obtain ⟨v2, vs2, d2, ds2, p2, q2, rfl, rfl, rfl, h2, r2⟩ := trodAll_cons r1
  obtain ⟨rfl, rfl, rfl⟩ := trodAll_nil r2
  obtain rfl : args = #[v0, v1, v2] := by cases args; simp_all
  obtain ⟨rfl, rfl⟩ := trodVars_none hV
  have k0 := h0
  have lt0 : ∀ x ∈ p0, x.block < W.heap.size := by obtain ⟨m, hm⟩ := k0; exact DataW.trod_lt m _ _ _ hm
  have hw0 : ∀ m ∈ d0.weights Try.prog 22, m ≤ reachBytes := fun m hm => by simpa using List.all_eq_true.1 hsz _ (DataW.weights_mem_each (j := 0) (t := 22) rfl rfl m hm)
  have k1 := h1
  have lt1 : ∀ x ∈ p1, x.block < W.heap.size := by obtain ⟨m, hm⟩ := k1; exact DataW.trod_lt m _ _ _ hm
  have k2 := h2
  have lt2 : ∀ x ∈ p2, x.block < W.heap.size := by obtain ⟨m, hm⟩ := k2; exact DataW.trod_lt m _ _ _ hm
  obtain ⟨es0, hR0, hB0, hL0⟩ := open_posts (okWide_slice Try.underlying22 (hval 0 22 v0 rfl rfl)) h0 hw0
  obtain ⟨n1, rfl, _, _, wf1⟩ := open_int Try.underlying3 (hval 1 3 v1 rfl rfl) h1
  have hI1 := bounds_i64 wf1
  obtain ⟨n2, rfl, _, _, wf2⟩ := open_int Try.underlying3 (hval 2 3 v2 rfl rfl) h2
  have hI2 := bounds_i64 wf2
  clear hA0 hval0
  refine (walk v0 es0 n1 n2 W hR0 hB0 hL0 hI1 hI2).mono fun e W' ⟨he, bel⟩ => ?_
  subst he
  exact ⟨_, rfl, _, _, _, [], _, [], hW', trodAll_mk1 (shut_bool Try.underlying4 _), (trodAll_cons_mk (Below.trod laidOut (by kernel_rfl) (of_decide_eq_true (by kernel_rfl)) k0 bel lt0) (trodAll_cons_mk (Below.trod laidOut (by kernel_rfl) (of_decide_eq_true (by kernel_rfl)) k1 bel lt1) (trodAll_cons_mk (Below.trod laidOut (by kernel_rfl) (of_decide_eq_true (by kernel_rfl)) k2 bel lt2) trodAll_mk0))), rfl, bel.frame _, fun h => by cases h⟩

theorem over : Rows.linkEpochRow.holds Try.pinned (OpenSpec.ofChange Rows.linkEpochSpec) :=
  OpenClaim.holds_of_wide 4 Try.f4 rfl rfl rfl rfl rfl rfl rfl ⟨rfl, rfl, rfl, rfl, rfl⟩ rfl rfl rfl rfl rfl (by kernel_rfl) Try.func4 (by kernel_rfl)
    (of_decide_eq_true (by kernel_rfl)) (by unfold Func.isWrapper; first | (rw [if_pos (by decide +kernel)]; kernel_rfl) | (rw [if_neg (by decide +kernel)]; exact ⟨rfl, rfl⟩))
    (fun os started H enc _ => lifted os started H enc)

/-- The statement. -/
theorem proved : Rows.LinkEpochSaid := over
#print axioms proved
end Go.Proofs.Ytjmjpmnjibdhhab.linkEpoch
