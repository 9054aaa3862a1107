/-
  Contract of the document's own LinkAcked.
-/
import Derived.Test.YtjmjpmnjibdhhaaLinkAcked
import Derived.Test.YtjmjpmnjibdhhaaRefDue
namespace Go.Proofs.Ytjmjpmnjibdhhaa
set_option maxRecDepth 100000
open Go.ChangeShapes Go.WideShapes Go.ChangeAt Go.RowKit

/-- What LinkDue answers, for the walk. -/
theorem refDue_is {e b : Int} {f : Int} (v : Value) (l : List Ml) (w : World) (h : MlR w v l) (hl : l.length * 16 ≤ 140737488351232) (hf : dueE e b l.length = f) :
    Calls Try.prog 16 #[.agg #[.int .i64 e, .int .i64 b, v]] w fun E w' => ∃ a c, E = .returned (.tuple #[.slice a (okL f (dueF e b l)).length c, .int .i64 f]) ∧ Below w.heap.size w w' := by
  refine (refDue_any e b v l w h hl).mono ?_
  rintro E w' ⟨u, rfl, ho, hb⟩
  rw [hf] at ho ⊢
  obtain ⟨a, c, rfl⟩ := (PkR.ownd ho).shape
  exact ⟨a, c, rfl, hb⟩

set_option maxHeartbeats 4000000 in
set_option maxRecDepth 100000 in
theorem refAcked_any (e b x k : Int) (v : Value) (l : List Ml) (w : World) (h : MlR w v l) (hl : l.length * 16 ≤ 140737488351232) (hk : i64B k) :
    Calls Try.prog 19 #[.agg #[.int .i64 e, .int .i64 b, v], .agg #[.int .i64 x, .int .i64 k]] w (SndP w (ackE e b l.length x k) e (ackB b k) (ackL b k l)) := by
  have HR : Hid (MlR w v l) := h
  obtain ⟨a, cap, rfl⟩ := h.shape
  obtain ⟨hk0, hk1⟩ := hk
  clear h
  cases hm : mayS e b l.length
  · have hE : ackE e b l.length x k = 9 := by unfold ackE; rw [hm]; rfl
    have C1 : Hid (∀ X, MlR X (.slice a l.length cap) l → Calls Try.prog 16 #[.agg #[.int .i64 e, .int .i64 b, .slice a l.length cap]] X fun E w' => ∃ a c, E = .returned (.tuple #[.slice a 0 c, .int .i64 9]) ∧ Below X.heap.size X w') := fun X hX => refDue_is _ l X hX hl (f := 9) (by unfold dueE; rw [hm]; rfl)
    have HE : Hid (∀ w', Below w.heap.size w w' → SndP w (ackE e b l.length x k) e (ackB b k) (ackL b k l) (.returned (.tuple #[.agg #[.int .i64 0, .int .i64 0, .slice none 0 0], .int .i64 9])) w') := fun w' hw => by rw [hE]; exact SndP.no (by decide) hw
    generalize SndP w (ackE e b l.length x k) e (ackB b k) (ackL b k l) = P at *
    clear hE hm
    go_enter Try.func19, Try.ntmps19
    go_upto_region 1 with fail
    obtain ⟨Q0, M0, T0, B0, s1, s2⟩ := boxes3 w #[.int .i64 e, .int .i64 b, .slice a l.length cap] #[.int .i64 x, .int .i64 k] #[.int .i64 0, .int .i64 0, .slice none 0 0] 24 44 24 _ rfl
    generalize ((w.alloc (.cells #[.int .i64 e, .int .i64 b, .slice a l.length cap] 24)).alloc (.cells #[.int .i64 x, .int .i64 k] 44)).alloc (.cells #[.int .i64 0, .int .i64 0, .slice none 0 0] 24) = W0 at *
    have T1 : Hid (BX 24 W0 (w.heap.size + 2) #[.int .i64 0, .int .i64 0, .slice none 0 0]) := T0
    have BH : Hid (Below w.heap.size w W0) := B0
    obtain ⟨q0, q1, q2, _⟩ := Q0.all3
    obtain ⟨m0, m1, _⟩ := M0.all2
    clear Q0 M0 T0 B0
    go_wp2_with fail
    refine (C1.out _ (HR.out.below BH.out (Nat.le_refl _))).mono ?_
    rintro E w1 ⟨da, dc, rfl, hb1⟩
    have T2 : Hid (BX 24 w1 (w.heap.size + 2) #[.int .i64 0, .int .i64 0, .slice none 0 0]) := T1.out.below hb1 (by omega)
    have HX : Hid (P (.returned (.tuple #[.agg #[.int .i64 0, .int .i64 0, .slice none 0 0], .int .i64 9])) (put3 w1 (w.heap.size + 2) (.int .i64 0) (.int .i64 0) (.slice none 0 0))) := HE.out _ (below_put3 (BH.out.trans (hb1.mono (by omega))) (by omega) _ _ _)
    have RX : Hid (BX 24 (put3 w1 (w.heap.size + 2) (.int .i64 0) (.int .i64 0) (.slice none 0 0)) (w.heap.size + 2) #[.int .i64 0, .int .i64 0, .slice none 0 0]) := T2.out.put3 _ _ _
    obtain ⟨t0, t1, t2, t3, t4, t5⟩ := T2.out.all3
    clear hb1
    go_wp2_with fail
    obtain ⟨r0, r1, r2, _⟩ := RX.out.all3
    unfold put3 at r0 r1 r2
    exact bodyPost_ret (v := .tuple #[.agg #[.int .i64 0, .int .i64 0, .slice none 0 0], .int .i64 9]) (by simp [results, Try.results19, go_sem, r0, r1, r2]) rfl HX.out
  · obtain ⟨he, hb, h5⟩ := mayS_iff.1 hm
    have C1 : Hid (∀ X, MlR X (.slice a l.length cap) l → Calls Try.prog 16 #[.agg #[.int .i64 e, .int .i64 b, .slice a l.length cap]] X fun E w' => ∃ a c, E = .returned (.tuple #[.slice a (min 4 l.length) c, .int .i64 0]) ∧ Below X.heap.size X w') := fun X hX => by
      have := refDue_is _ l X hX hl (e := e) (b := b) (f := 0) (by unfold dueE; rw [hm]; rfl)
      rwa [okL_yes, dueF_len] at this
    by_cases hx : x = e
    · subst hx
      have dx : (x != x) = false := by simp
      have hD : min 4 l.length ≤ 4 := by omega
      have hD2 : min 4 l.length ≤ l.length := by omega
      by_cases hr : 0 ≤ k ∧ k ≤ b + ((min 4 l.length : Nat) : Int)
      · obtain ⟨hr0, hr1⟩ := hr
        have hE : ackE x b l.length x k = 0 := by unfold ackE; rw [hm, if_pos rfl, if_pos rfl, if_pos ⟨hr0, hr1⟩]
        have CI := fun X => in_any k 0 (b + ((min 4 l.length : Nat) : Int)) X
        rw [in_yes ⟨hr0, hr1⟩] at CI
        have hkb : (k - b).toNat ≤ l.length := by omega
        have HE : Hid (∀ v w', w'.ownsRow w.heap.size 33 2 v (ackL b k l).length ((ackL b k l).flatMap encM) → Below w.heap.size w w' → SndP w (ackE x b l.length x k) x (ackB b k) (ackL b k l) (.returned (.tuple #[.agg #[.int .i64 x, .int .i64 (ackB b k), v], .int .i64 0])) w') := fun v w' h1 hw => by rw [hE]; exact SndP.yes h1 hw
        generalize SndP w (ackE x b l.length x k) x (ackB b k) (ackL b k l) = P at *
        clear hE hm
        generalize min 4 l.length = D at *
        have C3 : Hid (∀ X, MlR X (.slice a l.length cap) l → Calls Try.prog 32 #[.slice a l.length cap, .int .i64 (((k - b).toNat : Nat) : Int)] X fun E w' => ∃ v', E = .returned v' ∧ (w'.ownsRow X.heap.size 33 2 v' (ackL b k l).length ((ackL b k l).flatMap encM) ∧ Below X.heap.size X w')) := fun X hX => mailsFrom_any (.slice a l.length cap) l (k - b).toNat X hX hkb hl
        by_cases hle : k ≤ b
        · have eb : ackB b k = b := by unfold ackB; rw [if_neg (by omega)]
          have ek : (((k - b).toNat : Nat) : Int) = 0 := by omega
          have dd : decide (k ≤ b) = true := by simpa using hle
          rw [eb] at HE
          rw [ek] at C3
          generalize ackL b k l = L at *
          clear eb ek
          go_enter Try.func19, Try.ntmps19
          go_upto_region 1 with fail
          obtain ⟨Q0, M0, T0, B0, s1, s2⟩ := boxes3 w #[.int .i64 x, .int .i64 b, .slice a l.length cap] #[.int .i64 x, .int .i64 k] #[.int .i64 0, .int .i64 0, .slice none 0 0] 24 44 24 _ rfl
          generalize ((w.alloc (.cells #[.int .i64 x, .int .i64 b, .slice a l.length cap] 24)).alloc (.cells #[.int .i64 x, .int .i64 k] 44)).alloc (.cells #[.int .i64 0, .int .i64 0, .slice none 0 0] 24) = W0 at *
          have T1 : Hid (BX 24 W0 (w.heap.size + 2) #[.int .i64 0, .int .i64 0, .slice none 0 0]) := T0
          have BH : Hid (Below w.heap.size w W0) := B0
          obtain ⟨q0, q1, q2, _⟩ := Q0.all3
          obtain ⟨m0, m1, _⟩ := M0.all2
          have Q1 : Hid (BX 24 W0 w.heap.size #[.int .i64 x, .int .i64 b, .slice a l.length cap]) := Q0
          have M1 : Hid (BX 44 W0 (w.heap.size + 1) #[.int .i64 x, .int .i64 k]) := M0
          clear Q0 M0 T0 B0
          go_wp2_with fail
          refine (C1.out _ (HR.out.below BH.out (Nat.le_refl _))).mono ?_
          rintro E w1 ⟨da, dc, rfl, hb1⟩
          have hs1 := hb1.size
          have B1 : Hid (Below W0.heap.size W0 w1) := hb1
          obtain ⟨q0, q1, q2, _⟩ := (Q1.out.below hb1 (by omega)).all3
          obtain ⟨m0, m1, _⟩ := (M1.out.below hb1 (by omega)).all2
          clear hb1
          go_wp2_with fail
          refine (CI _).mono ?_
          rintro E w9 ⟨rfl, hw⟩
          replace hw := hw.symm
          subst hw
          have KEEP : Hid (∀ V, Below W0.heap.size W0 V → (V.cell? ⟨w.heap.size, 0, none⟩ = some (.int .i64 x) ∧ V.cell? ⟨w.heap.size, 1, none⟩ = some (.int .i64 b) ∧ V.cell? ⟨w.heap.size, 2, none⟩ = some (.slice a l.length cap)) ∧ V.cell? ⟨w.heap.size + 1, 1, none⟩ = some (.int .i64 k)) := fun V hV => by
            obtain ⟨h1, h2, h3, _⟩ := (Q1.out.below hV (by omega)).all3
            obtain ⟨_, h4, _⟩ := (M1.out.below hV (by omega)).all2
            exact ⟨⟨h1, h2, h3⟩, h4⟩
          go_upto_region 9 with fail
          rw [show w.heap.size + 1 + 1 = w.heap.size + 2 from rfl]
          clear q0 q1 q2 m0 m1
          have HSD : Hid ((_ ∧ _ ∧ _) ∧ _) := KEEP.out w1.drew B1.out.drew
          have emf : ∀ args w, (callFunc 32 args).run Try.prog w = .ok (.enter 32 args) w := enters_of Try.func32 (by kernel_rfl) rfl
          refine wp_region_held (S := fun V => (V.cell? ⟨w.heap.size, 0, none⟩ = some (.int .i64 x) ∧ V.cell? ⟨w.heap.size, 1, none⟩ = some (.int .i64 b) ∧ V.cell? ⟨w.heap.size, 2, none⟩ = some (.slice a l.length cap)) ∧ V.cell? ⟨w.heap.size + 1, 1, none⟩ = some (.int .i64 k)) (by kernel_rfl) ?_
          simp only [List.size_toArray, List.length_cons, List.length_nil, Nat.reduceAdd]
          refine takeH (i := 0) (v := .pointer (some ⟨w.heap.size, 0, none⟩)) (d := 38) rfl rfl (by kernel_rfl) (by kernel_rfl) (by kernel_rfl) (fun _ _ _ h => h) (by rfl) (fun V hV => by obtain ⟨⟨v1, v2, v3⟩, v4⟩ := hV; go_simp) HSD.out ?_
          simp only [Act.put, List.setIfInBounds_toArray, List.set_cons_zero, List.set_cons_succ]
          refine takeH (i := 1) (v := .int .i64 x) (d := 39) rfl rfl (by kernel_rfl) (by kernel_rfl) (by kernel_rfl) (fun _ _ _ h => h) (by rfl) (fun V hV => by obtain ⟨⟨v1, v2, v3⟩, v4⟩ := hV; go_simp) HSD.out ?_
          simp only [Act.put, List.setIfInBounds_toArray, List.set_cons_zero, List.set_cons_succ]
          refine takeH (i := 2) (v := .pointer (some ⟨w.heap.size, 1, none⟩)) (d := 40) rfl rfl (by kernel_rfl) (by kernel_rfl) (by kernel_rfl) (fun _ _ _ h => h) (by rfl) (fun V hV => by obtain ⟨⟨v1, v2, v3⟩, v4⟩ := hV; go_simp) HSD.out ?_
          simp only [Act.put, List.setIfInBounds_toArray, List.set_cons_zero, List.set_cons_succ]
          refine takeH (i := 3) (v := .int .i64 b) (d := 41) rfl rfl (by kernel_rfl) (by kernel_rfl) (by kernel_rfl) (fun _ _ _ h => h) (by rfl) (fun V hV => by obtain ⟨⟨v1, v2, v3⟩, v4⟩ := hV; go_simp) HSD.out ?_
          simp only [Act.put, List.setIfInBounds_toArray, List.set_cons_zero, List.set_cons_succ]
          refine takeH (i := 4) (v := .pointer (some ⟨w.heap.size, 2, none⟩)) (d := 42) rfl rfl (by kernel_rfl) (by kernel_rfl) (by kernel_rfl) (fun _ _ _ h => h) (by rfl) (fun V hV => by obtain ⟨⟨v1, v2, v3⟩, v4⟩ := hV; go_simp) HSD.out ?_
          simp only [Act.put, List.setIfInBounds_toArray, List.set_cons_zero, List.set_cons_succ]
          refine takeH (i := 5) (v := .slice a l.length cap) (d := 43) rfl rfl (by kernel_rfl) (by kernel_rfl) (by kernel_rfl) (fun _ _ _ h => h) (by rfl) (fun V hV => by obtain ⟨⟨v1, v2, v3⟩, v4⟩ := hV; go_simp) HSD.out ?_
          simp only [Act.put, List.setIfInBounds_toArray, List.set_cons_zero, List.set_cons_succ]
          refine oneH (i := 6) rfl (by kernel_rfl) rfl (call_gets (d := 44) (f := 32) (xs := #[.tmp 43, .const (.int .i64 0)]) (ats := #[22, 3]) rfl rfl emf (vs := #[.slice a l.length cap, .int .i64 0]) (by simp [Act.eval]) (C3.out _ (HR.out.below ((BH.out.trans (B1.out.mono (by omega))).drew) (Nat.le_refl _))) ?_)
          rintro v2 w2 ⟨ho2, hb2⟩
          have B2 : Hid (Below W0.heap.size W0 w2) := B1.out.trans ((below_undrew hb2).mono hs1)
          have O2 : Hid (w2.ownsRow W0.heap.size 33 2 v2 L.length (L.flatMap encM)) := own_lower ho2 hs1
          obtain ⟨ya, yc, rfl⟩ := (MlR.ownd O2.out).shape
          have HS2 : Hid ((_ ∧ _ ∧ _) ∧ _) := KEEP.out w2 B2.out
          have Z5 : Hid (BX 24 w2 (w.heap.size + 2) #[.int .i64 0, .int .i64 0, .slice none 0 0]) := T1.out.below B2.out (by omega)
          clear ho2 hb2
          refine ⟨HS2.out, ?_⟩
          simp only [Act.put, List.setIfInBounds_toArray, List.set_cons_zero, List.set_cons_succ]
          refine takeH (i := 7) (v := .agg #[.int .i64 x, .int .i64 b, .slice ya L.length yc]) (d := 45) rfl rfl (by kernel_rfl) (by kernel_rfl) (by kernel_rfl) (fun _ _ _ h => h) (by rfl) (fun V hV => by obtain ⟨⟨v1, v2, v3⟩, v4⟩ := hV; go_simp) HS2.out ?_
          simp only [Act.put, List.setIfInBounds_toArray, List.set_cons_zero, List.set_cons_succ]
          obtain ⟨z0, z1, z2, z3, z4, z5⟩ := Z5.out.all3
          have B5 : Hid (Below w.heap.size w (put3 w2 (w.heap.size + 2) (.int .i64 x) (.int .i64 b) (.slice ya L.length yc))) := below_put3 (BH.out.trans (B2.out.mono (by omega))) (by omega) _ _ _
          have HSH : Hid (((put3 w2 (w.heap.size + 2) (.int .i64 x) (.int .i64 b) (.slice ya L.length yc)).cell? ⟨w.heap.size, 0, none⟩ = some (.int .i64 x) ∧ (put3 w2 (w.heap.size + 2) (.int .i64 x) (.int .i64 b) (.slice ya L.length yc)).cell? ⟨w.heap.size, 1, none⟩ = some (.int .i64 b) ∧ (put3 w2 (w.heap.size + 2) (.int .i64 x) (.int .i64 b) (.slice ya L.length yc)).cell? ⟨w.heap.size, 2, none⟩ = some (.slice a l.length cap)) ∧ (put3 w2 (w.heap.size + 2) (.int .i64 x) (.int .i64 b) (.slice ya L.length yc)).cell? ⟨w.heap.size + 1, 1, none⟩ = some (.int .i64 k)) := by
            have k1 := ((Q1.out.below B2.out (by omega)).off3 (p := w.heap.size + 2) (x := .int .i64 x) (y := .int .i64 b) (z := .slice ya L.length yc) (by omega)).all3
            have k2 := ((M1.out.below B2.out (by omega)).off3 (p := w.heap.size + 2) (x := .int .i64 x) (y := .int .i64 b) (z := .slice ya L.length yc) (by omega)).all2
            exact ⟨⟨k1.1, k1.2.1, k1.2.2.1⟩, k2.2.1⟩
          have HX : Hid (P (.returned (.tuple #[.agg #[.int .i64 x, .int .i64 b, .slice ya L.length yc], .int .i64 0])) (put3 w2 (w.heap.size + 2) (.int .i64 x) (.int .i64 b) (.slice ya L.length yc))) := HE.out _ _ (own_lower (Z5.out.own3 O2.out (by decide)) (by omega)) B5.out
          have RX : Hid (BX 24 (put3 w2 (w.heap.size + 2) (.int .i64 x) (.int .i64 b) (.slice ya L.length yc)) (w.heap.size + 2) #[.int .i64 x, .int .i64 b, .slice ya L.length yc]) := Z5.out.put3 _ _ _
          refine oneH (i := 8) rfl (by kernel_rfl) rfl (op_skip (w' := (put3 w2 (w.heap.size + 2) (.int .i64 x) (.int .i64 b) (.slice ya L.length yc))) rfl (by unfold put3; go_simp) ⟨HSH.out, ?_⟩)
          refine takeH (i := 9) (v := .int .i64 0) (d := 5) rfl rfl (by kernel_rfl) (by kernel_rfl) (by kernel_rfl) (fun _ _ _ h => h) (by rfl) (fun V hV => by obtain ⟨⟨v1, v2, v3⟩, v4⟩ := hV; go_simp) HSH.out ?_
          simp only [Act.put, List.setIfInBounds_toArray, List.set_cons_zero, List.set_cons_succ]
          refine wpAnyH_done (by kernel_rfl) ?_ _
          clear HSD HS2 HSH KEEP z0 z1 z2 z3 z4 z5
          generalize put3 w2 (w.heap.size + 2) (.int .i64 x) (.int .i64 b) (.slice ya L.length yc) = V at *
          go_wp2_with fail
          obtain ⟨r0, r1, r2, _⟩ := RX.out.all3
          exact bodyPost_ret (v := .tuple #[.agg #[.int .i64 x, .int .i64 b, .slice ya L.length yc], .int .i64 0]) (by simp [results, Try.results19, go_sem, r0, r1, r2]) rfl HX.out
        · have eb : ackB b k = k := by unfold ackB; rw [if_pos (by omega)]
          have ek : (((k - b).toNat : Nat) : Int) = k - b := by omega
          have dd : decide (k ≤ b) = false := by simpa using hle
          have wkb : IntKind.i64.wrap (k - b) = k - b := wrap_id64 (by omega) (by omega)
          rw [eb] at HE
          rw [ek] at C3
          generalize ackL b k l = L at *
          clear eb ek
          go_enter Try.func19, Try.ntmps19
          go_upto_region 1 with fail
          obtain ⟨Q0, M0, T0, B0, s1, s2⟩ := boxes3 w #[.int .i64 x, .int .i64 b, .slice a l.length cap] #[.int .i64 x, .int .i64 k] #[.int .i64 0, .int .i64 0, .slice none 0 0] 24 44 24 _ rfl
          generalize ((w.alloc (.cells #[.int .i64 x, .int .i64 b, .slice a l.length cap] 24)).alloc (.cells #[.int .i64 x, .int .i64 k] 44)).alloc (.cells #[.int .i64 0, .int .i64 0, .slice none 0 0] 24) = W0 at *
          have T1 : Hid (BX 24 W0 (w.heap.size + 2) #[.int .i64 0, .int .i64 0, .slice none 0 0]) := T0
          have BH : Hid (Below w.heap.size w W0) := B0
          obtain ⟨q0, q1, q2, _⟩ := Q0.all3
          obtain ⟨m0, m1, _⟩ := M0.all2
          have Q1 : Hid (BX 24 W0 w.heap.size #[.int .i64 x, .int .i64 b, .slice a l.length cap]) := Q0
          have M1 : Hid (BX 44 W0 (w.heap.size + 1) #[.int .i64 x, .int .i64 k]) := M0
          clear Q0 M0 T0 B0
          go_wp2_with fail
          refine (C1.out _ (HR.out.below BH.out (Nat.le_refl _))).mono ?_
          rintro E w1 ⟨da, dc, rfl, hb1⟩
          have hs1 := hb1.size
          have B1 : Hid (Below W0.heap.size W0 w1) := hb1
          obtain ⟨q0, q1, q2, _⟩ := (Q1.out.below hb1 (by omega)).all3
          obtain ⟨m0, m1, _⟩ := (M1.out.below hb1 (by omega)).all2
          clear hb1
          go_wp2_with fail
          refine (CI _).mono ?_
          rintro E w9 ⟨rfl, hw⟩
          replace hw := hw.symm
          subst hw
          have KEEP : Hid (∀ V, Below W0.heap.size W0 V → (V.cell? ⟨w.heap.size, 0, none⟩ = some (.int .i64 x) ∧ V.cell? ⟨w.heap.size, 1, none⟩ = some (.int .i64 b) ∧ V.cell? ⟨w.heap.size, 2, none⟩ = some (.slice a l.length cap)) ∧ V.cell? ⟨w.heap.size + 1, 1, none⟩ = some (.int .i64 k)) := fun V hV => by
            obtain ⟨h1, h2, h3, _⟩ := (Q1.out.below hV (by omega)).all3
            obtain ⟨_, h4, _⟩ := (M1.out.below hV (by omega)).all2
            exact ⟨⟨h1, h2, h3⟩, h4⟩
          go_upto_region 10 with fail
          rw [show w.heap.size + 1 + 1 = w.heap.size + 2 from rfl]
          clear q0 q1 q2 m0 m1
          have HSD : Hid ((_ ∧ _ ∧ _) ∧ _) := KEEP.out w1.drew B1.out.drew
          have emf : ∀ args w, (callFunc 32 args).run Try.prog w = .ok (.enter 32 args) w := enters_of Try.func32 (by kernel_rfl) rfl
          refine wp_region_held (S := fun V => (V.cell? ⟨w.heap.size, 0, none⟩ = some (.int .i64 x) ∧ V.cell? ⟨w.heap.size, 1, none⟩ = some (.int .i64 b) ∧ V.cell? ⟨w.heap.size, 2, none⟩ = some (.slice a l.length cap)) ∧ V.cell? ⟨w.heap.size + 1, 1, none⟩ = some (.int .i64 k)) (by kernel_rfl) ?_
          simp only [List.size_toArray, List.length_cons, List.length_nil, Nat.reduceAdd]
          refine takeH (i := 0) (v := .pointer (some ⟨w.heap.size, 0, none⟩)) (d := 46) rfl rfl (by kernel_rfl) (by kernel_rfl) (by kernel_rfl) (fun _ _ _ h => h) (by rfl) (fun V hV => by obtain ⟨⟨v1, v2, v3⟩, v4⟩ := hV; go_simp) HSD.out ?_
          simp only [Act.put, List.setIfInBounds_toArray, List.set_cons_zero, List.set_cons_succ]
          refine takeH (i := 1) (v := .int .i64 x) (d := 47) rfl rfl (by kernel_rfl) (by kernel_rfl) (by kernel_rfl) (fun _ _ _ h => h) (by rfl) (fun V hV => by obtain ⟨⟨v1, v2, v3⟩, v4⟩ := hV; go_simp) HSD.out ?_
          simp only [Act.put, List.setIfInBounds_toArray, List.set_cons_zero, List.set_cons_succ]
          refine takeH (i := 2) (v := .pointer (some ⟨w.heap.size + 1, 1, none⟩)) (d := 48) rfl rfl (by kernel_rfl) (by kernel_rfl) (by kernel_rfl) (fun _ _ _ h => h) (by rfl) (fun V hV => by obtain ⟨⟨v1, v2, v3⟩, v4⟩ := hV; go_simp) HSD.out ?_
          simp only [Act.put, List.setIfInBounds_toArray, List.set_cons_zero, List.set_cons_succ]
          refine takeH (i := 3) (v := .int .i64 k) (d := 49) rfl rfl (by kernel_rfl) (by kernel_rfl) (by kernel_rfl) (fun _ _ _ h => h) (by rfl) (fun V hV => by obtain ⟨⟨v1, v2, v3⟩, v4⟩ := hV; go_simp) HSD.out ?_
          simp only [Act.put, List.setIfInBounds_toArray, List.set_cons_zero, List.set_cons_succ]
          refine takeH (i := 4) (v := .pointer (some ⟨w.heap.size, 2, none⟩)) (d := 50) rfl rfl (by kernel_rfl) (by kernel_rfl) (by kernel_rfl) (fun _ _ _ h => h) (by rfl) (fun V hV => by obtain ⟨⟨v1, v2, v3⟩, v4⟩ := hV; go_simp) HSD.out ?_
          simp only [Act.put, List.setIfInBounds_toArray, List.set_cons_zero, List.set_cons_succ]
          refine takeH (i := 5) (v := .slice a l.length cap) (d := 51) rfl rfl (by kernel_rfl) (by kernel_rfl) (by kernel_rfl) (fun _ _ _ h => h) (by rfl) (fun V hV => by obtain ⟨⟨v1, v2, v3⟩, v4⟩ := hV; go_simp) HSD.out ?_
          simp only [Act.put, List.setIfInBounds_toArray, List.set_cons_zero, List.set_cons_succ]
          refine takeH (i := 6) (v := .pointer (some ⟨w.heap.size + 1, 1, none⟩)) (d := 52) rfl rfl (by kernel_rfl) (by kernel_rfl) (by kernel_rfl) (fun _ _ _ h => h) (by rfl) (fun V hV => by obtain ⟨⟨v1, v2, v3⟩, v4⟩ := hV; go_simp) HSD.out ?_
          simp only [Act.put, List.setIfInBounds_toArray, List.set_cons_zero, List.set_cons_succ]
          refine takeH (i := 7) (v := .int .i64 k) (d := 53) rfl rfl (by kernel_rfl) (by kernel_rfl) (by kernel_rfl) (fun _ _ _ h => h) (by rfl) (fun V hV => by obtain ⟨⟨v1, v2, v3⟩, v4⟩ := hV; go_simp) HSD.out ?_
          simp only [Act.put, List.setIfInBounds_toArray, List.set_cons_zero, List.set_cons_succ]
          refine takeH (i := 8) (v := .pointer (some ⟨w.heap.size, 1, none⟩)) (d := 54) rfl rfl (by kernel_rfl) (by kernel_rfl) (by kernel_rfl) (fun _ _ _ h => h) (by rfl) (fun V hV => by obtain ⟨⟨v1, v2, v3⟩, v4⟩ := hV; go_simp) HSD.out ?_
          simp only [Act.put, List.setIfInBounds_toArray, List.set_cons_zero, List.set_cons_succ]
          refine takeH (i := 9) (v := .int .i64 b) (d := 55) rfl rfl (by kernel_rfl) (by kernel_rfl) (by kernel_rfl) (fun _ _ _ h => h) (by rfl) (fun V hV => by obtain ⟨⟨v1, v2, v3⟩, v4⟩ := hV; go_simp) HSD.out ?_
          simp only [Act.put, List.setIfInBounds_toArray, List.set_cons_zero, List.set_cons_succ]
          refine takeH (i := 10) (v := .int .i64 (k - b)) (d := 56) rfl rfl (by kernel_rfl) (by kernel_rfl) (by kernel_rfl) (fun _ _ _ h => h) (by rfl) (fun V hV => by obtain ⟨⟨v1, v2, v3⟩, v4⟩ := hV; go_simp) HSD.out ?_
          simp only [Act.put, List.setIfInBounds_toArray, List.set_cons_zero, List.set_cons_succ]
          refine oneH (i := 11) rfl (by kernel_rfl) rfl (call_gets (d := 57) (f := 32) (xs := #[.tmp 51, .tmp 56]) (ats := #[22, 3]) rfl rfl emf (vs := #[.slice a l.length cap, .int .i64 (k - b)]) (by simp [Act.eval]) (C3.out _ (HR.out.below ((BH.out.trans (B1.out.mono (by omega))).drew) (Nat.le_refl _))) ?_)
          rintro v2 w2 ⟨ho2, hb2⟩
          have B2 : Hid (Below W0.heap.size W0 w2) := B1.out.trans ((below_undrew hb2).mono hs1)
          have O2 : Hid (w2.ownsRow W0.heap.size 33 2 v2 L.length (L.flatMap encM)) := own_lower ho2 hs1
          obtain ⟨ya, yc, rfl⟩ := (MlR.ownd O2.out).shape
          have HS2 : Hid ((_ ∧ _ ∧ _) ∧ _) := KEEP.out w2 B2.out
          have Z5 : Hid (BX 24 w2 (w.heap.size + 2) #[.int .i64 0, .int .i64 0, .slice none 0 0]) := T1.out.below B2.out (by omega)
          clear ho2 hb2
          refine ⟨HS2.out, ?_⟩
          simp only [Act.put, List.setIfInBounds_toArray, List.set_cons_zero, List.set_cons_succ]
          refine takeH (i := 12) (v := .agg #[.int .i64 x, .int .i64 k, .slice ya L.length yc]) (d := 58) rfl rfl (by kernel_rfl) (by kernel_rfl) (by kernel_rfl) (fun _ _ _ h => h) (by rfl) (fun V hV => by obtain ⟨⟨v1, v2, v3⟩, v4⟩ := hV; go_simp) HS2.out ?_
          simp only [Act.put, List.setIfInBounds_toArray, List.set_cons_zero, List.set_cons_succ]
          obtain ⟨z0, z1, z2, z3, z4, z5⟩ := Z5.out.all3
          have B5 : Hid (Below w.heap.size w (put3 w2 (w.heap.size + 2) (.int .i64 x) (.int .i64 k) (.slice ya L.length yc))) := below_put3 (BH.out.trans (B2.out.mono (by omega))) (by omega) _ _ _
          have HSH : Hid (((put3 w2 (w.heap.size + 2) (.int .i64 x) (.int .i64 k) (.slice ya L.length yc)).cell? ⟨w.heap.size, 0, none⟩ = some (.int .i64 x) ∧ (put3 w2 (w.heap.size + 2) (.int .i64 x) (.int .i64 k) (.slice ya L.length yc)).cell? ⟨w.heap.size, 1, none⟩ = some (.int .i64 b) ∧ (put3 w2 (w.heap.size + 2) (.int .i64 x) (.int .i64 k) (.slice ya L.length yc)).cell? ⟨w.heap.size, 2, none⟩ = some (.slice a l.length cap)) ∧ (put3 w2 (w.heap.size + 2) (.int .i64 x) (.int .i64 k) (.slice ya L.length yc)).cell? ⟨w.heap.size + 1, 1, none⟩ = some (.int .i64 k)) := by
            have k1 := ((Q1.out.below B2.out (by omega)).off3 (p := w.heap.size + 2) (x := .int .i64 x) (y := .int .i64 k) (z := .slice ya L.length yc) (by omega)).all3
            have k2 := ((M1.out.below B2.out (by omega)).off3 (p := w.heap.size + 2) (x := .int .i64 x) (y := .int .i64 k) (z := .slice ya L.length yc) (by omega)).all2
            exact ⟨⟨k1.1, k1.2.1, k1.2.2.1⟩, k2.2.1⟩
          have HX : Hid (P (.returned (.tuple #[.agg #[.int .i64 x, .int .i64 k, .slice ya L.length yc], .int .i64 0])) (put3 w2 (w.heap.size + 2) (.int .i64 x) (.int .i64 k) (.slice ya L.length yc))) := HE.out _ _ (own_lower (Z5.out.own3 O2.out (by decide)) (by omega)) B5.out
          have RX : Hid (BX 24 (put3 w2 (w.heap.size + 2) (.int .i64 x) (.int .i64 k) (.slice ya L.length yc)) (w.heap.size + 2) #[.int .i64 x, .int .i64 k, .slice ya L.length yc]) := Z5.out.put3 _ _ _
          refine oneH (i := 13) rfl (by kernel_rfl) rfl (op_skip (w' := (put3 w2 (w.heap.size + 2) (.int .i64 x) (.int .i64 k) (.slice ya L.length yc))) rfl (by unfold put3; go_simp) ⟨HSH.out, ?_⟩)
          refine takeH (i := 14) (v := .int .i64 0) (d := 5) rfl rfl (by kernel_rfl) (by kernel_rfl) (by kernel_rfl) (fun _ _ _ h => h) (by rfl) (fun V hV => by obtain ⟨⟨v1, v2, v3⟩, v4⟩ := hV; go_simp) HSH.out ?_
          simp only [Act.put, List.setIfInBounds_toArray, List.set_cons_zero, List.set_cons_succ]
          refine wpAnyH_done (by kernel_rfl) ?_ _
          clear HSD HS2 HSH KEEP z0 z1 z2 z3 z4 z5
          generalize put3 w2 (w.heap.size + 2) (.int .i64 x) (.int .i64 k) (.slice ya L.length yc) = V at *
          go_wp2_with fail
          obtain ⟨r0, r1, r2, _⟩ := RX.out.all3
          exact bodyPost_ret (v := .tuple #[.agg #[.int .i64 x, .int .i64 k, .slice ya L.length yc], .int .i64 0]) (by simp [results, Try.results19, go_sem, r0, r1, r2]) rfl HX.out
      · have hE : ackE x b l.length x k = 2 := by unfold ackE; rw [hm, if_pos rfl, if_pos rfl, if_neg hr]
        have CI := fun X => in_any k 0 (b + ((min 4 l.length : Nat) : Int)) X
        rw [in_no hr] at CI
        have HE : Hid (∀ w', Below w.heap.size w w' → SndP w (ackE x b l.length x k) x (ackB b k) (ackL b k l) (.returned (.tuple #[.agg #[.int .i64 0, .int .i64 0, .slice none 0 0], .int .i64 2])) w') := fun w' hw => by rw [hE]; exact SndP.no (by decide) hw
        generalize SndP w (ackE x b l.length x k) x (ackB b k) (ackL b k l) = P at *
        clear hE hm
        generalize min 4 l.length = D at *
        go_enter Try.func19, Try.ntmps19
        go_upto_region 1 with fail
        obtain ⟨Q0, M0, T0, B0, s1, s2⟩ := boxes3 w #[.int .i64 x, .int .i64 b, .slice a l.length cap] #[.int .i64 x, .int .i64 k] #[.int .i64 0, .int .i64 0, .slice none 0 0] 24 44 24 _ rfl
        generalize ((w.alloc (.cells #[.int .i64 x, .int .i64 b, .slice a l.length cap] 24)).alloc (.cells #[.int .i64 x, .int .i64 k] 44)).alloc (.cells #[.int .i64 0, .int .i64 0, .slice none 0 0] 24) = W0 at *
        have T1 : Hid (BX 24 W0 (w.heap.size + 2) #[.int .i64 0, .int .i64 0, .slice none 0 0]) := T0
        have BH : Hid (Below w.heap.size w W0) := B0
        obtain ⟨q0, q1, q2, _⟩ := Q0.all3
        obtain ⟨m0, m1, _⟩ := M0.all2
        have Q1 : Hid (BX 24 W0 w.heap.size #[.int .i64 x, .int .i64 b, .slice a l.length cap]) := Q0
        have M1 : Hid (BX 44 W0 (w.heap.size + 1) #[.int .i64 x, .int .i64 k]) := M0
        clear Q0 M0 T0 B0
        go_wp2_with fail
        refine (C1.out _ (HR.out.below BH.out (Nat.le_refl _))).mono ?_
        rintro E w1 ⟨da, dc, rfl, hb1⟩
        obtain ⟨q0, q1, q2, _⟩ := (Q1.out.below hb1 (by omega)).all3
        obtain ⟨m0, m1, _⟩ := (M1.out.below hb1 (by omega)).all2
        have B1 : Hid (Below W0.heap.size W0 w1) := hb1
        clear hb1
        go_wp2_with fail
        refine (CI _).mono ?_
        rintro E w9 ⟨rfl, hw⟩
        replace hw := hw.symm
        subst hw
        have hb1 := B1.out
        have T2 : Hid (BX 24 w1 (w.heap.size + 2) #[.int .i64 0, .int .i64 0, .slice none 0 0]) := T1.out.below hb1 (by omega)
        have HX : Hid (P (.returned (.tuple #[.agg #[.int .i64 0, .int .i64 0, .slice none 0 0], .int .i64 2])) (put3 w1 (w.heap.size + 2) (.int .i64 0) (.int .i64 0) (.slice none 0 0))) := HE.out _ (below_put3 (BH.out.trans (hb1.mono (by omega))) (by omega) _ _ _)
        have RX : Hid (BX 24 (put3 w1 (w.heap.size + 2) (.int .i64 0) (.int .i64 0) (.slice none 0 0)) (w.heap.size + 2) #[.int .i64 0, .int .i64 0, .slice none 0 0]) := T2.out.put3 _ _ _
        obtain ⟨t0, t1, t2, t3, t4, t5⟩ := T2.out.all3
        clear hb1
        go_wp2_with fail
        obtain ⟨r0, r1, r2, _⟩ := RX.out.all3
        unfold put3 at r0 r1 r2
        exact bodyPost_ret (v := .tuple #[.agg #[.int .i64 0, .int .i64 0, .slice none 0 0], .int .i64 2]) (by simp [results, Try.results19, go_sem, r0, r1, r2]) rfl HX.out
    · have hE : ackE e b l.length x k = 11 := by unfold ackE; rw [hm, if_neg hx]; rfl
      have HE : Hid (∀ w', Below w.heap.size w w' → SndP w (ackE e b l.length x k) e (ackB b k) (ackL b k l) (.returned (.tuple #[.agg #[.int .i64 0, .int .i64 0, .slice none 0 0], .int .i64 11])) w') := fun w' hw => by rw [hE]; exact SndP.no (by decide) hw
      generalize SndP w (ackE e b l.length x k) e (ackB b k) (ackL b k l) = P at *
      have dx : (x != e) = true := by simpa using hx
      clear hE hm
      generalize min 4 l.length = D at *
      go_enter Try.func19, Try.ntmps19
      go_upto_region 1 with fail
      obtain ⟨Q0, M0, T0, B0, s1, s2⟩ := boxes3 w #[.int .i64 e, .int .i64 b, .slice a l.length cap] #[.int .i64 x, .int .i64 k] #[.int .i64 0, .int .i64 0, .slice none 0 0] 24 44 24 _ rfl
      generalize ((w.alloc (.cells #[.int .i64 e, .int .i64 b, .slice a l.length cap] 24)).alloc (.cells #[.int .i64 x, .int .i64 k] 44)).alloc (.cells #[.int .i64 0, .int .i64 0, .slice none 0 0] 24) = W0 at *
      have T1 : Hid (BX 24 W0 (w.heap.size + 2) #[.int .i64 0, .int .i64 0, .slice none 0 0]) := T0
      have BH : Hid (Below w.heap.size w W0) := B0
      obtain ⟨q0, q1, q2, _⟩ := Q0.all3
      obtain ⟨m0, m1, _⟩ := M0.all2
      have Q1 : Hid (BX 24 W0 w.heap.size #[.int .i64 e, .int .i64 b, .slice a l.length cap]) := Q0
      have M1 : Hid (BX 44 W0 (w.heap.size + 1) #[.int .i64 x, .int .i64 k]) := M0
      clear Q0 M0 T0 B0
      go_wp2_with fail
      refine (C1.out _ (HR.out.below BH.out (Nat.le_refl _))).mono ?_
      rintro E w1 ⟨da, dc, rfl, hb1⟩
      obtain ⟨q0, q1, q2, _⟩ := (Q1.out.below hb1 (by omega)).all3
      obtain ⟨m0, m1, _⟩ := (M1.out.below hb1 (by omega)).all2
      have T2 : Hid (BX 24 w1 (w.heap.size + 2) #[.int .i64 0, .int .i64 0, .slice none 0 0]) := T1.out.below hb1 (by omega)
      have HX : Hid (P (.returned (.tuple #[.agg #[.int .i64 0, .int .i64 0, .slice none 0 0], .int .i64 11])) (put3 w1 (w.heap.size + 2) (.int .i64 0) (.int .i64 0) (.slice none 0 0))) := HE.out _ (below_put3 (BH.out.trans (hb1.mono (by omega))) (by omega) _ _ _)
      have RX : Hid (BX 24 (put3 w1 (w.heap.size + 2) (.int .i64 0) (.int .i64 0) (.slice none 0 0)) (w.heap.size + 2) #[.int .i64 0, .int .i64 0, .slice none 0 0]) := T2.out.put3 _ _ _
      obtain ⟨t0, t1, t2, t3, t4, t5⟩ := T2.out.all3
      clear hb1
      go_wp2_with fail
      obtain ⟨r0, r1, r2, _⟩ := RX.out.all3
      unfold put3 at r0 r1 r2
      exact bodyPost_ret (v := .tuple #[.agg #[.int .i64 0, .int .i64 0, .slice none 0 0], .int .i64 11]) (by simp [results, Try.results19, go_sem, r0, r1, r2]) rfl HX.out
end Go.Proofs.Ytjmjpmnjibdhhaa
