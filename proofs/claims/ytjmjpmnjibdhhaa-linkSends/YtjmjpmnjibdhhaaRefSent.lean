/-
  Contract of the document's own LinkSent.
-/
import Derived.Test.YtjmjpmnjibdhhaaLinkSend
import Derived.Test.YtjmjpmnjibdhhaaRefLink
namespace Go.Proofs.Ytjmjpmnjibdhhaa
set_option maxRecDepth 100000
open Go.ChangeShapes Go.WideShapes Go.ChangeAt Go.RowKit

set_option maxHeartbeats 2000000 in
set_option maxRecDepth 100000 in
theorem refSent_any (e b : Int) (m : Ml) (v : Value) (l : List Ml) (w : World) (h : MlR w v l) (hl : l.length * 16 ≤ 140737488351232) :
    Calls Try.prog 14 #[.agg #[.int .i64 e, .int .i64 b, v], .agg #[.int .i64 m.1, .int .i64 m.2]] w (SndP w (sendE e b l.length) e b (l ++ [m])) := by
  have HR : Hid (MlR w v l) := h
  obtain ⟨a, cap, rfl⟩ := h.shape
  have hn : l.length ≤ 140737488355328 := by omega
  clear h
  cases hm : mayS e b l.length
  · have he : sendE e b l.length = 9 := by unfold sendE; rw [hm]; rfl
    have C1 := fun X => senderMay_is hm a cap hn X
    have HE : Hid (∀ w', Below w.heap.size w w' → SndP w (sendE e b l.length) e b (l ++ [m]) (.returned (.tuple #[.agg #[.int .i64 0, .int .i64 0, .slice none 0 0], .int .i64 9])) w') := fun w' hw => by rw [he]; exact SndP.no (by decide) hw
    generalize SndP w (sendE e b l.length) e b (l ++ [m]) = P at *
    clear he hm
    go_enter Try.func14, Try.ntmps14
    go_upto_region 1 with fail
    obtain ⟨Q0, M0, T0, B0, s1, s2⟩ := boxes3 w #[.int .i64 e, .int .i64 b, .slice a l.length cap] #[.int .i64 m.1, .int .i64 m.2] #[.int .i64 0, .int .i64 0, .slice none 0 0] 24 33 24 _ rfl
    generalize ((w.alloc (.cells #[.int .i64 e, .int .i64 b, .slice a l.length cap] 24)).alloc (.cells #[.int .i64 m.1, .int .i64 m.2] 33)).alloc (.cells #[.int .i64 0, .int .i64 0, .slice none 0 0] 24) = W0 at *
    have T1 : Hid (BX 24 W0 (w.heap.size + 2) #[.int .i64 0, .int .i64 0, .slice none 0 0]) := T0
    have BH : Hid (Below w.heap.size w W0) := B0
    obtain ⟨q0, q1, q2, _⟩ := Q0.all3
    clear Q0 M0 T0 B0
    go_wp2_with fail
    refine (C1 _).mono ?_
    rintro E w1 ⟨rfl, hb1⟩
    have T2 : Hid (BX 24 w1 (w.heap.size + 2) #[.int .i64 0, .int .i64 0, .slice none 0 0]) := T1.out.below hb1 (by omega)
    have HX : Hid (P (.returned (.tuple #[.agg #[.int .i64 0, .int .i64 0, .slice none 0 0], .int .i64 9])) (put3 w1 (w.heap.size + 2) (.int .i64 0) (.int .i64 0) (.slice none 0 0))) := HE.out _ (below_put3 (BH.out.trans (hb1.mono (by omega))) (by omega) _ _ _)
    have RX : Hid (BX 24 (put3 w1 (w.heap.size + 2) (.int .i64 0) (.int .i64 0) (.slice none 0 0)) (w.heap.size + 2) #[.int .i64 0, .int .i64 0, .slice none 0 0]) := T2.out.put3 _ _ _
    obtain ⟨t0, t1, t2, t3, t4, t5⟩ := T2.out.all3
    clear hb1
    go_wp2_with fail
    obtain ⟨r0, r1, r2, _⟩ := RX.out.all3
    unfold put3 at r0 r1 r2
    exact bodyPost_ret (v := .tuple #[.agg #[.int .i64 0, .int .i64 0, .slice none 0 0], .int .i64 9]) (by simp [results, Try.results14, go_sem, r0, r1, r2]) rfl HX.out
  · obtain ⟨he, hb, h5⟩ := mayS_iff.1 hm
    have C1 := fun X => senderMay_is hm a cap hn X
    by_cases hf : l.length = 5000
    · have hE : sendE e b l.length = 10 := by unfold sendE; rw [hm, if_pos hf]; rfl
      have HE : Hid (∀ w', Below w.heap.size w w' → SndP w (sendE e b l.length) e b (l ++ [m]) (.returned (.tuple #[.agg #[.int .i64 0, .int .i64 0, .slice none 0 0], .int .i64 10])) w') := fun w' hw => by rw [hE]; exact SndP.no (by decide) hw
      generalize SndP w (sendE e b l.length) e b (l ++ [m]) = P at *
      have hq : (5000 : Int) ≤ (l.length : Int) := by omega
      generalize l.length = nn at *
      clear hE hm hf
      go_enter Try.func14, Try.ntmps14
      go_upto_region 1 with fail
      obtain ⟨Q0, M0, T0, B0, s1, s2⟩ := boxes3 w #[.int .i64 e, .int .i64 b, .slice a nn cap] #[.int .i64 m.1, .int .i64 m.2] #[.int .i64 0, .int .i64 0, .slice none 0 0] 24 33 24 _ rfl
      generalize ((w.alloc (.cells #[.int .i64 e, .int .i64 b, .slice a nn cap] 24)).alloc (.cells #[.int .i64 m.1, .int .i64 m.2] 33)).alloc (.cells #[.int .i64 0, .int .i64 0, .slice none 0 0] 24) = W0 at *
      have T1 : Hid (BX 24 W0 (w.heap.size + 2) #[.int .i64 0, .int .i64 0, .slice none 0 0]) := T0
      have BH : Hid (Below w.heap.size w W0) := B0
      obtain ⟨q0, q1, q2, _⟩ := Q0.all3
      have Q1 : Hid (BX 24 W0 w.heap.size #[.int .i64 e, .int .i64 b, .slice a nn cap]) := Q0
      clear Q0 M0 T0 B0
      go_wp2_with fail
      refine (C1 _).mono ?_
      rintro E w1 ⟨rfl, hb1⟩
      obtain ⟨q0, q1, q2, _⟩ := (Q1.out.below hb1 (by omega)).all3
      have T2 : Hid (BX 24 w1 (w.heap.size + 2) #[.int .i64 0, .int .i64 0, .slice none 0 0]) := T1.out.below hb1 (by omega)
      have HX : Hid (P (.returned (.tuple #[.agg #[.int .i64 0, .int .i64 0, .slice none 0 0], .int .i64 10])) (put3 w1 (w.heap.size + 2) (.int .i64 0) (.int .i64 0) (.slice none 0 0))) := HE.out _ (below_put3 (BH.out.trans (hb1.mono (by omega))) (by omega) _ _ _)
      have RX : Hid (BX 24 (put3 w1 (w.heap.size + 2) (.int .i64 0) (.int .i64 0) (.slice none 0 0)) (w.heap.size + 2) #[.int .i64 0, .int .i64 0, .slice none 0 0]) := T2.out.put3 _ _ _
      obtain ⟨t0, t1, t2, t3, t4, t5⟩ := T2.out.all3
      clear hb1
      go_wp2_with fail
      obtain ⟨r0, r1, r2, _⟩ := RX.out.all3
      unfold put3 at r0 r1 r2
      exact bodyPost_ret (v := .tuple #[.agg #[.int .i64 0, .int .i64 0, .slice none 0 0], .int .i64 10]) (by simp [results, Try.results14, go_sem, r0, r1, r2]) rfl HX.out
    · have hE : sendE e b l.length = 0 := by unfold sendE; rw [hm, if_neg hf]; rfl
      have HE : Hid (∀ v w', w'.ownsRow w.heap.size 33 2 v (l ++ [m]).length ((l ++ [m]).flatMap encM) → Below w.heap.size w w' → SndP w (sendE e b l.length) e b (l ++ [m]) (.returned (.tuple #[.agg #[.int .i64 e, .int .i64 b, v], .int .i64 0])) w') := fun v w' h1 hw => by rw [hE]; exact SndP.yes h1 hw
      generalize SndP w (sendE e b l.length) e b (l ++ [m]) = P at *
      have hq : ¬ (5000 : Int) ≤ (l.length : Int) := by omega
      have C2 : Hid (∀ X, MlR X (.slice a l.length cap) l → Calls Try.prog 32 #[.slice a l.length cap, .int .i64 0] X fun E w' => ∃ v', E = .returned v' ∧ (w'.ownsRow X.heap.size 33 2 v' l.length (l.flatMap encM) ∧ Below X.heap.size X w')) := fun X hX => by
        have := mailsFrom_any (.slice a l.length cap) l 0 X hX (Nat.zero_le _) hl
        simpa using this
      clear hE hm
      go_enter Try.func14, Try.ntmps14
      go_upto_region 1 with fail
      obtain ⟨Q0, M0, T0, B0, s1, s2⟩ := boxes3 w #[.int .i64 e, .int .i64 b, .slice a l.length cap] #[.int .i64 m.1, .int .i64 m.2] #[.int .i64 0, .int .i64 0, .slice none 0 0] 24 33 24 _ rfl
      generalize ((w.alloc (.cells #[.int .i64 e, .int .i64 b, .slice a l.length cap] 24)).alloc (.cells #[.int .i64 m.1, .int .i64 m.2] 33)).alloc (.cells #[.int .i64 0, .int .i64 0, .slice none 0 0] 24) = W0 at *
      have T1 : Hid (BX 24 W0 (w.heap.size + 2) #[.int .i64 0, .int .i64 0, .slice none 0 0]) := T0
      have BH : Hid (Below w.heap.size w W0) := B0
      obtain ⟨q0, q1, q2, _⟩ := Q0.all3
      have Q1 : Hid (BX 24 W0 w.heap.size #[.int .i64 e, .int .i64 b, .slice a l.length cap]) := Q0
      have M1 : Hid (BX 33 W0 (w.heap.size + 1) #[.int .i64 m.1, .int .i64 m.2]) := M0
      clear Q0 M0 T0 B0
      go_wp2_with fail
      refine (C1 _).mono ?_
      rintro E w1 ⟨rfl, hb1⟩
      have hs1 := hb1.size
      obtain ⟨q0, q1, q2, _⟩ := (Q1.out.below hb1 (by omega)).all3
      have B1 : Hid (Below W0.heap.size W0 w1) := hb1
      clear hb1
      go_wp2_with fail
      refine (C2.out _ (HR.out.below (BH.out.trans (B1.out.mono (by omega))) (Nat.le_refl _))).mono ?_
      rintro E w2 ⟨v2, rfl, ho2, hb2⟩
      have hs2 := hb2.size
      have B2 : Hid (Below W0.heap.size W0 w2) := B1.out.trans (hb2.mono hs1)
      have O2 : Hid (w2.ownsRow W0.heap.size 33 2 v2 l.length (l.flatMap encM)) := own_lower ho2 hs1
      obtain ⟨ya, yc, rfl⟩ := (MlR.ownd O2.out).shape
      have KEEP : Hid (∀ V, Below W0.heap.size W0 V → (V.cell? ⟨w.heap.size, 0, none⟩ = some (.int .i64 e) ∧ V.cell? ⟨w.heap.size, 1, none⟩ = some (.int .i64 b)) ∧ V.cell? ⟨w.heap.size + 1, 0, none⟩ = some (.int .i64 m.1) ∧ V.cell? ⟨w.heap.size + 1, 1, none⟩ = some (.int .i64 m.2)) := fun V hV => by
        obtain ⟨h1, h2, _⟩ := (Q1.out.below hV (by omega)).all3
        obtain ⟨h3, h4, _⟩ := (M1.out.below hV (by omega)).all2
        exact ⟨⟨h1, h2⟩, h3, h4⟩
      clear ho2 hb2 q0 q1 q2
      go_upto_region 6 with fail
      rw [show w.heap.size + 1 + 1 = w.heap.size + 2 from rfl]
      have HSD : Hid (_ ∧ _) := KEEP.out w2.drew B2.out.drew
      have A3 : Hid (Below W0.heap.size W0 (w2.alloc (.cells #[.int .i64 m.1, .int .i64 m.2] 33)).drew) := (B2.out.alloc (by omega) _).drew
      have HSE : Hid (_ ∧ _) := KEEP.out _ A3.out
      have hsz : (w2.alloc (.cells #[.int .i64 m.1, .int .i64 m.2] 33)).drew.heap.size = w2.heap.size + 1 := by simp
      obtain ⟨g, gc, w4, hrun, hown4, hgr⟩ := run_append_newK kM (w := (w2.alloc (.cells #[.int .i64 m.1, .int .i64 m.2] 33)).drew) 22 W0.heap.size (.slice ya l.length yc) l ((O2.out.alloc _).drew) w2.heap.size m #[.int .i64 m.1, .int .i64 m.2] rfl (0, 0) (heap_alloc_new w2 _) (by simp only [kM]; omega) (by unfold maxLen; omega) (by rw [hsz]; omega)
      unfold kM at hrun
      simp only at hrun
      have B4 : Hid (Below W0.heap.size W0 w4) := A3.out.trans ((Below.refl _ _).grown hgr (by rw [hsz]; omega) (fun j hj => (O2.out.lt j hj).1))
      have O4 : Hid (w4.ownsRow W0.heap.size 33 2 (.slice (some ⟨g, 0, none⟩) (l.length + 1) gc) (l ++ [m]).length ((l ++ [m]).flatMap encM)) := hown4
      have HSF : Hid (_ ∧ _) := KEEP.out _ B4.out
      have Z5 : Hid (BX 24 w4 (w.heap.size + 2) #[.int .i64 0, .int .i64 0, .slice none 0 0]) := T1.out.below B4.out (by omega)
      clear hown4 hgr hsz
      refine wp_region_held (S := fun V => (V.cell? ⟨w.heap.size, 0, none⟩ = some (.int .i64 e) ∧ V.cell? ⟨w.heap.size, 1, none⟩ = some (.int .i64 b)) ∧ V.cell? ⟨w.heap.size + 1, 0, none⟩ = some (.int .i64 m.1) ∧ V.cell? ⟨w.heap.size + 1, 1, none⟩ = some (.int .i64 m.2)) (by kernel_rfl) ?_
      simp only [List.size_toArray, List.length_cons, List.length_nil, Nat.reduceAdd]
      refine takeH (i := 0) (v := .pointer (some ⟨w.heap.size, 0, none⟩)) (d := 19) rfl rfl (by kernel_rfl) (by kernel_rfl) (by kernel_rfl) (fun _ _ _ h => h) (by rfl) (fun V hV => by obtain ⟨⟨v1, v2⟩, v3, v4⟩ := hV; go_simp) HSD.out ?_
      simp only [Act.put, List.setIfInBounds_toArray, List.set_cons_zero, List.set_cons_succ]
      refine takeH (i := 1) (v := .int .i64 e) (d := 20) rfl rfl (by kernel_rfl) (by kernel_rfl) (by kernel_rfl) (fun _ _ _ h => h) (by rfl) (fun V hV => by obtain ⟨⟨v1, v2⟩, v3, v4⟩ := hV; go_simp) HSD.out ?_
      simp only [Act.put, List.setIfInBounds_toArray, List.set_cons_zero, List.set_cons_succ]
      refine takeH (i := 2) (v := .pointer (some ⟨w.heap.size, 1, none⟩)) (d := 21) rfl rfl (by kernel_rfl) (by kernel_rfl) (by kernel_rfl) (fun _ _ _ h => h) (by rfl) (fun V hV => by obtain ⟨⟨v1, v2⟩, v3, v4⟩ := hV; go_simp) HSD.out ?_
      simp only [Act.put, List.setIfInBounds_toArray, List.set_cons_zero, List.set_cons_succ]
      refine takeH (i := 3) (v := .int .i64 b) (d := 22) rfl rfl (by kernel_rfl) (by kernel_rfl) (by kernel_rfl) (fun _ _ _ h => h) (by rfl) (fun V hV => by obtain ⟨⟨v1, v2⟩, v3, v4⟩ := hV; go_simp) HSD.out ?_
      simp only [Act.put, List.setIfInBounds_toArray, List.set_cons_zero, List.set_cons_succ]
      refine takeH (i := 4) (v := .slice ya l.length yc) (d := 23) rfl rfl (by kernel_rfl) (by kernel_rfl) (by kernel_rfl) (fun _ _ _ h => h) (by rfl) (fun V hV => by obtain ⟨⟨v1, v2⟩, v3, v4⟩ := hV; go_simp) HSD.out ?_
      simp only [Act.put, List.setIfInBounds_toArray, List.set_cons_zero, List.set_cons_succ]
      refine takeH (i := 5) (v := .agg #[.int .i64 m.1, .int .i64 m.2]) (d := 24) rfl rfl (by kernel_rfl) (by kernel_rfl) (by kernel_rfl) (fun _ _ _ h => h) (by rfl) (fun V hV => by obtain ⟨⟨v1, v2⟩, v3, v4⟩ := hV; go_simp) HSD.out ?_
      simp only [Act.put, List.setIfInBounds_toArray, List.set_cons_zero, List.set_cons_succ]
      refine oneH (i := 6) rfl (by kernel_rfl) rfl (op_run (d := 25) (v' := .slice (some ⟨w2.heap.size, 0, none⟩) 1 1) (w' := (w2.alloc (.cells #[.int .i64 m.1, .int .i64 m.2] 33)).drew) rfl (by go_simp) ⟨HSE.out, ?_⟩)
      simp only [Act.put, List.setIfInBounds_toArray, List.set_cons_zero, List.set_cons_succ]
      refine oneH (i := 7) rfl (by kernel_rfl) rfl (call_append (d := 26) (s := .tmp 23) (x := .tmp 25) (t := 22) rfl rfl (v := .slice ya l.length yc) (v2 := .slice (some ⟨w2.heap.size, 0, none⟩) 1 1) (by simp [Act.eval]) (by simp [Act.eval]) hrun ⟨HSF.out, ?_⟩)
      simp only [Act.put, List.setIfInBounds_toArray, List.set_cons_zero, List.set_cons_succ]
      generalize l.length + 1 = t9 at *
      refine takeH (i := 8) (v := .agg #[.int .i64 e, .int .i64 b, .slice (some ⟨g, 0, none⟩) t9 gc]) (d := 27) rfl rfl (by kernel_rfl) (by kernel_rfl) (by kernel_rfl) (fun _ _ _ h => h) (by rfl) (fun V hV => by obtain ⟨⟨v1, v2⟩, v3, v4⟩ := hV; go_simp) HSF.out ?_
      simp only [Act.put, List.setIfInBounds_toArray, List.set_cons_zero, List.set_cons_succ]
      obtain ⟨z0, z1, z2, z3, z4, z5⟩ := Z5.out.all3
      have B5 : Hid (Below w.heap.size w (put3 w4 (w.heap.size + 2) (.int .i64 e) (.int .i64 b) (.slice (some ⟨g, 0, none⟩) t9 gc))) := below_put3 (BH.out.trans (B4.out.mono (by omega))) (by omega) _ _ _
      have HSG : Hid (_ ∧ _) := KEEP.out w4 B4.out
      have HSH : Hid (((put3 w4 (w.heap.size + 2) (.int .i64 e) (.int .i64 b) (.slice (some ⟨g, 0, none⟩) t9 gc)).cell? ⟨w.heap.size, 0, none⟩ = some (.int .i64 e) ∧ (put3 w4 (w.heap.size + 2) (.int .i64 e) (.int .i64 b) (.slice (some ⟨g, 0, none⟩) t9 gc)).cell? ⟨w.heap.size, 1, none⟩ = some (.int .i64 b)) ∧ (put3 w4 (w.heap.size + 2) (.int .i64 e) (.int .i64 b) (.slice (some ⟨g, 0, none⟩) t9 gc)).cell? ⟨w.heap.size + 1, 0, none⟩ = some (.int .i64 m.1) ∧ (put3 w4 (w.heap.size + 2) (.int .i64 e) (.int .i64 b) (.slice (some ⟨g, 0, none⟩) t9 gc)).cell? ⟨w.heap.size + 1, 1, none⟩ = some (.int .i64 m.2)) := by
        have k1 := ((Q1.out.below B4.out (by omega)).off3 (p := w.heap.size + 2) (x := .int .i64 e) (y := .int .i64 b) (z := .slice (some ⟨g, 0, none⟩) t9 gc) (by omega)).all3
        have k2 := ((M1.out.below B4.out (by omega)).off3 (p := w.heap.size + 2) (x := .int .i64 e) (y := .int .i64 b) (z := .slice (some ⟨g, 0, none⟩) t9 gc) (by omega)).all2
        exact ⟨⟨k1.1, k1.2.1⟩, k2.1, k2.2.1⟩
      have HX : Hid (P (.returned (.tuple #[.agg #[.int .i64 e, .int .i64 b, .slice (some ⟨g, 0, none⟩) t9 gc], .int .i64 0])) (put3 w4 (w.heap.size + 2) (.int .i64 e) (.int .i64 b) (.slice (some ⟨g, 0, none⟩) t9 gc))) := HE.out _ _ (own_lower (Z5.out.own3 O4.out (by decide)) (by omega)) B5.out
      have RX : Hid (BX 24 (put3 w4 (w.heap.size + 2) (.int .i64 e) (.int .i64 b) (.slice (some ⟨g, 0, none⟩) t9 gc)) (w.heap.size + 2) #[.int .i64 e, .int .i64 b, .slice (some ⟨g, 0, none⟩) t9 gc]) := Z5.out.put3 _ _ _
      refine oneH (i := 9) rfl (by kernel_rfl) rfl (op_skip (w' := put3 w4 (w.heap.size + 2) (.int .i64 e) (.int .i64 b) (.slice (some ⟨g, 0, none⟩) t9 gc)) rfl (by unfold put3; go_simp) ⟨HSH.out, ?_⟩)
      refine takeH (i := 10) (v := .int .i64 0) (d := 5) rfl rfl (by kernel_rfl) (by kernel_rfl) (by kernel_rfl) (fun _ _ _ h => h) (by rfl) (fun V hV => by obtain ⟨⟨v1, v2⟩, v3, v4⟩ := hV; go_simp) HSH.out ?_
      simp only [Act.put, List.setIfInBounds_toArray, List.set_cons_zero, List.set_cons_succ]
      refine wpAnyH_done (by kernel_rfl) ?_ _
      clear HSD HSE HSF HSG HSH KEEP z0 z1 z2 z3 z4 z5
      generalize put3 w4 (w.heap.size + 2) (.int .i64 e) (.int .i64 b) (.slice (some ⟨g, 0, none⟩) t9 gc) = V at *
      go_wp2_with fail
      obtain ⟨r0, r1, r2, _⟩ := RX.out.all3
      exact bodyPost_ret (v := .tuple #[.agg #[.int .i64 e, .int .i64 b, .slice (some ⟨g, 0, none⟩) t9 gc], .int .i64 0]) (by simp [results, Try.results14, go_sem, r0, r1, r2]) rfl HX.out
end Go.Proofs.Ytjmjpmnjibdhhaa
