/-
  Contract of link.Send.
-/
import Derived.Test.YtjmjpmnjibdhhabLinkBehind
namespace Go.Proofs.Ytjmjpmnjibdhhab
set_option maxRecDepth 100000
open Go.ChangeShapes Go.WideShapes Go.ChangeAt Go.RowKit

/-- A sender and an error are answered; the loads lie in new memory. -/
def SndP (w : World) (f e b : Int) (l : List Ml) (E : Ending) (w' : World) : Prop :=
  ∃ v, E = .returned (.tuple #[.agg #[.int .i64 (okN f e), .int .i64 (okN f b), v], .int .i64 f]) ∧ w'.ownsRow w.heap.size 41 2 v (okL f l).length ((okL f l).flatMap encM) ∧ Below w.heap.size w w'
theorem SndP.no {w w' : World} {f e b : Int} {l : List Ml} (hf : f ≠ 0) (hb : Below w.heap.size w w') : SndP w f e b l (.returned (.tuple #[.agg #[.int .i64 0, .int .i64 0, .slice none 0 0], .int .i64 f])) w' :=
  ⟨.slice none 0 0, by rw [okN_no hf, okN_no hf], by rw [okL_no hf]; exact World.ownsRow_nil _ _ _ _, hb⟩
theorem SndP.yes {w w' : World} {e b : Int} {l : List Ml} {v : Value} (h1 : w'.ownsRow w.heap.size 41 2 v l.length (l.flatMap encM)) (hb : Below w.heap.size w w') : SndP w 0 e b l (.returned (.tuple #[.agg #[.int .i64 e, .int .i64 b, v], .int .i64 0])) w' :=
  ⟨_, rfl, h1, hb⟩
theorem senderMayBe_is {e b : Int} {n : Nat} {t : Bool} (h : mayS e b n = t) (a : Option Addr) (c : Nat) (hn : n ≤ 140737488355328) (w : World) : Calls Try.prog 15 #[.agg #[.int .i64 e, .int .i64 b, .slice a n c]] w fun E w' => E = .returned (.bool t) ∧ Below w.heap.size w w' := by
  have := senderMayBe_any e b a n c hn w
  rw [h] at this
  exact this

set_option maxHeartbeats 2000000 in
set_option maxRecDepth 100000 in
theorem send_any (e b : Int) (m : Ml) (v : Value) (l : List Ml) (w : World) (h : MlR w v l) (hl : l.length * 16 ≤ 140737488351232) :
    Calls Try.prog 10 #[.agg #[.int .i64 e, .int .i64 b, v], .agg #[.int .i64 m.1, .int .i64 m.2]] w (SndP w (sendE e b l.length) e b (l ++ [m])) := by
  have HR : Hid (MlR w v l) := h
  obtain ⟨a, cap, rfl⟩ := h.shape
  have hn : l.length ≤ 140737488355328 := by omega
  clear h
  cases hm : mayS e b l.length
  · have he : sendE e b l.length = 9 := by unfold sendE; rw [hm]; rfl
    have C1 := fun X => senderMayBe_is hm a cap hn X
    have HE : Hid (∀ w', Below w.heap.size w w' → SndP w (sendE e b l.length) e b (l ++ [m]) (.returned (.tuple #[.agg #[.int .i64 0, .int .i64 0, .slice none 0 0], .int .i64 9])) w') := fun w' hw => by rw [he]; exact SndP.no (by decide) hw
    generalize SndP w (sendE e b l.length) e b (l ++ [m]) = P at *
    clear he hm
    go_enter Try.func10, Try.ntmps10
    go_upto_region 1 with fail
    obtain ⟨Q0, M0, T0, B0, s1, s2⟩ := boxes3 w #[.int .i64 e, .int .i64 b, .slice a l.length cap] #[.int .i64 m.1, .int .i64 m.2] #[.int .i64 0, .int .i64 0, .slice none 0 0] 27 41 27 _ rfl
    generalize ((w.alloc (.cells #[.int .i64 e, .int .i64 b, .slice a l.length cap] 27)).alloc (.cells #[.int .i64 m.1, .int .i64 m.2] 41)).alloc (.cells #[.int .i64 0, .int .i64 0, .slice none 0 0] 27) = W0 at *
    have T1 : Hid (BX 27 W0 (w.heap.size + 2) #[.int .i64 0, .int .i64 0, .slice none 0 0]) := T0
    have BH : Hid (Below w.heap.size w W0) := B0
    obtain ⟨q0, q1, q2, _⟩ := Q0.all3
    clear Q0 M0 T0 B0
    go_wp2_with fail
    refine (C1 _).mono ?_
    rintro E w1 ⟨rfl, hb1⟩
    have T2 : Hid (BX 27 w1 (w.heap.size + 2) #[.int .i64 0, .int .i64 0, .slice none 0 0]) := T1.out.below hb1 (by omega)
    have HX : Hid (P (.returned (.tuple #[.agg #[.int .i64 0, .int .i64 0, .slice none 0 0], .int .i64 9])) (put3 w1 (w.heap.size + 2) (.int .i64 0) (.int .i64 0) (.slice none 0 0))) := HE.out _ (below_put3 (BH.out.trans (hb1.mono (by omega))) (by omega) _ _ _)
    have RX : Hid (BX 27 (put3 w1 (w.heap.size + 2) (.int .i64 0) (.int .i64 0) (.slice none 0 0)) (w.heap.size + 2) #[.int .i64 0, .int .i64 0, .slice none 0 0]) := T2.out.put3 _ _ _
    obtain ⟨t0, t1, t2, t3, t4, t5⟩ := T2.out.all3
    clear hb1
    go_wp2_with fail
    obtain ⟨r0, r1, r2, _⟩ := RX.out.all3
    unfold put3 at r0 r1 r2
    exact bodyPost_ret (v := .tuple #[.agg #[.int .i64 0, .int .i64 0, .slice none 0 0], .int .i64 9]) (by simp [results, Try.results10, go_sem, r0, r1, r2]) rfl HX.out
  · obtain ⟨he, hb, h5⟩ := mayS_iff.1 hm
    have C1 := fun X => senderMayBe_is hm a cap hn X
    by_cases hf : l.length = 5000
    · have hE : sendE e b l.length = 10 := by unfold sendE; rw [hm, if_pos hf]; rfl
      have HE : Hid (∀ w', Below w.heap.size w w' → SndP w (sendE e b l.length) e b (l ++ [m]) (.returned (.tuple #[.agg #[.int .i64 0, .int .i64 0, .slice none 0 0], .int .i64 10])) w') := fun w' hw => by rw [hE]; exact SndP.no (by decide) hw
      generalize SndP w (sendE e b l.length) e b (l ++ [m]) = P at *
      have hq : ((l.length : Int) == 5000) = true := by rw [hf]; rfl
      generalize l.length = nn at *
      clear hE hm hf
      go_enter Try.func10, Try.ntmps10
      go_upto_region 1 with fail
      obtain ⟨Q0, M0, T0, B0, s1, s2⟩ := boxes3 w #[.int .i64 e, .int .i64 b, .slice a nn cap] #[.int .i64 m.1, .int .i64 m.2] #[.int .i64 0, .int .i64 0, .slice none 0 0] 27 41 27 _ rfl
      generalize ((w.alloc (.cells #[.int .i64 e, .int .i64 b, .slice a nn cap] 27)).alloc (.cells #[.int .i64 m.1, .int .i64 m.2] 41)).alloc (.cells #[.int .i64 0, .int .i64 0, .slice none 0 0] 27) = W0 at *
      have T1 : Hid (BX 27 W0 (w.heap.size + 2) #[.int .i64 0, .int .i64 0, .slice none 0 0]) := T0
      have BH : Hid (Below w.heap.size w W0) := B0
      obtain ⟨q0, q1, q2, _⟩ := Q0.all3
      have Q1 : Hid (BX 27 W0 w.heap.size #[.int .i64 e, .int .i64 b, .slice a nn cap]) := Q0
      clear Q0 M0 T0 B0
      go_wp2_with fail
      refine (C1 _).mono ?_
      rintro E w1 ⟨rfl, hb1⟩
      obtain ⟨q0, q1, q2, _⟩ := (Q1.out.below hb1 (by omega)).all3
      have T2 : Hid (BX 27 w1 (w.heap.size + 2) #[.int .i64 0, .int .i64 0, .slice none 0 0]) := T1.out.below hb1 (by omega)
      have HX : Hid (P (.returned (.tuple #[.agg #[.int .i64 0, .int .i64 0, .slice none 0 0], .int .i64 10])) (put3 w1 (w.heap.size + 2) (.int .i64 0) (.int .i64 0) (.slice none 0 0))) := HE.out _ (below_put3 (BH.out.trans (hb1.mono (by omega))) (by omega) _ _ _)
      have RX : Hid (BX 27 (put3 w1 (w.heap.size + 2) (.int .i64 0) (.int .i64 0) (.slice none 0 0)) (w.heap.size + 2) #[.int .i64 0, .int .i64 0, .slice none 0 0]) := T2.out.put3 _ _ _
      obtain ⟨t0, t1, t2, t3, t4, t5⟩ := T2.out.all3
      clear hb1
      go_wp2_with fail
      obtain ⟨r0, r1, r2, _⟩ := RX.out.all3
      unfold put3 at r0 r1 r2
      exact bodyPost_ret (v := .tuple #[.agg #[.int .i64 0, .int .i64 0, .slice none 0 0], .int .i64 10]) (by simp [results, Try.results10, go_sem, r0, r1, r2]) rfl HX.out
    · have hE : sendE e b l.length = 0 := by unfold sendE; rw [hm, if_neg hf]; rfl
      have HE : Hid (∀ v w', w'.ownsRow w.heap.size 41 2 v (l ++ [m]).length ((l ++ [m]).flatMap encM) → Below w.heap.size w w' → SndP w (sendE e b l.length) e b (l ++ [m]) (.returned (.tuple #[.agg #[.int .i64 e, .int .i64 b, v], .int .i64 0])) w') := fun v w' h1 hw => by rw [hE]; exact SndP.yes h1 hw
      generalize SndP w (sendE e b l.length) e b (l ++ [m]) = P at *
      have hq : ((l.length : Int) == 5000) = false := by simp; omega
      have C2 : Hid (∀ X, MlR X (.slice a l.length cap) l → Calls Try.prog 16 #[.agg #[.int .i64 e, .int .i64 b, .slice a l.length cap], .int .i64 0] X (SndO X e b l)) := fun X hX => by
        have := behind_any e b 0 (.slice a l.length cap) l X hX h5 (Nat.zero_le _) hb.1 hb.2
        simpa using this
      clear hE hm
      go_enter Try.func10, Try.ntmps10
      go_upto_region 1 with fail
      obtain ⟨Q0, M0, T0, B0, s1, s2⟩ := boxes3 w #[.int .i64 e, .int .i64 b, .slice a l.length cap] #[.int .i64 m.1, .int .i64 m.2] #[.int .i64 0, .int .i64 0, .slice none 0 0] 27 41 27 _ rfl
      generalize ((w.alloc (.cells #[.int .i64 e, .int .i64 b, .slice a l.length cap] 27)).alloc (.cells #[.int .i64 m.1, .int .i64 m.2] 41)).alloc (.cells #[.int .i64 0, .int .i64 0, .slice none 0 0] 27) = W0 at *
      have T1 : Hid (BX 27 W0 (w.heap.size + 2) #[.int .i64 0, .int .i64 0, .slice none 0 0]) := T0
      have BH : Hid (Below w.heap.size w W0) := B0
      obtain ⟨q0, q1, q2, _⟩ := Q0.all3
      have Q1 : Hid (BX 27 W0 w.heap.size #[.int .i64 e, .int .i64 b, .slice a l.length cap]) := Q0
      have M1 : Hid (BX 41 W0 (w.heap.size + 1) #[.int .i64 m.1, .int .i64 m.2]) := M0
      clear Q0 M0 T0 B0
      go_wp2_with fail
      refine (C1 _).mono ?_
      rintro E w1 ⟨rfl, hb1⟩
      have hs1 := hb1.size
      obtain ⟨q0, q1, q2, _⟩ := (Q1.out.below hb1 (by omega)).all3
      have B1 : Hid (Below W0.heap.size W0 w1) := hb1
      clear hb1
      go_wp2_with fail
      refine (C2.out _ (HR.out.below (BH.out.trans (B1.out.mono (by omega))) (Nat.le_refl _))).mono ?_
      rintro E w2 ⟨v2, rfl, ho2, hb2⟩
      have hs2 := hb2.size
      have B2 : Hid (Below W0.heap.size W0 w2) := B1.out.trans (hb2.mono hs1)
      have O2 : Hid (w2.ownsRow W0.heap.size 41 2 v2 l.length (l.flatMap encM)) := own_lower ho2 hs1
      obtain ⟨ya, yc, rfl⟩ := (MlR.ownd O2.out).shape
      clear ho2 hb2 q0 q1 q2
      go_upto_region 6 with fail
      have N1 : BX 27 (w2.alloc (.cells #[.int .i64 e, .int .i64 b, .slice ya l.length yc] 27)) w2.heap.size #[.int .i64 e, .int .i64 b, .slice ya l.length yc] := BX.new _ _ _
      have b3 : Below W0.heap.size W0 (w2.alloc (.cells #[.int .i64 e, .int .i64 b, .slice ya l.length yc] 27)) := B2.out.alloc (by omega) _
      have o3 : (w2.alloc (.cells #[.int .i64 e, .int .i64 b, .slice ya l.length yc] 27)).ownsRow W0.heap.size 41 2 (.slice ya l.length yc) l.length (l.flatMap encM) := O2.out.alloc _
      generalize w2.alloc (.cells #[.int .i64 e, .int .i64 b, .slice ya l.length yc] 27) = W3 at *
      have N3 : Hid (BX 27 W3 w2.heap.size #[.int .i64 e, .int .i64 b, .slice ya l.length yc]) := N1
      have B3 : Hid (Below W0.heap.size W0 W3) := b3
      have O3 : Hid (W3.ownsRow W0.heap.size 41 2 (.slice ya l.length yc) l.length (l.flatMap encM)) := o3
      have hs3 := N1.lt
      obtain ⟨n0, n1, n2, n3, n4, n5⟩ := N1.all3
      obtain ⟨m0, m1, _⟩ := (M1.out.below b3 (by omega)).all2
      clear N1 b3 o3 O2 B2
      go_wp2_with (at_builtin; refine wpList_append_newK kM rfl _ _ rfl W0.heap.size _ l rfl (O3.out.alloc _) W3.heap.size m rfl #[.int .i64 m.1, .int .i64 m.2] rfl (0, 0) (heap_alloc_new _ _) ?d1 ?d2 ?d3 ?_)
      case d1 => simp [kM]; omega
      case d2 => unfold maxLen; omega
      case d3 => simp; omega
      intro g gc w4 ho4 hb4 hg4
      have A4 : Below W0.heap.size W0 (W3.alloc (.cells #[.int .i64 m.1, .int .i64 m.2] 41)) := B3.out.alloc (by omega) _
      have N4 : Hid (BX 27 w4 w2.heap.size #[.int .i64 e, .int .i64 b, .slice ya l.length yc]) := (N3.out.below (below_alloc _ _) hs3).grown (O3.out.alloc _) (by decide) hg4
      have B4 : Hid (Below W0.heap.size W0 w4) := A4.trans hb4
      have O4 : Hid (w4.ownsRow W0.heap.size 41 2 (.slice (some ⟨g, 0, none⟩) (l.length + 1) gc) (l ++ [m]).length ((l ++ [m]).flatMap encM)) := by
        show World.ownsRow _ _ _ _ _ _ _
        rw [List.length_append, flat_snoc]
        exact ho4
      clear ho4 hb4 hg4 A4 n0 n1 n2 n3 n4 n5 m0 m1
      generalize l.length + 1 = t9 at *
      obtain ⟨n0, n1, n2, n3, n4, n5⟩ := N4.out.all3
      have A5 : Hid (BX 27 (w4.setCell ⟨w2.heap.size, 2, none⟩ (.slice (some ⟨g, 0, none⟩) t9 gc)) w2.heap.size #[.int .i64 e, .int .i64 b, .slice (some ⟨g, 0, none⟩) t9 gc]) := N4.out.set 2 _
      have O5 : Hid ((w4.setCell ⟨w2.heap.size, 2, none⟩ (.slice (some ⟨g, 0, none⟩) t9 gc)).ownsRow W0.heap.size 41 2 (.slice (some ⟨g, 0, none⟩) t9 gc) (l ++ [m]).length ((l ++ [m]).flatMap encM)) := N4.out.own O4.out (by decide)
      have B5 : Hid (Below W0.heap.size W0 (w4.setCell ⟨w2.heap.size, 2, none⟩ (.slice (some ⟨g, 0, none⟩) t9 gc))) := B4.out.setCell (p := ⟨w2.heap.size, 2, none⟩) (show W0.heap.size ≤ w2.heap.size by omega) _
      go_upto_region 7 with fail
      clear n0 n1 n2 n3 n4 n5 N4 O4 B4
      generalize w4.setCell ⟨w2.heap.size, 2, none⟩ (.slice (some ⟨g, 0, none⟩) t9 gc) = V at *
      have Z5 : Hid (BX 27 V (w.heap.size + 2) #[.int .i64 0, .int .i64 0, .slice none 0 0]) := T1.out.below B5.out (by omega)
      obtain ⟨a0, a1, a2, _⟩ := A5.out.all3
      obtain ⟨z0, z1, z2, z3, z4, z5⟩ := Z5.out.all3
      have HX : Hid (P (.returned (.tuple #[.agg #[.int .i64 e, .int .i64 b, .slice (some ⟨g, 0, none⟩) t9 gc], .int .i64 0])) (put3 V (w.heap.size + 2) (.int .i64 e) (.int .i64 b) (.slice (some ⟨g, 0, none⟩) t9 gc))) := HE.out _ _ (own_lower (Z5.out.own3 O5.out (by decide)) (by omega)) (below_put3 (BH.out.trans (B5.out.mono (by omega))) (by omega) _ _ _)
      have RX : Hid (BX 27 (put3 V (w.heap.size + 2) (.int .i64 e) (.int .i64 b) (.slice (some ⟨g, 0, none⟩) t9 gc)) (w.heap.size + 2) #[.int .i64 e, .int .i64 b, .slice (some ⟨g, 0, none⟩) t9 gc]) := Z5.out.put3 _ _ _
      go_wp2_with fail
      obtain ⟨r0, r1, r2, _⟩ := RX.out.all3
      unfold put3 at r0 r1 r2
      exact bodyPost_ret (v := .tuple #[.agg #[.int .i64 e, .int .i64 b, .slice (some ⟨g, 0, none⟩) t9 gc], .int .i64 0]) (by simp [results, Try.results10, go_sem, r0, r1, r2]) rfl HX.out
end Go.Proofs.Ytjmjpmnjibdhhab
