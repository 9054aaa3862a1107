/-
  Contract of the law's tasks: a copy.
-/
import Derived.Test.YtinijeejfnehmaaJobCopy
import Derived.Deep.CutRange
namespace Go.Proofs.Ytinijeejfnehmaa
set_option maxRecDepth 100000
open Go.ChangeShapes Go.WideShapes Go.ChangeAt Go.RowKit

set_option maxHeartbeats 2000000 in
set_option maxRecDepth 100000 in
theorem tasks_any (v : Value) (es : List Ed) (n k s wk ev bu : Int) (w : World) (h : EdR w v es) (hl : es.length * 24 ≤ 140737488351232) :
    Calls Try.prog 6 #[.agg #[.int .i64 n, v, .int .i64 k, .int .i64 s, .int .i64 wk, .int .i64 ev, .int .i64 bu]] w fun e w' => ∃ v', e = .returned (.agg #[.int .i64 n, v', .int .i64 k, .int .i64 s, .int .i64 wk, .int .i64 ev, .int .i64 bu]) ∧ EdR w' v' es ∧ Below w.heap.size w w' := by
  have HR : Hid (EdR w v es) := h
  obtain ⟨a, cap, rfl⟩ := h.shape
  clear h
  have CG : Hid (∀ X, EdR X (.slice a es.length cap) es → Calls Try.prog 12 #[.agg #[.int .i64 n, .slice a es.length cap, .int .i64 k, .int .i64 s]] X fun e w' => ∃ v', e = .returned (.agg #[.int .i64 n, v', .int .i64 k, .int .i64 s]) ∧ w'.ownsRow X.heap.size 61 3 v' es.length (es.flatMap encE) ∧ Below X.heap.size X w') := fun X hX => jobs_own _ es n k s X hX hl
  obtain ⟨W0, hW0⟩ : ∃ W0, W0 = (w.alloc (.cells #[.int .i64 n, .slice a es.length cap, .int .i64 k, .int .i64 s, .int .i64 wk, .int .i64 ev, .int .i64 bu] 28)).alloc (.cells #[.int .i64 0, .slice none 0 0, .int .i64 0, .int .i64 0, .int .i64 0, .int .i64 0, .int .i64 0] 28) := ⟨_, rfl⟩
  obtain ⟨Q0, T0, B0, s1, s2⟩ := boxes2 w #[.int .i64 n, .slice a es.length cap, .int .i64 k, .int .i64 s, .int .i64 wk, .int .i64 ev, .int .i64 bu] #[.int .i64 0, .slice none 0 0, .int .i64 0, .int .i64 0, .int .i64 0, .int .i64 0, .int .i64 0] 28 28 W0 hW0
  have BH : Hid (Below w.heap.size w W0) := B0
  have R0 : Hid (EdR W0 (.slice a es.length cap) es) := HR.out.below BH.out (Nat.le_refl _)
  have X0 : Hid (BX 28 W0 w.heap.size #[.int .i64 n, .slice a es.length cap, .int .i64 k, .int .i64 s, .int .i64 wk, .int .i64 ev, .int .i64 bu]) := Q0
  have Z0 : Hid (BX 28 W0 (w.heap.size + 1) #[.int .i64 0, .slice none 0 0, .int .i64 0, .int .i64 0, .int .i64 0, .int .i64 0, .int .i64 0]) := T0
  have H7 : Hid (∀ X q (c0 c1 c2 c3 c4 c5 c6 : Value), BX 28 X q #[c0, c1, c2, c3, c4, c5, c6] → (X.cell? ⟨q, 0, none⟩ = some c0 ∧ X.cell? ⟨q, 1, none⟩ = some c1 ∧ X.cell? ⟨q, 2, none⟩ = some c2 ∧ X.cell? ⟨q, 3, none⟩ = some c3 ∧ X.cell? ⟨q, 4, none⟩ = some c4 ∧ X.cell? ⟨q, 5, none⟩ = some c5 ∧ X.cell? ⟨q, 6, none⟩ = some c6) ∧ X.frozen? ⟨q, 0, none⟩ = false ∧ X.frozen? ⟨q, 1, none⟩ = false ∧ X.frozen? ⟨q, 2, none⟩ = false ∧ X.frozen? ⟨q, 3, none⟩ = false ∧ X.frozen? ⟨q, 4, none⟩ = false ∧ X.frozen? ⟨q, 5, none⟩ = false ∧ X.frozen? ⟨q, 6, none⟩ = false) := fun X q c0 c1 c2 c3 c4 c5 c6 h => ⟨⟨h.cell 0, h.cell 1, h.cell 2, h.cell 3, h.cell 4, h.cell 5, h.cell 6⟩, h.frozen 0, h.frozen 1, h.frozen 2, h.frozen 3, h.frozen 4, h.frozen 5, h.frozen 6⟩
  obtain ⟨⟨q0, q1, q2, q3, q4, q5, q6⟩, _⟩ := H7.out _ _ _ _ _ _ _ _ _ Q0
  clear Q0 T0 B0
  go_enter Try.func6, Try.ntmps6
  go_upto_region 1 with fail
  rw [← hW0]
  clear hW0
  go_wp2_with fail
  refine (CG.out _ R0.out).mono ?_
  rintro e w1 ⟨v', rfl, hr, hb1⟩
  obtain ⟨b, nb, c, rfl⟩ : ∃ a n c, v' = .slice a n c := by
    rcases own_shapeK hr with ⟨e, _⟩ | ⟨g', c', e, _⟩
    · exact ⟨_, _, _, e⟩
    · exact ⟨_, _, _, e⟩
  have x1 := X0.out.below hb1 (by omega)
  have z1 := Z0.out.below hb1 (by omega)
  have ks : ∀ (X : World) (q i : Nat) (u : Value) (cs : Array Value), BX 28 X q cs → X.ownsRow W0.heap.size 61 3 (.slice b nb c) es.length (es.flatMap encE) → (X.setCell ⟨q, i, none⟩ u).ownsRow W0.heap.size 61 3 (.slice b nb c) es.length (es.flatMap encE) := fun X q i u cs hq ho => hq.own ho (by decide)
  obtain ⟨⟨p0, p1, p2, p3, p4, p5, p6⟩, g0, g1, g2, g3, g4, g5, g6⟩ := H7.out _ _ _ _ _ _ _ _ _ x1
  have x2 := x1.set 0 (.int .i64 n)
  have x3 := x2.set 1 (.slice b nb c)
  have x4 := x3.set 2 (.int .i64 k)
  have x5 := x4.set 3 (.int .i64 s)
  have o1 := ks _ _ 0 (.int .i64 n) _ x1 hr
  have o2 := ks _ _ 1 (.slice b nb c) _ x2 o1
  have o3 := ks _ _ 2 (.int .i64 k) _ x3 o2
  have o4 := ks _ _ 3 (.int .i64 s) _ x4 o3
  have kp := (((Kept.box w1 w.heap.size 0 (.int .i64 n)).trans (Kept.box _ _ 1 (.slice b nb c))).trans (Kept.box _ _ 2 (.int .i64 k))).trans (Kept.box _ _ 3 (.int .i64 s))
  have z2 := z1.kept kp (by omega)
  have z3 := z2.set 0 (.int .i64 n)
  have z4 := z3.set 1 (.slice b nb c)
  have z5 := z4.set 2 (.int .i64 k)
  have z6 := z5.set 3 (.int .i64 s)
  have z7 := z6.set 4 (.int .i64 wk)
  have z8 := z7.set 5 (.int .i64 ev)
  have z9 := z8.set 6 (.int .i64 bu)
  have o5 := ks _ _ 0 (.int .i64 n) _ z2 o4
  have o6 := ks _ _ 1 (.slice b nb c) _ z3 o5
  have o7 := ks _ _ 2 (.int .i64 k) _ z4 o6
  have o8 := ks _ _ 3 (.int .i64 s) _ z5 o7
  have o9 := ks _ _ 4 (.int .i64 wk) _ z6 o8
  have oa := ks _ _ 5 (.int .i64 ev) _ z7 o9
  have ob := ks _ _ 6 (.int .i64 bu) _ z8 oa
  have kq := (((((((Kept.box ((((w1.setCell ⟨w.heap.size, 0, none⟩ (.int .i64 n)).setCell ⟨w.heap.size, 1, none⟩ (.slice b nb c)).setCell ⟨w.heap.size, 2, none⟩ (.int .i64 k)).setCell ⟨w.heap.size, 3, none⟩ (.int .i64 s)) (w.heap.size + 1) 0 (.int .i64 n)).trans (Kept.box _ _ 1 (.slice b nb c))).trans (Kept.box _ _ 2 (.int .i64 k))).trans (Kept.box _ _ 3 (.int .i64 s))).trans (Kept.box _ _ 4 (.int .i64 wk))).trans (Kept.box _ _ 5 (.int .i64 ev))).trans (Kept.box _ _ 6 (.int .i64 bu)))
  have hs1 := hb1.size
  have ka := (kp.mono (T := fun q => q = w.heap.size ∨ q = w.heap.size + 1) fun q hq => .inl hq).trans (kq.mono fun q hq => .inr hq)
  have BE : Hid (Below w.heap.size w _) := (BH.out.trans (hb1.mono (by omega))).trans (ka.below (by omega) (fun q hq => by omega))
  have RE : Hid (EdR _ (.slice b nb c) es) := RowK.own encE_len ob
  have RX : Hid (BX 28 _ (w.heap.size + 1) #[.int .i64 n, .slice b nb c, .int .i64 k, .int .i64 s, .int .i64 wk, .int .i64 ev, .int .i64 bu]) := z9
  obtain ⟨⟨y0, y1, y2, y3, y4, y5, y6⟩, _⟩ := H7.out _ _ _ _ _ _ _ _ _ (show BX 28 _ w.heap.size #[.int .i64 n, .slice b nb c, .int .i64 k, .int .i64 s, .int .i64 wk, .int .i64 ev, .int .i64 bu] from x5)
  obtain ⟨⟨r0, r1, r2, r3, r4, r5, r6⟩, t0, t1, t2, t3, t4, t5, t6⟩ := H7.out _ _ _ _ _ _ _ _ _ z2
  clear ks x1 z1 x2 x3 x4 x5 o1 o2 o3 o4 kp z2 z3 z4 z5 z6 z7 z8 z9 o5 o6 o7 o8 o9 oa ob kq ka hb1
  clear hr q0 q1 q2 q3 q4 q5 q6
  go_wp2_with fail
  obtain ⟨⟨m0, m1, m2, m3, m4, m5, m6⟩, _⟩ := H7.out _ _ _ _ _ _ _ _ _ RX.out
  exact bodyPost_ret (v := .agg #[.int .i64 n, .slice b nb c, .int .i64 k, .int .i64 s, .int .i64 wk, .int .i64 ev, .int .i64 bu]) (by simp [results, Try.results6, go_sem, m0, m1, m2, m3, m4, m5, m6]) rfl ⟨_, rfl, RE.out, BE.out⟩
end Go.Proofs.Ytinijeejfnehmaa
