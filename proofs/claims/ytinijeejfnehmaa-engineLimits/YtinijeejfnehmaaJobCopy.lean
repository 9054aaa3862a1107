/-
  Contract of the law's jobs: a copy.
-/
import Derived.Test.YtinijeejfnehmaaGraphCopy
import Derived.Test.YtinijeejfnehmaaBoxMem
import Derived.Deep.CutRange
namespace Go.Proofs.Ytinijeejfnehmaa
set_option maxRecDepth 100000
open Go.ChangeShapes Go.WideShapes Go.ChangeAt Go.RowKit

set_option maxHeartbeats 1000000 in
set_option maxRecDepth 100000 in
theorem jobs_own (v : Value) (es : List Ed) (n k s : Int) (w : World) (h : EdR w v es) (hl : es.length * 24 ≤ 140737488351232) :
    Calls Try.prog 12 #[.agg #[.int .i64 n, v, .int .i64 k, .int .i64 s]] w fun e w' => ∃ v', e = .returned (.agg #[.int .i64 n, v', .int .i64 k, .int .i64 s]) ∧ w'.ownsRow w.heap.size 61 3 v' es.length (es.flatMap encE) ∧ Below w.heap.size w w' := by
  have HR : Hid (EdR w v es) := h
  obtain ⟨a, cap, rfl, _, _, _, _⟩ := h
  have CG : Hid (∀ X, EdR X (.slice a es.length cap) es → Calls Try.prog 21 #[.agg #[.int .i64 n, .slice a es.length cap]] X fun e w' => ∃ v', e = .returned (.agg #[.int .i64 n, v']) ∧ w'.ownsRow X.heap.size 61 3 v' es.length (es.flatMap encE) ∧ Below X.heap.size X w') := fun X hX => graphs_own _ es n X hX hl
  obtain ⟨W0, hW0⟩ : ∃ W0, W0 = (w.alloc (.cells #[.int .i64 n, .slice a es.length cap, .int .i64 k, .int .i64 s] 26)).alloc (.cells #[.int .i64 0, .slice none 0 0, .int .i64 0, .int .i64 0] 26) := ⟨_, rfl⟩
  obtain ⟨Q0, T0, B0, s1, s2⟩ := boxes2 w #[.int .i64 n, .slice a es.length cap, .int .i64 k, .int .i64 s] #[.int .i64 0, .slice none 0 0, .int .i64 0, .int .i64 0] 26 26 W0 hW0
  have BH : Hid (Below w.heap.size w W0) := B0
  have R0 : Hid (EdR W0 (.slice a es.length cap) es) := HR.out.below BH.out (Nat.le_refl _)
  have X0 : Hid (BX 26 W0 w.heap.size #[.int .i64 n, .slice a es.length cap, .int .i64 k, .int .i64 s]) := Q0
  have Z0 : Hid (BX 26 W0 (w.heap.size + 1) #[.int .i64 0, .slice none 0 0, .int .i64 0, .int .i64 0]) := T0
  obtain ⟨q0, q1, q2, q3⟩ := Q0.all4
  clear Q0 T0 B0
  go_enter Try.func12, Try.ntmps12
  go_upto_region 1 with fail
  rw [← hW0]
  clear hW0
  go_wp2_with fail
  refine (CG.out _ R0.out).mono ?_
  rintro e w1 ⟨v', rfl, hr, hb1⟩
  obtain ⟨b, nb, c, rfl⟩ : ∃ a n c, v' = .slice a n c := by
    rcases own_shapeK hr with ⟨e, _⟩ | ⟨g', c', e, _⟩
    · exact ⟨_, _, _, e⟩
    · exact ⟨_, _, _, e⟩
  have x1 := X0.out.below hb1 (by omega)
  have z1 := Z0.out.below hb1 (by omega)
  have g0 := x1.frozen 0
  have g1 := x1.frozen 1
  obtain ⟨p0, p1, p2, p3⟩ := x1.all4
  have ks : ∀ (X : World) (q i : Nat) (u : Value) (cs : Array Value), BX 26 X q cs → X.ownsRow W0.heap.size 61 3 (.slice b nb c) es.length (es.flatMap encE) → (X.setCell ⟨q, i, none⟩ u).ownsRow W0.heap.size 61 3 (.slice b nb c) es.length (es.flatMap encE) := fun X q i u cs hq ho => hq.own ho (by decide)
  have x2a := x1.set 0 (.int .i64 n)
  have x2 := x2a.set 1 (.slice b nb c)
  have o1 := ks _ _ 0 (.int .i64 n) _ x1 hr
  have o2 := ks _ _ 1 (.slice b nb c) _ x2a o1
  have kp : Kept (fun q => q = w.heap.size) w1 ((w1.setCell ⟨w.heap.size, 0, none⟩ (.int .i64 n)).setCell ⟨w.heap.size, 1, none⟩ (.slice b nb c)) := (Kept.box _ _ _ _).trans (Kept.box _ _ _ _)
  have z2 := z1.kept kp (by omega)
  have z3 := z2.set 0 (.int .i64 n)
  have z4 := z3.set 1 (.slice b nb c)
  have z5 := z4.set 2 (.int .i64 k)
  have z6 := z5.set 3 (.int .i64 s)
  have o3 := ks _ _ 0 (.int .i64 n) _ z2 o2
  have o4 := ks _ _ 1 (.slice b nb c) _ z3 o3
  have o5 := ks _ _ 2 (.int .i64 k) _ z4 o4
  have o6 := ks _ _ 3 (.int .i64 s) _ z5 o5
  have kq := ((((Kept.box ((w1.setCell ⟨w.heap.size, 0, none⟩ (.int .i64 n)).setCell ⟨w.heap.size, 1, none⟩ (.slice b nb c)) (w.heap.size + 1) 0 (.int .i64 n)).trans (Kept.box _ _ 1 (.slice b nb c))).trans (Kept.box _ _ 2 (.int .i64 k))).trans (Kept.box _ _ 3 (.int .i64 s)))
  have hs1 := hb1.size
  have ka := (kp.mono (T := fun q => q = w.heap.size ∨ q = w.heap.size + 1) fun q hq => .inl hq).trans (kq.mono fun q hq => .inr hq)
  have BE : Hid (Below w.heap.size w _) := (BH.out.trans (hb1.mono (by omega))).trans (ka.below (by omega) (fun q hq => by omega))
  have RE : Hid (World.ownsRow _ w.heap.size 61 3 (.slice b nb c) es.length (es.flatMap encE)) := own_lower o6 (by omega)
  have RX : Hid (BX 26 _ (w.heap.size + 1) #[.int .i64 n, .slice b nb c, .int .i64 k, .int .i64 s]) := z6
  obtain ⟨y0, y1, y2, y3⟩ := (show BX 26 _ w.heap.size #[.int .i64 n, .slice b nb c, .int .i64 k, .int .i64 s] from x2).all4
  obtain ⟨r0, r1, r2, r3⟩ := z2.all4
  have t0 := z2.frozen 0
  have t1 := z2.frozen 1
  have t2 := z2.frozen 2
  have t3 := z2.frozen 3
  clear ks x1 z1 x2a x2 o1 o2 kp z2 z3 z4 z5 z6 o3 o4 o5 o6 kq ka hb1
  clear hr
  go_wp2_with fail
  obtain ⟨m0, m1, m2, m3⟩ := RX.out.all4
  exact bodyPost_ret (v := .agg #[.int .i64 n, .slice b nb c, .int .i64 k, .int .i64 s]) (by simp [results, Try.results12, go_sem, m0, m1, m2, m3]) rfl ⟨_, rfl, RE.out, BE.out⟩
theorem jobs_any (v : Value) (es : List Ed) (n k s : Int) (w : World) (h : EdR w v es) (hl : es.length * 24 ≤ 140737488351232) :
    Calls Try.prog 12 #[.agg #[.int .i64 n, v, .int .i64 k, .int .i64 s]] w fun e w' => ∃ v', e = .returned (.agg #[.int .i64 n, v', .int .i64 k, .int .i64 s]) ∧ EdR w' v' es ∧ Below w.heap.size w w' :=
  (jobs_own v es n k s w h hl).mono fun _ _ ⟨v', e1, ho, hb⟩ => ⟨v', e1, RowK.own encE_len ho, hb⟩
end Go.Proofs.Ytinijeejfnehmaa
