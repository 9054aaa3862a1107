/-
  Contract of rounds.wake.
-/
import Derived.Test.YtbmkgnlfccigpabProgFace
import Derived.Test.YtbmkgnlfccigpabMayMath
import Derived.Test.YtbmkgnlfccigpabStaMem
import Derived.Test.YtbmkgnlfccigpabRegionCall
import Derived.Deep.CutRange
namespace Go.Proofs.Ytbmkgnlfccigpab
set_option maxRecDepth 100000
open Go.ChangeShapes Go.WideShapes Go.ChangeAt Go.RowKit

set_option maxHeartbeats 2000000 in
set_option maxRecDepth 100000 in
theorem rWake_any (ev : Value) (n k s : Int) (T : StS) (vv vm : Value) (i : Nat) (x : Ml) (l : List Int) (w : World) (hev : ∃ a b c, ev = .slice a b c) (hv : MlR w vv T.vals) (hm : LiR w vm T.mail) (hx : T.vals[i]? = some x) (hl : T.mail[i]? = some l) :
    Calls Try.prog 35 #[.agg #[.int .i64 n, ev, .int .i64 k, .int .i64 s], .agg #[.int .i64 T.step, .int .i64 T.phase, .bool T.fresh, .bool T.done, vv, vm], .int .i64 (i : Int)] w (WakP w (wakeF k (i : Int) s x T.phase T.fresh l)) := by
  obtain ⟨ea, en, ec, rfl⟩ := hev
  have hiv : i < T.vals.length := (List.getElem?_eq_some_iff.1 hx).1
  have him : i < T.mail.length := (List.getElem?_eq_some_iff.1 hl).1
  obtain ⟨bv, ov, cv, rfl, ltv, hcv⟩ := MlR.read hv (by omega)
  obtain ⟨bm, om, cm, rfl, ltm, hc1, hc2, hcm⟩ := hm.at (by omega)
  obtain ⟨y0, y1⟩ := hcv i x hx
  obtain ⟨u, hu, hur⟩ := hcm i l hl
  obtain ⟨_, _, _, _, hmv, _⟩ := hv
  have UR : Hid (InR w u l) := hur
  obtain ⟨ua, uc, rfl, _⟩ := hur
  have WC0 : Hid (∀ X, InR X (.slice ua l.length uc) l → Calls Try.prog 11 #[.int .i64 k, .int .i64 (i : Int), .int .i64 s, .agg #[.int .i64 x.1, .int .i64 x.2], .int .i64 T.phase, .bool T.fresh, .slice ua l.length uc] X (WakP X (wakeF k (i : Int) s x T.phase T.fresh l))) := fun X hX => wake_any k (i : Int) s x T.phase T.fresh l _ X hX
  generalize wakeF k (i : Int) s x T.phase T.fresh l = r at *
  obtain ⟨u, hu0⟩ : ∃ u, u = Value.slice ua l.length uc := ⟨_, rfl⟩
  rw [← hu0] at WC0 UR hu
  have hob : u.oneCell' = true := by rw [hu0]; rfl
  obtain ⟨W0, hW0⟩ : ∃ W0, W0 = ((w.alloc (.cells #[.int .i64 n, .slice ea en ec, .int .i64 k, .int .i64 s] 27)).alloc (.cells #[.int .i64 T.step, .int .i64 T.phase, .bool T.fresh, .bool T.done, .slice (some ⟨bv, ov, none⟩) T.vals.length cv, .slice (some ⟨bm, om, none⟩) T.mail.length cm] 34)).alloc (.cells #[.int .i64 0, .int .i64 0] 44) := ⟨_, rfl⟩
  obtain ⟨Q0, T0, Z1, B0, s1, s2⟩ := boxes3 w #[.int .i64 n, .slice ea en ec, .int .i64 k, .int .i64 s] #[.int .i64 T.step, .int .i64 T.phase, .bool T.fresh, .bool T.done, .slice (some ⟨bv, ov, none⟩) T.vals.length cv, .slice (some ⟨bm, om, none⟩) T.mail.length cm] #[.int .i64 0, .int .i64 0] 27 34 44 W0 hW0
  have BH : Hid (Below w.heap.size w W0) := B0
  have Z0 : Hid (BX 44 W0 (w.heap.size + 2) #[.int .i64 0, .int .i64 0]) := Z1
  have WC : Hid (∀ X, Below W0.heap.size W0 X → Calls Try.prog 11 #[.int .i64 k, .int .i64 (i : Int), .int .i64 s, .agg #[.int .i64 x.1, .int .i64 x.2], .int .i64 T.phase, .bool T.fresh, u] X fun e w' => ∃ v, e = .returned v ∧ (v = .tuple #[.agg #[.int .i64 r.x.1, .int .i64 r.x.2], .bool r.b, .int .i64 r.f] ∧ Below X.heap.size X w')) := fun X hX => (WC0.out X (UR.out.below (BH.out.trans (hX.mono (by omega))) (Nat.le_refl _))).mono fun e w' h => ⟨_, h.1, rfl, h.2⟩
  have KEEP : Hid (∀ V, Kept (fun k => k = w.heap.size + 2) W0 V → (V.cell? ⟨w.heap.size, 2, none⟩ = some (.int .i64 k) ∧ V.cell? ⟨w.heap.size, 3, none⟩ = some (.int .i64 s) ∧ V.cell? ⟨w.heap.size + 1, 1, none⟩ = some (.int .i64 T.phase) ∧ V.cell? ⟨w.heap.size + 1, 2, none⟩ = some (.bool T.fresh) ∧ V.cell? ⟨w.heap.size + 1, 4, none⟩ = some (.slice (some ⟨bv, ov, none⟩) T.vals.length cv) ∧ V.cell? ⟨w.heap.size + 1, 5, none⟩ = some (.slice (some ⟨bm, om, none⟩) T.mail.length cm) ∧ V.cell? ⟨bv, ov + i * 2, none⟩ = some (.int .i64 x.1) ∧ V.cell? ⟨bv, ov + i * 2 + 1, none⟩ = some (.int .i64 x.2) ∧ V.cell? ⟨bm, om + i, none⟩ = some u)) := fun V hV => by
    have j1 := Q0.kept hV (by omega)
    have j2 := T0.kept hV (by omega)
    obtain ⟨q0, q1, q2, q3⟩ := j1.all4
    obtain ⟨⟨c0, c1, c2, c3, c4, c5⟩, _⟩ := j2.all6
    have cc : ∀ (b o : Nat) (z : Value), b < w.heap.size → w.cell? ⟨b, o, none⟩ = some z → V.cell? ⟨b, o, none⟩ = some z := fun b o z hb hz => by
      rw [hV.cell (p := ⟨b, o, none⟩) (show b < W0.heap.size by omega) (show ¬ b = w.heap.size + 2 by omega), BH.out.cell (p := ⟨b, o, none⟩) hb]; exact hz
    exact ⟨q2, q3, c1, c2, c4, c5, cc _ _ _ ltv y0, cc _ _ _ ltv y1, cc _ _ _ ltm hu⟩
  have ew : ∀ args w, (callFunc 11 args).run Try.prog w = .ok (.enter 11 args) w := enters_of Try.func11 (by kernel_rfl) rfl
  have HS0 : Hid (W0.drew.cell? ⟨w.heap.size, 2, none⟩ = some (.int .i64 k) ∧ W0.drew.cell? ⟨w.heap.size, 3, none⟩ = some (.int .i64 s) ∧ W0.drew.cell? ⟨w.heap.size + 1, 1, none⟩ = some (.int .i64 T.phase) ∧ W0.drew.cell? ⟨w.heap.size + 1, 2, none⟩ = some (.bool T.fresh) ∧ W0.drew.cell? ⟨w.heap.size + 1, 4, none⟩ = some (.slice (some ⟨bv, ov, none⟩) T.vals.length cv) ∧ W0.drew.cell? ⟨w.heap.size + 1, 5, none⟩ = some (.slice (some ⟨bm, om, none⟩) T.mail.length cm) ∧ W0.drew.cell? ⟨bv, ov + i * 2, none⟩ = some (.int .i64 x.1) ∧ W0.drew.cell? ⟨bv, ov + i * 2 + 1, none⟩ = some (.int .i64 x.2) ∧ W0.drew.cell? ⟨bm, om + i, none⟩ = some u) := KEEP.out W0.drew (Kept.refl _ _).drew
  have p0 : (0 : Int) ≤ (i : Int) := by omega
  have p1 : (i : Int) < (T.vals.length : Int) := by omega
  have p2 : (i : Int) < (T.mail.length : Int) := by omega
  clear Q0 T0 Z1 B0 hx hl hcv hcm y0 y1 hu UR WC0
  go_enter Try.func35, Try.ntmps35
  go_upto_region 1 with fail
  rw [← hW0]
  clear hW0
  refine wp_region_held (S := fun V => (V.cell? ⟨w.heap.size, 2, none⟩ = some (.int .i64 k) ∧ V.cell? ⟨w.heap.size, 3, none⟩ = some (.int .i64 s) ∧ V.cell? ⟨w.heap.size + 1, 1, none⟩ = some (.int .i64 T.phase) ∧ V.cell? ⟨w.heap.size + 1, 2, none⟩ = some (.bool T.fresh) ∧ V.cell? ⟨w.heap.size + 1, 4, none⟩ = some (.slice (some ⟨bv, ov, none⟩) T.vals.length cv) ∧ V.cell? ⟨w.heap.size + 1, 5, none⟩ = some (.slice (some ⟨bm, om, none⟩) T.mail.length cm) ∧ V.cell? ⟨bv, ov + i * 2, none⟩ = some (.int .i64 x.1) ∧ V.cell? ⟨bv, ov + i * 2 + 1, none⟩ = some (.int .i64 x.2) ∧ V.cell? ⟨bm, om + i, none⟩ = some u)) (by kernel_rfl) ?_
  simp only [List.size_toArray, List.length_cons, List.length_nil, Nat.reduceAdd]
  refine takeH (i := 0) (v := .pointer (some ⟨w.heap.size, 2, none⟩)) (d := 9) rfl rfl (by kernel_rfl) (by kernel_rfl) (by kernel_rfl) (fun _ _ _ h => h) (by rfl) (fun V hV => by obtain ⟨v1, v2, v3, v4, v5, v6, v7, v8, v9⟩ := hV; go_simp) HS0.out ?_
  simp only [Act.put, List.setIfInBounds_toArray, List.set_cons_zero, List.set_cons_succ]
  refine takeH (i := 1) (v := .int .i64 k) (d := 10) rfl rfl (by kernel_rfl) (by kernel_rfl) (by kernel_rfl) (fun _ _ _ h => h) (by rfl) (fun V hV => by obtain ⟨v1, v2, v3, v4, v5, v6, v7, v8, v9⟩ := hV; go_simp) HS0.out ?_
  simp only [Act.put, List.setIfInBounds_toArray, List.set_cons_zero, List.set_cons_succ]
  refine takeH (i := 2) (v := .int .i64 (i : Int)) (d := 11) rfl rfl (by kernel_rfl) (by kernel_rfl) (by kernel_rfl) (fun _ _ _ h => h) (by rfl) (fun V hV => by obtain ⟨v1, v2, v3, v4, v5, v6, v7, v8, v9⟩ := hV; go_simp) HS0.out ?_
  simp only [Act.put, List.setIfInBounds_toArray, List.set_cons_zero, List.set_cons_succ]
  refine takeH (i := 3) (v := .pointer (some ⟨w.heap.size, 3, none⟩)) (d := 12) rfl rfl (by kernel_rfl) (by kernel_rfl) (by kernel_rfl) (fun _ _ _ h => h) (by rfl) (fun V hV => by obtain ⟨v1, v2, v3, v4, v5, v6, v7, v8, v9⟩ := hV; go_simp) HS0.out ?_
  simp only [Act.put, List.setIfInBounds_toArray, List.set_cons_zero, List.set_cons_succ]
  refine takeH (i := 4) (v := .int .i64 s) (d := 13) rfl rfl (by kernel_rfl) (by kernel_rfl) (by kernel_rfl) (fun _ _ _ h => h) (by rfl) (fun V hV => by obtain ⟨v1, v2, v3, v4, v5, v6, v7, v8, v9⟩ := hV; go_simp) HS0.out ?_
  simp only [Act.put, List.setIfInBounds_toArray, List.set_cons_zero, List.set_cons_succ]
  refine takeH (i := 5) (v := .pointer (some ⟨w.heap.size + 1, 4, none⟩)) (d := 14) rfl rfl (by kernel_rfl) (by kernel_rfl) (by kernel_rfl) (fun _ _ _ h => h) (by rfl) (fun V hV => by obtain ⟨v1, v2, v3, v4, v5, v6, v7, v8, v9⟩ := hV; go_simp) HS0.out ?_
  simp only [Act.put, List.setIfInBounds_toArray, List.set_cons_zero, List.set_cons_succ]
  refine takeH (i := 6) (v := .slice (some ⟨bv, ov, none⟩) T.vals.length cv) (d := 15) rfl rfl (by kernel_rfl) (by kernel_rfl) (by kernel_rfl) (fun _ _ _ h => h) (by rfl) (fun V hV => by obtain ⟨v1, v2, v3, v4, v5, v6, v7, v8, v9⟩ := hV; go_simp) HS0.out ?_
  simp only [Act.put, List.setIfInBounds_toArray, List.set_cons_zero, List.set_cons_succ]
  refine takeH (i := 7) (v := .int .i64 (i : Int)) (d := 16) rfl rfl (by kernel_rfl) (by kernel_rfl) (by kernel_rfl) (fun _ _ _ h => h) (by rfl) (fun V hV => by obtain ⟨v1, v2, v3, v4, v5, v6, v7, v8, v9⟩ := hV; go_simp) HS0.out ?_
  simp only [Act.put, List.setIfInBounds_toArray, List.set_cons_zero, List.set_cons_succ]
  refine takeH (i := 8) (v := .pointer (some ⟨bv, ov + i * 2, none⟩)) (d := 17) rfl rfl (by kernel_rfl) (by kernel_rfl) (by kernel_rfl) (fun _ _ _ h => h) (by rfl) (fun V hV => by obtain ⟨v1, v2, v3, v4, v5, v6, v7, v8, v9⟩ := hV; go_simp) HS0.out ?_
  simp only [Act.put, List.setIfInBounds_toArray, List.set_cons_zero, List.set_cons_succ]
  refine takeH (i := 9) (v := .agg #[.int .i64 x.1, .int .i64 x.2]) (d := 18) rfl rfl (by kernel_rfl) (by kernel_rfl) (by kernel_rfl) (fun _ _ _ h => h) (by rfl) (fun V hV => by obtain ⟨v1, v2, v3, v4, v5, v6, v7, v8, v9⟩ := hV; go_simp) HS0.out ?_
  simp only [Act.put, List.setIfInBounds_toArray, List.set_cons_zero, List.set_cons_succ]
  refine takeH (i := 10) (v := .pointer (some ⟨w.heap.size + 1, 1, none⟩)) (d := 19) rfl rfl (by kernel_rfl) (by kernel_rfl) (by kernel_rfl) (fun _ _ _ h => h) (by rfl) (fun V hV => by obtain ⟨v1, v2, v3, v4, v5, v6, v7, v8, v9⟩ := hV; go_simp) HS0.out ?_
  simp only [Act.put, List.setIfInBounds_toArray, List.set_cons_zero, List.set_cons_succ]
  refine takeH (i := 11) (v := .int .i64 T.phase) (d := 20) rfl rfl (by kernel_rfl) (by kernel_rfl) (by kernel_rfl) (fun _ _ _ h => h) (by rfl) (fun V hV => by obtain ⟨v1, v2, v3, v4, v5, v6, v7, v8, v9⟩ := hV; go_simp) HS0.out ?_
  simp only [Act.put, List.setIfInBounds_toArray, List.set_cons_zero, List.set_cons_succ]
  refine takeH (i := 12) (v := .pointer (some ⟨w.heap.size + 1, 2, none⟩)) (d := 21) rfl rfl (by kernel_rfl) (by kernel_rfl) (by kernel_rfl) (fun _ _ _ h => h) (by rfl) (fun V hV => by obtain ⟨v1, v2, v3, v4, v5, v6, v7, v8, v9⟩ := hV; go_simp) HS0.out ?_
  simp only [Act.put, List.setIfInBounds_toArray, List.set_cons_zero, List.set_cons_succ]
  refine takeH (i := 13) (v := .bool T.fresh) (d := 22) rfl rfl (by kernel_rfl) (by kernel_rfl) (by kernel_rfl) (fun _ _ _ h => h) (by rfl) (fun V hV => by obtain ⟨v1, v2, v3, v4, v5, v6, v7, v8, v9⟩ := hV; go_simp) HS0.out ?_
  simp only [Act.put, List.setIfInBounds_toArray, List.set_cons_zero, List.set_cons_succ]
  refine takeH (i := 14) (v := .pointer (some ⟨w.heap.size + 1, 5, none⟩)) (d := 23) rfl rfl (by kernel_rfl) (by kernel_rfl) (by kernel_rfl) (fun _ _ _ h => h) (by rfl) (fun V hV => by obtain ⟨v1, v2, v3, v4, v5, v6, v7, v8, v9⟩ := hV; go_simp) HS0.out ?_
  simp only [Act.put, List.setIfInBounds_toArray, List.set_cons_zero, List.set_cons_succ]
  refine takeH (i := 15) (v := .slice (some ⟨bm, om, none⟩) T.mail.length cm) (d := 24) rfl rfl (by kernel_rfl) (by kernel_rfl) (by kernel_rfl) (fun _ _ _ h => h) (by rfl) (fun V hV => by obtain ⟨v1, v2, v3, v4, v5, v6, v7, v8, v9⟩ := hV; go_simp) HS0.out ?_
  simp only [Act.put, List.setIfInBounds_toArray, List.set_cons_zero, List.set_cons_succ]
  refine takeH (i := 16) (v := .int .i64 (i : Int)) (d := 25) rfl rfl (by kernel_rfl) (by kernel_rfl) (by kernel_rfl) (fun _ _ _ h => h) (by rfl) (fun V hV => by obtain ⟨v1, v2, v3, v4, v5, v6, v7, v8, v9⟩ := hV; go_simp) HS0.out ?_
  simp only [Act.put, List.setIfInBounds_toArray, List.set_cons_zero, List.set_cons_succ]
  refine takeH (i := 17) (v := .pointer (some ⟨bm, om + i, none⟩)) (d := 26) rfl rfl (by kernel_rfl) (by kernel_rfl) (by kernel_rfl) (fun _ _ _ h => h) (by rfl) (fun V hV => by obtain ⟨v1, v2, v3, v4, v5, v6, v7, v8, v9⟩ := hV; go_simp) HS0.out ?_
  simp only [Act.put, List.setIfInBounds_toArray, List.set_cons_zero, List.set_cons_succ]
  refine takeH (i := 18) (v := u) (d := 27) rfl rfl (by kernel_rfl) (by kernel_rfl) (by kernel_rfl) (fun _ _ _ h => h) (by rfl) (fun V hV => by obtain ⟨v1, v2, v3, v4, v5, v6, v7, v8, v9⟩ := hV; go_simp) HS0.out ?_
  simp only [Act.put, List.setIfInBounds_toArray, List.set_cons_zero, List.set_cons_succ]
  refine oneH (i := 19) rfl (by kernel_rfl) rfl (call_gets (d := 28) (f := 11) (xs := #[.tmp 10, .tmp 11, .tmp 13, .tmp 18, .tmp 20, .tmp 22, .tmp 27]) (ats := #[3, 3, 3, 44, 3, 4, 30]) rfl rfl ew (vs := #[.int .i64 k, .int .i64 (i : Int), .int .i64 s, .agg #[.int .i64 x.1, .int .i64 x.2], .int .i64 T.phase, .bool T.fresh, u]) (by simp [Act.eval]) (WC.out W0.drew (Below.refl _ _).drew) ?_)
  rintro vr w2 ⟨rfl, hb2⟩
  have A2 : Below W0.heap.size W0 w2 := (Below.refl _ _).drew.trans hb2
  have k2 : Kept (fun k => k = w.heap.size + 2) W0 w2 := .of A2
  have HS2 : Hid (w2.cell? ⟨w.heap.size, 2, none⟩ = some (.int .i64 k) ∧ w2.cell? ⟨w.heap.size, 3, none⟩ = some (.int .i64 s) ∧ w2.cell? ⟨w.heap.size + 1, 1, none⟩ = some (.int .i64 T.phase) ∧ w2.cell? ⟨w.heap.size + 1, 2, none⟩ = some (.bool T.fresh) ∧ w2.cell? ⟨w.heap.size + 1, 4, none⟩ = some (.slice (some ⟨bv, ov, none⟩) T.vals.length cv) ∧ w2.cell? ⟨w.heap.size + 1, 5, none⟩ = some (.slice (some ⟨bm, om, none⟩) T.mail.length cm) ∧ w2.cell? ⟨bv, ov + i * 2, none⟩ = some (.int .i64 x.1) ∧ w2.cell? ⟨bv, ov + i * 2 + 1, none⟩ = some (.int .i64 x.2) ∧ w2.cell? ⟨bm, om + i, none⟩ = some u) := KEEP.out w2 k2
  have z2 : BX 44 w2 (w.heap.size + 2) #[.int .i64 0, .int .i64 0] := Z0.out.below A2 (by omega)
  refine ⟨HS2.out, ?_⟩
  simp only [Act.put, List.setIfInBounds_toArray, List.set_cons_zero, List.set_cons_succ]
  refine takeH (i := 20) (v := .agg #[.int .i64 r.x.1, .int .i64 r.x.2]) (d := 29) rfl rfl (by kernel_rfl) (by kernel_rfl) (by kernel_rfl) (fun _ _ _ h => h) (by rfl) (fun V hV => by obtain ⟨v1, v2, v3, v4, v5, v6, v7, v8, v9⟩ := hV; go_simp) HS2.out ?_
  simp only [Act.put, List.setIfInBounds_toArray, List.set_cons_zero, List.set_cons_succ]
  refine takeH (i := 21) (v := .bool r.b) (d := 30) rfl rfl (by kernel_rfl) (by kernel_rfl) (by kernel_rfl) (fun _ _ _ h => h) (by rfl) (fun V hV => by obtain ⟨v1, v2, v3, v4, v5, v6, v7, v8, v9⟩ := hV; go_simp) HS2.out ?_
  simp only [Act.put, List.setIfInBounds_toArray, List.set_cons_zero, List.set_cons_succ]
  refine takeH (i := 22) (v := .int .i64 r.f) (d := 31) rfl rfl (by kernel_rfl) (by kernel_rfl) (by kernel_rfl) (fun _ _ _ h => h) (by rfl) (fun V hV => by obtain ⟨v1, v2, v3, v4, v5, v6, v7, v8, v9⟩ := hV; go_simp) HS2.out ?_
  simp only [Act.put, List.setIfInBounds_toArray, List.set_cons_zero, List.set_cons_succ]
  obtain ⟨n0, n1, n2, n3⟩ := z2.all2
  have k3 : Kept (fun k => k = w.heap.size + 2) W0 (put2 w2 (w.heap.size + 2) (.int .i64 r.x.1) (.int .i64 r.x.2)) := k2.trans ((Kept.box _ _ _ _).trans (Kept.box _ _ _ _))
  have HS3 : Hid ((put2 w2 (w.heap.size + 2) (.int .i64 r.x.1) (.int .i64 r.x.2)).cell? ⟨w.heap.size, 2, none⟩ = some (.int .i64 k) ∧ (put2 w2 (w.heap.size + 2) (.int .i64 r.x.1) (.int .i64 r.x.2)).cell? ⟨w.heap.size, 3, none⟩ = some (.int .i64 s) ∧ (put2 w2 (w.heap.size + 2) (.int .i64 r.x.1) (.int .i64 r.x.2)).cell? ⟨w.heap.size + 1, 1, none⟩ = some (.int .i64 T.phase) ∧ (put2 w2 (w.heap.size + 2) (.int .i64 r.x.1) (.int .i64 r.x.2)).cell? ⟨w.heap.size + 1, 2, none⟩ = some (.bool T.fresh) ∧ (put2 w2 (w.heap.size + 2) (.int .i64 r.x.1) (.int .i64 r.x.2)).cell? ⟨w.heap.size + 1, 4, none⟩ = some (.slice (some ⟨bv, ov, none⟩) T.vals.length cv) ∧ (put2 w2 (w.heap.size + 2) (.int .i64 r.x.1) (.int .i64 r.x.2)).cell? ⟨w.heap.size + 1, 5, none⟩ = some (.slice (some ⟨bm, om, none⟩) T.mail.length cm) ∧ (put2 w2 (w.heap.size + 2) (.int .i64 r.x.1) (.int .i64 r.x.2)).cell? ⟨bv, ov + i * 2, none⟩ = some (.int .i64 x.1) ∧ (put2 w2 (w.heap.size + 2) (.int .i64 r.x.1) (.int .i64 r.x.2)).cell? ⟨bv, ov + i * 2 + 1, none⟩ = some (.int .i64 x.2) ∧ (put2 w2 (w.heap.size + 2) (.int .i64 r.x.1) (.int .i64 r.x.2)).cell? ⟨bm, om + i, none⟩ = some u) := KEEP.out _ k3
  have Z3 : Hid (BX 44 (put2 w2 (w.heap.size + 2) (.int .i64 r.x.1) (.int .i64 r.x.2)) (w.heap.size + 2) #[.int .i64 r.x.1, .int .i64 r.x.2]) := z2.put2 _ _
  have B3 : Hid (Below w.heap.size w (put2 w2 (w.heap.size + 2) (.int .i64 r.x.1) (.int .i64 r.x.2))) := below_put2 (BH.out.trans (A2.mono (by omega))) (by omega) _ _
  refine oneH (i := 23) rfl (by kernel_rfl) rfl (op_skip (w' := (put2 w2 (w.heap.size + 2) (.int .i64 r.x.1) (.int .i64 r.x.2))) rfl (by unfold put2; go_simp) ⟨HS3.out, ?_⟩)
  clear n0 n1 n2 n3 k3 z2 HS2 A2 k2
  generalize put2 w2 (w.heap.size + 2) (.int .i64 r.x.1) (.int .i64 r.x.2) = w3 at *
  refine takeH (i := 24) (v := .bool r.b) (d := 7) rfl rfl (by kernel_rfl) (by kernel_rfl) (by kernel_rfl) (fun _ _ _ h => h) (by rfl) (fun V hV => by obtain ⟨v1, v2, v3, v4, v5, v6, v7, v8, v9⟩ := hV; go_simp) HS3.out ?_
  simp only [Act.put, List.setIfInBounds_toArray, List.set_cons_zero, List.set_cons_succ]
  refine takeH (i := 25) (v := .int .i64 r.f) (d := 8) rfl rfl (by kernel_rfl) (by kernel_rfl) (by kernel_rfl) (fun _ _ _ h => h) (by rfl) (fun V hV => by obtain ⟨v1, v2, v3, v4, v5, v6, v7, v8, v9⟩ := hV; go_simp) HS3.out ?_
  simp only [Act.put, List.setIfInBounds_toArray, List.set_cons_zero, List.set_cons_succ]
  refine wpAnyH_done (by kernel_rfl) ?_ _
  obtain ⟨r0, r1, _⟩ := Z3.out.all2
  go_wp2_with fail
  exact bodyPost_ret (v := .tuple #[.agg #[.int .i64 r.x.1, .int .i64 r.x.2], .bool r.b, .int .i64 r.f]) (by simp [results, Try.results35, go_sem, r0, r1]) rfl ⟨rfl, B3.out⟩
end Go.Proofs.Ytbmkgnlfccigpab
