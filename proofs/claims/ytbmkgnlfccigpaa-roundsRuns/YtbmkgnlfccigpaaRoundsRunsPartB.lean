/-
  Contract of rounds.wake.
  Contract of rounds.woken.
  append of one new element, and where the row lies then.
  A table of lists of numbers that grow each by itself.
  Contracts of Go's library laid at this program (numbers of functions, types and variables, each held by the kernel): slices_Sort_int, slices_Sort_int_none.
  slices.Sort on a row of numbers of the call's own.
-/
import Derived.Test.YtbmkgnlfccigpaaRoundsRunsPartA
import Derived.Test.YtbmkgnlfccigpaaMayMath
import Derived.Test.YtbmkgnlfccigpaaStaMem
import Derived.Test.YtbmkgnlfccigpaaRegionCall
import Derived.Deep.CutRange
import Derived.Test.YtbmkgnlfccigpaaRndSaid
import Derived.Test.YtbmkgnlfccigpaaValRow
import Derived.Test.YtbmkgnlfccigpaaBoolRow
import Derived.Test.YtbmkgnlfccigpaaRowNew
import Derived.Test.YtbmkgnlfccigpaaIntLists
import Derived.Shelf.Sort.Plain
import Derived.Shelf.Slices.In.SortNone
import Derived.Test.YtbmkgnlfccigpaaProg
import Derived.Test.YtbmkgnlfccigpaaRoundMath
import Derived.Test.YtbmkgnlfccigpaaIntRow
import Derived.Test.YtbmkgnlfccigpaaKeptMem

namespace Go.Proofs.Ytbmkgnlfccigpaa
set_option maxRecDepth 100000
open Go.ChangeShapes Go.WideShapes Go.ChangeAt Go.RowKit

set_option maxHeartbeats 2000000 in
set_option maxRecDepth 100000 in
theorem rWake_any (ev : Value) (n k s : Int) (T : StS) (vv vm : Value) (i : Nat) (x : Ml) (l : List Int) (w : World) (hev : ∃ a b c, ev = .slice a b c) (hv : MlR w vv T.vals) (hm : LiR w vm T.mail) (hx : T.vals[i]? = some x) (hl : T.mail[i]? = some l) :
    Calls Try.prog 67 #[.agg #[.int .i64 n, ev, .int .i64 k, .int .i64 s], .agg #[.int .i64 T.step, .int .i64 T.phase, .bool T.fresh, .bool T.done, vv, vm], .int .i64 (i : Int)] w (WakP w (wakeF k (i : Int) s x T.phase T.fresh l)) := by
  obtain ⟨ea, en, ec, rfl⟩ := hev
  have hiv : i < T.vals.length := (List.getElem?_eq_some_iff.1 hx).1
  have him : i < T.mail.length := (List.getElem?_eq_some_iff.1 hl).1
  obtain ⟨bv, ov, cv, rfl, ltv, hcv⟩ := MlR.read hv (by omega)
  obtain ⟨bm, om, cm, rfl, ltm, hc1, hc2, hcm⟩ := hm.at (by omega)
  obtain ⟨y0, y1⟩ := hcv i x hx
  obtain ⟨u, hu, hur⟩ := hcm i l hl
  obtain ⟨_, _, _, _, hmv, _⟩ := hv
  have UR : Hid (InR w u l) := hur
  obtain ⟨ua, uc, rfl, _⟩ := hur
  have WC0 : Hid (∀ X, InR X (.slice ua l.length uc) l → Calls Try.prog 81 #[.int .i64 k, .int .i64 (i : Int), .int .i64 s, .agg #[.int .i64 x.1, .int .i64 x.2], .int .i64 T.phase, .bool T.fresh, .slice ua l.length uc] X (WakP X (wakeF k (i : Int) s x T.phase T.fresh l))) := fun X hX => wake_any k (i : Int) s x T.phase T.fresh l _ X hX
  generalize wakeF k (i : Int) s x T.phase T.fresh l = r at *
  obtain ⟨u, hu0⟩ : ∃ u, u = Value.slice ua l.length uc := ⟨_, rfl⟩
  rw [← hu0] at WC0 UR hu
  have hob : u.oneCell' = true := by rw [hu0]; rfl
  obtain ⟨W0, hW0⟩ : ∃ W0, W0 = ((w.alloc (.cells #[.int .i64 n, .slice ea en ec, .int .i64 k, .int .i64 s] 26)).alloc (.cells #[.int .i64 T.step, .int .i64 T.phase, .bool T.fresh, .bool T.done, .slice (some ⟨bv, ov, none⟩) T.vals.length cv, .slice (some ⟨bm, om, none⟩) T.mail.length cm] 30)).alloc (.cells #[.int .i64 0, .int .i64 0] 59) := ⟨_, rfl⟩
  obtain ⟨Q0, T0, Z1, B0, s1, s2⟩ := boxes3 w #[.int .i64 n, .slice ea en ec, .int .i64 k, .int .i64 s] #[.int .i64 T.step, .int .i64 T.phase, .bool T.fresh, .bool T.done, .slice (some ⟨bv, ov, none⟩) T.vals.length cv, .slice (some ⟨bm, om, none⟩) T.mail.length cm] #[.int .i64 0, .int .i64 0] 26 30 59 W0 hW0
  have BH : Hid (Below w.heap.size w W0) := B0
  have Z0 : Hid (BX 59 W0 (w.heap.size + 2) #[.int .i64 0, .int .i64 0]) := Z1
  have WC : Hid (∀ X, Below W0.heap.size W0 X → Calls Try.prog 81 #[.int .i64 k, .int .i64 (i : Int), .int .i64 s, .agg #[.int .i64 x.1, .int .i64 x.2], .int .i64 T.phase, .bool T.fresh, u] X fun e w' => ∃ v, e = .returned v ∧ (v = .tuple #[.agg #[.int .i64 r.x.1, .int .i64 r.x.2], .bool r.b, .int .i64 r.f] ∧ Below X.heap.size X w')) := fun X hX => (WC0.out X (UR.out.below (BH.out.trans (hX.mono (by omega))) (Nat.le_refl _))).mono fun e w' h => ⟨_, h.1, rfl, h.2⟩
  have KEEP : Hid (∀ V, Kept (fun k => k = w.heap.size + 2) W0 V → (V.cell? ⟨w.heap.size, 2, none⟩ = some (.int .i64 k) ∧ V.cell? ⟨w.heap.size, 3, none⟩ = some (.int .i64 s) ∧ V.cell? ⟨w.heap.size + 1, 1, none⟩ = some (.int .i64 T.phase) ∧ V.cell? ⟨w.heap.size + 1, 2, none⟩ = some (.bool T.fresh) ∧ V.cell? ⟨w.heap.size + 1, 4, none⟩ = some (.slice (some ⟨bv, ov, none⟩) T.vals.length cv) ∧ V.cell? ⟨w.heap.size + 1, 5, none⟩ = some (.slice (some ⟨bm, om, none⟩) T.mail.length cm) ∧ V.cell? ⟨bv, ov + i * 2, none⟩ = some (.int .i64 x.1) ∧ V.cell? ⟨bv, ov + i * 2 + 1, none⟩ = some (.int .i64 x.2) ∧ V.cell? ⟨bm, om + i, none⟩ = some u)) := fun V hV => by
    have j1 := Q0.kept hV (by omega)
    have j2 := T0.kept hV (by omega)
    obtain ⟨q0, q1, q2, q3⟩ := j1.all4
    obtain ⟨⟨c0, c1, c2, c3, c4, c5⟩, _⟩ := j2.all6
    have cc : ∀ (b o : Nat) (z : Value), b < w.heap.size → w.cell? ⟨b, o, none⟩ = some z → V.cell? ⟨b, o, none⟩ = some z := fun b o z hb hz => by
      rw [hV.cell (p := ⟨b, o, none⟩) (show b < W0.heap.size by omega) (show ¬ b = w.heap.size + 2 by omega), BH.out.cell (p := ⟨b, o, none⟩) hb]; exact hz
    exact ⟨q2, q3, c1, c2, c4, c5, cc _ _ _ ltv y0, cc _ _ _ ltv y1, cc _ _ _ ltm hu⟩
  have ew : ∀ args w, (callFunc 81 args).run Try.prog w = .ok (.enter 81 args) w := enters_of Try.func81 (by kernel_rfl) rfl
  have HS0 : Hid (W0.drew.cell? ⟨w.heap.size, 2, none⟩ = some (.int .i64 k) ∧ W0.drew.cell? ⟨w.heap.size, 3, none⟩ = some (.int .i64 s) ∧ W0.drew.cell? ⟨w.heap.size + 1, 1, none⟩ = some (.int .i64 T.phase) ∧ W0.drew.cell? ⟨w.heap.size + 1, 2, none⟩ = some (.bool T.fresh) ∧ W0.drew.cell? ⟨w.heap.size + 1, 4, none⟩ = some (.slice (some ⟨bv, ov, none⟩) T.vals.length cv) ∧ W0.drew.cell? ⟨w.heap.size + 1, 5, none⟩ = some (.slice (some ⟨bm, om, none⟩) T.mail.length cm) ∧ W0.drew.cell? ⟨bv, ov + i * 2, none⟩ = some (.int .i64 x.1) ∧ W0.drew.cell? ⟨bv, ov + i * 2 + 1, none⟩ = some (.int .i64 x.2) ∧ W0.drew.cell? ⟨bm, om + i, none⟩ = some u) := KEEP.out W0.drew (Kept.refl _ _).drew
  have p0 : (0 : Int) ≤ (i : Int) := by omega
  have p1 : (i : Int) < (T.vals.length : Int) := by omega
  have p2 : (i : Int) < (T.mail.length : Int) := by omega
  clear Q0 T0 Z1 B0 hx hl hcv hcm y0 y1 hu UR WC0
  go_enter Try.func67, Try.ntmps67
  go_upto_region 1 with fail
  rw [← hW0]
  clear hW0
  refine wp_region_held (S := fun V => (V.cell? ⟨w.heap.size, 2, none⟩ = some (.int .i64 k) ∧ V.cell? ⟨w.heap.size, 3, none⟩ = some (.int .i64 s) ∧ V.cell? ⟨w.heap.size + 1, 1, none⟩ = some (.int .i64 T.phase) ∧ V.cell? ⟨w.heap.size + 1, 2, none⟩ = some (.bool T.fresh) ∧ V.cell? ⟨w.heap.size + 1, 4, none⟩ = some (.slice (some ⟨bv, ov, none⟩) T.vals.length cv) ∧ V.cell? ⟨w.heap.size + 1, 5, none⟩ = some (.slice (some ⟨bm, om, none⟩) T.mail.length cm) ∧ V.cell? ⟨bv, ov + i * 2, none⟩ = some (.int .i64 x.1) ∧ V.cell? ⟨bv, ov + i * 2 + 1, none⟩ = some (.int .i64 x.2) ∧ V.cell? ⟨bm, om + i, none⟩ = some u)) (by kernel_rfl) ?_
  simp only [List.size_toArray, List.length_cons, List.length_nil, Nat.reduceAdd]
  refine takeH (i := 0) (v := .pointer (some ⟨w.heap.size, 2, none⟩)) (d := 9) rfl rfl (by kernel_rfl) (by kernel_rfl) (by kernel_rfl) (fun _ _ _ h => h) (by rfl) (fun V hV => by obtain ⟨v1, v2, v3, v4, v5, v6, v7, v8, v9⟩ := hV; go_simp) HS0.out ?_
  simp only [Act.put, List.setIfInBounds_toArray, List.set_cons_zero, List.set_cons_succ]
  refine takeH (i := 1) (v := .int .i64 k) (d := 10) rfl rfl (by kernel_rfl) (by kernel_rfl) (by kernel_rfl) (fun _ _ _ h => h) (by rfl) (fun V hV => by obtain ⟨v1, v2, v3, v4, v5, v6, v7, v8, v9⟩ := hV; go_simp) HS0.out ?_
  simp only [Act.put, List.setIfInBounds_toArray, List.set_cons_zero, List.set_cons_succ]
  refine takeH (i := 2) (v := .int .i64 (i : Int)) (d := 11) rfl rfl (by kernel_rfl) (by kernel_rfl) (by kernel_rfl) (fun _ _ _ h => h) (by rfl) (fun V hV => by obtain ⟨v1, v2, v3, v4, v5, v6, v7, v8, v9⟩ := hV; go_simp) HS0.out ?_
  simp only [Act.put, List.setIfInBounds_toArray, List.set_cons_zero, List.set_cons_succ]
  refine takeH (i := 3) (v := .pointer (some ⟨w.heap.size, 3, none⟩)) (d := 12) rfl rfl (by kernel_rfl) (by kernel_rfl) (by kernel_rfl) (fun _ _ _ h => h) (by rfl) (fun V hV => by obtain ⟨v1, v2, v3, v4, v5, v6, v7, v8, v9⟩ := hV; go_simp) HS0.out ?_
  simp only [Act.put, List.setIfInBounds_toArray, List.set_cons_zero, List.set_cons_succ]
  refine takeH (i := 4) (v := .int .i64 s) (d := 13) rfl rfl (by kernel_rfl) (by kernel_rfl) (by kernel_rfl) (fun _ _ _ h => h) (by rfl) (fun V hV => by obtain ⟨v1, v2, v3, v4, v5, v6, v7, v8, v9⟩ := hV; go_simp) HS0.out ?_
  simp only [Act.put, List.setIfInBounds_toArray, List.set_cons_zero, List.set_cons_succ]
  refine takeH (i := 5) (v := .pointer (some ⟨w.heap.size + 1, 4, none⟩)) (d := 14) rfl rfl (by kernel_rfl) (by kernel_rfl) (by kernel_rfl) (fun _ _ _ h => h) (by rfl) (fun V hV => by obtain ⟨v1, v2, v3, v4, v5, v6, v7, v8, v9⟩ := hV; go_simp) HS0.out ?_
  simp only [Act.put, List.setIfInBounds_toArray, List.set_cons_zero, List.set_cons_succ]
  refine takeH (i := 6) (v := .slice (some ⟨bv, ov, none⟩) T.vals.length cv) (d := 15) rfl rfl (by kernel_rfl) (by kernel_rfl) (by kernel_rfl) (fun _ _ _ h => h) (by rfl) (fun V hV => by obtain ⟨v1, v2, v3, v4, v5, v6, v7, v8, v9⟩ := hV; go_simp) HS0.out ?_
  simp only [Act.put, List.setIfInBounds_toArray, List.set_cons_zero, List.set_cons_succ]
  refine takeH (i := 7) (v := .int .i64 (i : Int)) (d := 16) rfl rfl (by kernel_rfl) (by kernel_rfl) (by kernel_rfl) (fun _ _ _ h => h) (by rfl) (fun V hV => by obtain ⟨v1, v2, v3, v4, v5, v6, v7, v8, v9⟩ := hV; go_simp) HS0.out ?_
  simp only [Act.put, List.setIfInBounds_toArray, List.set_cons_zero, List.set_cons_succ]
  refine takeH (i := 8) (v := .pointer (some ⟨bv, ov + i * 2, none⟩)) (d := 17) rfl rfl (by kernel_rfl) (by kernel_rfl) (by kernel_rfl) (fun _ _ _ h => h) (by rfl) (fun V hV => by obtain ⟨v1, v2, v3, v4, v5, v6, v7, v8, v9⟩ := hV; go_simp) HS0.out ?_
  simp only [Act.put, List.setIfInBounds_toArray, List.set_cons_zero, List.set_cons_succ]
  refine takeH (i := 9) (v := .agg #[.int .i64 x.1, .int .i64 x.2]) (d := 18) rfl rfl (by kernel_rfl) (by kernel_rfl) (by kernel_rfl) (fun _ _ _ h => h) (by rfl) (fun V hV => by obtain ⟨v1, v2, v3, v4, v5, v6, v7, v8, v9⟩ := hV; go_simp) HS0.out ?_
  simp only [Act.put, List.setIfInBounds_toArray, List.set_cons_zero, List.set_cons_succ]
  refine takeH (i := 10) (v := .pointer (some ⟨w.heap.size + 1, 1, none⟩)) (d := 19) rfl rfl (by kernel_rfl) (by kernel_rfl) (by kernel_rfl) (fun _ _ _ h => h) (by rfl) (fun V hV => by obtain ⟨v1, v2, v3, v4, v5, v6, v7, v8, v9⟩ := hV; go_simp) HS0.out ?_
  simp only [Act.put, List.setIfInBounds_toArray, List.set_cons_zero, List.set_cons_succ]
  refine takeH (i := 11) (v := .int .i64 T.phase) (d := 20) rfl rfl (by kernel_rfl) (by kernel_rfl) (by kernel_rfl) (fun _ _ _ h => h) (by rfl) (fun V hV => by obtain ⟨v1, v2, v3, v4, v5, v6, v7, v8, v9⟩ := hV; go_simp) HS0.out ?_
  simp only [Act.put, List.setIfInBounds_toArray, List.set_cons_zero, List.set_cons_succ]
  refine takeH (i := 12) (v := .pointer (some ⟨w.heap.size + 1, 2, none⟩)) (d := 21) rfl rfl (by kernel_rfl) (by kernel_rfl) (by kernel_rfl) (fun _ _ _ h => h) (by rfl) (fun V hV => by obtain ⟨v1, v2, v3, v4, v5, v6, v7, v8, v9⟩ := hV; go_simp) HS0.out ?_
  simp only [Act.put, List.setIfInBounds_toArray, List.set_cons_zero, List.set_cons_succ]
  refine takeH (i := 13) (v := .bool T.fresh) (d := 22) rfl rfl (by kernel_rfl) (by kernel_rfl) (by kernel_rfl) (fun _ _ _ h => h) (by rfl) (fun V hV => by obtain ⟨v1, v2, v3, v4, v5, v6, v7, v8, v9⟩ := hV; go_simp) HS0.out ?_
  simp only [Act.put, List.setIfInBounds_toArray, List.set_cons_zero, List.set_cons_succ]
  refine takeH (i := 14) (v := .pointer (some ⟨w.heap.size + 1, 5, none⟩)) (d := 23) rfl rfl (by kernel_rfl) (by kernel_rfl) (by kernel_rfl) (fun _ _ _ h => h) (by rfl) (fun V hV => by obtain ⟨v1, v2, v3, v4, v5, v6, v7, v8, v9⟩ := hV; go_simp) HS0.out ?_
  simp only [Act.put, List.setIfInBounds_toArray, List.set_cons_zero, List.set_cons_succ]
  refine takeH (i := 15) (v := .slice (some ⟨bm, om, none⟩) T.mail.length cm) (d := 24) rfl rfl (by kernel_rfl) (by kernel_rfl) (by kernel_rfl) (fun _ _ _ h => h) (by rfl) (fun V hV => by obtain ⟨v1, v2, v3, v4, v5, v6, v7, v8, v9⟩ := hV; go_simp) HS0.out ?_
  simp only [Act.put, List.setIfInBounds_toArray, List.set_cons_zero, List.set_cons_succ]
  refine takeH (i := 16) (v := .int .i64 (i : Int)) (d := 25) rfl rfl (by kernel_rfl) (by kernel_rfl) (by kernel_rfl) (fun _ _ _ h => h) (by rfl) (fun V hV => by obtain ⟨v1, v2, v3, v4, v5, v6, v7, v8, v9⟩ := hV; go_simp) HS0.out ?_
  simp only [Act.put, List.setIfInBounds_toArray, List.set_cons_zero, List.set_cons_succ]
  refine takeH (i := 17) (v := .pointer (some ⟨bm, om + i, none⟩)) (d := 26) rfl rfl (by kernel_rfl) (by kernel_rfl) (by kernel_rfl) (fun _ _ _ h => h) (by rfl) (fun V hV => by obtain ⟨v1, v2, v3, v4, v5, v6, v7, v8, v9⟩ := hV; go_simp) HS0.out ?_
  simp only [Act.put, List.setIfInBounds_toArray, List.set_cons_zero, List.set_cons_succ]
  refine takeH (i := 18) (v := u) (d := 27) rfl rfl (by kernel_rfl) (by kernel_rfl) (by kernel_rfl) (fun _ _ _ h => h) (by rfl) (fun V hV => by obtain ⟨v1, v2, v3, v4, v5, v6, v7, v8, v9⟩ := hV; go_simp) HS0.out ?_
  simp only [Act.put, List.setIfInBounds_toArray, List.set_cons_zero, List.set_cons_succ]
  refine oneH (i := 19) rfl (by kernel_rfl) rfl (call_gets (d := 28) (f := 81) (xs := #[.tmp 10, .tmp 11, .tmp 13, .tmp 18, .tmp 20, .tmp 22, .tmp 27]) (ats := #[3, 3, 3, 59, 3, 4, 43]) rfl rfl ew (vs := #[.int .i64 k, .int .i64 (i : Int), .int .i64 s, .agg #[.int .i64 x.1, .int .i64 x.2], .int .i64 T.phase, .bool T.fresh, u]) (by simp [Act.eval]) (WC.out W0.drew (Below.refl _ _).drew) ?_)
  rintro vr w2 ⟨rfl, hb2⟩
  have A2 : Below W0.heap.size W0 w2 := (Below.refl _ _).drew.trans hb2
  have k2 : Kept (fun k => k = w.heap.size + 2) W0 w2 := .of A2
  have HS2 : Hid (w2.cell? ⟨w.heap.size, 2, none⟩ = some (.int .i64 k) ∧ w2.cell? ⟨w.heap.size, 3, none⟩ = some (.int .i64 s) ∧ w2.cell? ⟨w.heap.size + 1, 1, none⟩ = some (.int .i64 T.phase) ∧ w2.cell? ⟨w.heap.size + 1, 2, none⟩ = some (.bool T.fresh) ∧ w2.cell? ⟨w.heap.size + 1, 4, none⟩ = some (.slice (some ⟨bv, ov, none⟩) T.vals.length cv) ∧ w2.cell? ⟨w.heap.size + 1, 5, none⟩ = some (.slice (some ⟨bm, om, none⟩) T.mail.length cm) ∧ w2.cell? ⟨bv, ov + i * 2, none⟩ = some (.int .i64 x.1) ∧ w2.cell? ⟨bv, ov + i * 2 + 1, none⟩ = some (.int .i64 x.2) ∧ w2.cell? ⟨bm, om + i, none⟩ = some u) := KEEP.out w2 k2
  have z2 : BX 59 w2 (w.heap.size + 2) #[.int .i64 0, .int .i64 0] := Z0.out.below A2 (by omega)
  refine ⟨HS2.out, ?_⟩
  simp only [Act.put, List.setIfInBounds_toArray, List.set_cons_zero, List.set_cons_succ]
  refine takeH (i := 20) (v := .agg #[.int .i64 r.x.1, .int .i64 r.x.2]) (d := 29) rfl rfl (by kernel_rfl) (by kernel_rfl) (by kernel_rfl) (fun _ _ _ h => h) (by rfl) (fun V hV => by obtain ⟨v1, v2, v3, v4, v5, v6, v7, v8, v9⟩ := hV; go_simp) HS2.out ?_
  simp only [Act.put, List.setIfInBounds_toArray, List.set_cons_zero, List.set_cons_succ]
  refine takeH (i := 21) (v := .bool r.b) (d := 30) rfl rfl (by kernel_rfl) (by kernel_rfl) (by kernel_rfl) (fun _ _ _ h => h) (by rfl) (fun V hV => by obtain ⟨v1, v2, v3, v4, v5, v6, v7, v8, v9⟩ := hV; go_simp) HS2.out ?_
  simp only [Act.put, List.setIfInBounds_toArray, List.set_cons_zero, List.set_cons_succ]
  refine takeH (i := 22) (v := .int .i64 r.f) (d := 31) rfl rfl (by kernel_rfl) (by kernel_rfl) (by kernel_rfl) (fun _ _ _ h => h) (by rfl) (fun V hV => by obtain ⟨v1, v2, v3, v4, v5, v6, v7, v8, v9⟩ := hV; go_simp) HS2.out ?_
  simp only [Act.put, List.setIfInBounds_toArray, List.set_cons_zero, List.set_cons_succ]
  obtain ⟨n0, n1, n2, n3⟩ := z2.all2
  have k3 : Kept (fun k => k = w.heap.size + 2) W0 (put2 w2 (w.heap.size + 2) (.int .i64 r.x.1) (.int .i64 r.x.2)) := k2.trans ((Kept.box _ _ _ _).trans (Kept.box _ _ _ _))
  have HS3 : Hid ((put2 w2 (w.heap.size + 2) (.int .i64 r.x.1) (.int .i64 r.x.2)).cell? ⟨w.heap.size, 2, none⟩ = some (.int .i64 k) ∧ (put2 w2 (w.heap.size + 2) (.int .i64 r.x.1) (.int .i64 r.x.2)).cell? ⟨w.heap.size, 3, none⟩ = some (.int .i64 s) ∧ (put2 w2 (w.heap.size + 2) (.int .i64 r.x.1) (.int .i64 r.x.2)).cell? ⟨w.heap.size + 1, 1, none⟩ = some (.int .i64 T.phase) ∧ (put2 w2 (w.heap.size + 2) (.int .i64 r.x.1) (.int .i64 r.x.2)).cell? ⟨w.heap.size + 1, 2, none⟩ = some (.bool T.fresh) ∧ (put2 w2 (w.heap.size + 2) (.int .i64 r.x.1) (.int .i64 r.x.2)).cell? ⟨w.heap.size + 1, 4, none⟩ = some (.slice (some ⟨bv, ov, none⟩) T.vals.length cv) ∧ (put2 w2 (w.heap.size + 2) (.int .i64 r.x.1) (.int .i64 r.x.2)).cell? ⟨w.heap.size + 1, 5, none⟩ = some (.slice (some ⟨bm, om, none⟩) T.mail.length cm) ∧ (put2 w2 (w.heap.size + 2) (.int .i64 r.x.1) (.int .i64 r.x.2)).cell? ⟨bv, ov + i * 2, none⟩ = some (.int .i64 x.1) ∧ (put2 w2 (w.heap.size + 2) (.int .i64 r.x.1) (.int .i64 r.x.2)).cell? ⟨bv, ov + i * 2 + 1, none⟩ = some (.int .i64 x.2) ∧ (put2 w2 (w.heap.size + 2) (.int .i64 r.x.1) (.int .i64 r.x.2)).cell? ⟨bm, om + i, none⟩ = some u) := KEEP.out _ k3
  have Z3 : Hid (BX 59 (put2 w2 (w.heap.size + 2) (.int .i64 r.x.1) (.int .i64 r.x.2)) (w.heap.size + 2) #[.int .i64 r.x.1, .int .i64 r.x.2]) := z2.put2 _ _
  have B3 : Hid (Below w.heap.size w (put2 w2 (w.heap.size + 2) (.int .i64 r.x.1) (.int .i64 r.x.2))) := below_put2 (BH.out.trans (A2.mono (by omega))) (by omega) _ _
  refine oneH (i := 23) rfl (by kernel_rfl) rfl (op_skip (w' := (put2 w2 (w.heap.size + 2) (.int .i64 r.x.1) (.int .i64 r.x.2))) rfl (by unfold put2; go_simp) ⟨HS3.out, ?_⟩)
  clear n0 n1 n2 n3 k3 z2 HS2 A2 k2
  generalize put2 w2 (w.heap.size + 2) (.int .i64 r.x.1) (.int .i64 r.x.2) = w3 at *
  refine takeH (i := 24) (v := .bool r.b) (d := 7) rfl rfl (by kernel_rfl) (by kernel_rfl) (by kernel_rfl) (fun _ _ _ h => h) (by rfl) (fun V hV => by obtain ⟨v1, v2, v3, v4, v5, v6, v7, v8, v9⟩ := hV; go_simp) HS3.out ?_
  simp only [Act.put, List.setIfInBounds_toArray, List.set_cons_zero, List.set_cons_succ]
  refine takeH (i := 25) (v := .int .i64 r.f) (d := 8) rfl rfl (by kernel_rfl) (by kernel_rfl) (by kernel_rfl) (fun _ _ _ h => h) (by rfl) (fun V hV => by obtain ⟨v1, v2, v3, v4, v5, v6, v7, v8, v9⟩ := hV; go_simp) HS3.out ?_
  simp only [Act.put, List.setIfInBounds_toArray, List.set_cons_zero, List.set_cons_succ]
  refine wpAnyH_done (by kernel_rfl) ?_ _
  obtain ⟨r0, r1, _⟩ := Z3.out.all2
  go_wp2_with fail
  exact bodyPost_ret (v := .tuple #[.agg #[.int .i64 r.x.1, .int .i64 r.x.2], .bool r.b, .int .i64 r.f]) (by simp [results, Try.results67, go_sem, r0, r1]) rfl ⟨rfl, B3.out⟩
end Go.Proofs.Ytbmkgnlfccigpaa

namespace Go.Proofs.Ytbmkgnlfccigpaa
set_option maxRecDepth 100000
open Go.ChangeShapes Go.WideShapes Go.ChangeAt Go.RowKit

/-- The values, as far as vertices have woken. -/
def vpR (m : Nat) (r : Int → Ml × Bool) (c : Nat) : List Ml := (valsR m r).take c ++ List.replicate (m - c) (0, 0)
theorem vpR_len {m c : Nat} {r : Int → Ml × Bool} (h : c ≤ m) : (vpR m r c).length = m := by simp [vpR, valsR_len]; omega
theorem vpR_zero (m : Nat) (r : Int → Ml × Bool) : vpR m r 0 = List.replicate m (0, 0) := by simp [vpR]
theorem vpR_all (m : Nat) (r : Int → Ml × Bool) : vpR m r m = valsR m r := by simp [vpR, List.take_of_length_le (Nat.le_of_eq (valsR_len m r))]
theorem vpR_set {m c : Nat} {r : Int → Ml × Bool} (h : c < m) : vpR m r (c + 1) = (vpR m r c).set c (r (c : Int)).1 := by
  unfold vpR
  rw [take_snoc (valsR_at h), List.append_assoc, show m - c = (m - (c + 1)) + 1 by omega, List.replicate_succ, List.set_append_right _ _ (by simp [valsR_len]; omega)]
  simp [valsR_len, Nat.min_eq_left (Nat.le_of_lt h)]
/-- What woken answers. -/
def WknP (w : World) (m : Nat) (r : Int → Ml × Bool) (e : Ending) (w' : World) : Prop :=
  ∃ v1 v2, e = .returned (.tuple #[v1, v2]) ∧ w'.ownsRow w.heap.size 59 2 v1 m ((valsR m r).flatMap encM) ∧ w'.ownsRow w.heap.size 4 1 v2 m ((sdR m r m).flatMap encT) ∧ Below w.heap.size w w'
theorem rnd_yes {j : Jb} {s : Int} {T : StS} {c : Nat} {x : Ml} {l : List Int} (hx : T.vals[c]? = some x) (hl : T.mail[c]? = some l) (h : T.fresh = true ∨ 0 < l.length) : rndV j s T (c : Int) = wakeV j (c : Int) s x T.fresh l := by
  have e1 : vlA T.vals (c : Int) = x := by unfold vlA; rw [List.getD_eq_getElem?_getD, Int.toNat_natCast, hx]; rfl
  have e2 : mlA T.mail (c : Int) = l := by unfold mlA; rw [List.getD_eq_getElem?_getD, Int.toNat_natCast, hl]; rfl
  unfold rndV
  rw [e1, e2, if_pos]
  rcases h with h | h
  · rw [h]; rfl
  · cases l with
    | nil => simp at h
    | cons a l => simp
theorem rnd_no {j : Jb} {s : Int} {T : StS} {c : Nat} {x : Ml} {l : List Int} (hx : T.vals[c]? = some x) (hl : T.mail[c]? = some l) (h : T.fresh = false) (h2 : ¬ 0 < l.length) : rndV j s T (c : Int) = (x, false) := by
  have e1 : vlA T.vals (c : Int) = x := by unfold vlA; rw [List.getD_eq_getElem?_getD, Int.toNat_natCast, hx]; rfl
  have e2 : mlA T.mail (c : Int) = l := by unfold mlA; rw [List.getD_eq_getElem?_getD, Int.toNat_natCast, hl]; rfl
  have e3 : l = [] := List.eq_nil_of_length_eq_zero (by omega)
  unfold rndV
  rw [e1, e2, if_neg (by rw [h, e3]; simp)]
theorem own_cur {w : World} {base g n cap size : Nat} {e : TypeId} {xs : List Value} (h : w.ownsRow base e size (.slice (some ⟨g, 0, none⟩) n cap) n xs) : ∃ cur, w.heap[g]? = some (.cells cur e (0, 0)) := by
  rcases h.2 with ⟨hv, _⟩ | ⟨g3, c3, cur, hv, _, hgg, _⟩
  · cases hv
  · injection hv with hv
    injection hv with hv
    injection hv with hv
    subst hv
    exact ⟨cur, hgg⟩
/-- Stores into a row leave a row of another type. -/
theorem own_else {w w' : World} {base b g n m size size' cap : Nat} {e e' : TypeId} {v : Value} {xs ys : List Value} (h : w.ownsRow base e size v n xs) (h2 : w.ownsRow b e' size' (.slice (some ⟨g, 0, none⟩) m cap) m ys) (hne : e ≠ e') (hk : Kept (fun k => k = g) w w') : w'.ownsRow base e size v n xs := by
  obtain ⟨cur, hc⟩ := own_cur h2
  exact hk.own h fun q hq e => own_block h hq hc hne e

set_option maxHeartbeats 4000000 in
set_option maxRecDepth 100000 in
theorem rWoken_any (ea : Option Addr) (el ec m : Nat) (n k s : Int) (j : Jb) (T : StS) (vv vm : Value) (w : World) (hv : MlR w vv T.vals) (hm : LiR w vm T.mail) (hj : jobF k T.phase = some j) (hI : MayI m j T) (hn : m ≤ 200) :
    Calls Try.prog 48 #[.agg #[.int .i64 n, .slice ea el ec, .int .i64 k, .int .i64 s], .agg #[.int .i64 T.step, .int .i64 T.phase, .bool T.fresh, .bool T.done, vv, vm]] w (WknP w m (rndV j s T)) := by
  have HV : Hid (MlR w vv T.vals) := hv
  have HM : Hid (LiR w vm T.mail) := hm
  obtain ⟨va, vc, rfl, hvc, hvm, _, _⟩ := hv
  obtain ⟨ma, mc, rfl, hmc, hmm, _⟩ := hm
  unfold maxLen at hvm hmm
  have lv1 : m ≤ T.vals.length := Nat.le_of_eq hI.lv.symm
  have lm1 : m ≤ T.mail.length := Nat.le_of_eq hI.lm.symm
  have lv2 : T.vals.length ≤ m := Nat.le_of_eq hI.lv
  have HLV : Hid (T.vals.length = m) := hI.lv
  obtain ⟨W0, hW0⟩ : ∃ W0, W0 = (w.alloc (.cells #[.int .i64 n, .slice ea el ec, .int .i64 k, .int .i64 s] 26)).alloc (.cells #[.int .i64 T.step, .int .i64 T.phase, .bool T.fresh, .bool T.done, .slice va T.vals.length vc, .slice ma T.mail.length mc] 30) := ⟨_, rfl⟩
  obtain ⟨Q0, T0, B0, s1, s2⟩ := boxes2 w #[.int .i64 n, .slice ea el ec, .int .i64 k, .int .i64 s] #[.int .i64 T.step, .int .i64 T.phase, .bool T.fresh, .bool T.done, .slice va T.vals.length vc, .slice ma T.mail.length mc] 26 30 W0 hW0
  have BH : Hid (Below w.heap.size w W0) := B0
  have HK : Hid (∀ X, Below W0.heap.size W0 X → BX 26 X w.heap.size #[.int .i64 n, .slice ea el ec, .int .i64 k, .int .i64 s] ∧ BX 30 X (w.heap.size + 1) #[.int .i64 T.step, .int .i64 T.phase, .bool T.fresh, .bool T.done, .slice va T.vals.length vc, .slice ma T.mail.length mc] ∧ Below w.heap.size w X) := fun X hX => ⟨Q0.below hX (by omega), T0.below hX (by omega), BH.out.trans (hX.mono (by omega))⟩
  have HVX : Hid (∀ X, Below W0.heap.size W0 X → MlR X (.slice va T.vals.length vc) T.vals ∧ LiR X (.slice ma T.mail.length mc) T.mail) := fun X hX => ⟨HV.out.below (HK.out _ hX).2.2 (Nat.le_refl _), HM.out.below (HK.out _ hX).2.2 (Nat.le_refl _)⟩
  have HWK : Hid (∀ X (c : Nat) (x : Ml) (l : List Int), Below W0.heap.size W0 X → T.vals[c]? = some x → T.mail[c]? = some l → Calls Try.prog 67 #[.agg #[.int .i64 n, .slice ea el ec, .int .i64 k, .int .i64 s], .agg #[.int .i64 T.step, .int .i64 T.phase, .bool T.fresh, .bool T.done, .slice va T.vals.length vc, .slice ma T.mail.length mc], .int .i64 (c : Int)] X fun e w' => e = .returned (.tuple #[.agg #[.int .i64 (wakeV j (c : Int) s x T.fresh l).1.1, .int .i64 (wakeV j (c : Int) s x T.fresh l).1.2], .bool (wakeV j (c : Int) s x T.fresh l).2, .int .i64 0]) ∧ Below X.heap.size X w') := fun X c x l hX hx hl => by
    have h1 := rWake_any (.slice ea el ec) n k s T _ _ c x l X ⟨_, _, _, rfl⟩ (HVX.out X hX).1 (HVX.out X hX).2 hx hl
    have hc : c < T.vals.length := (List.getElem?_eq_some_iff.1 hx).1
    have e : wakeF k (c : Int) s x T.phase T.fresh l = wakeJ j (c : Int) s x T.fresh l := by unfold wakeF; rw [hj]
    rw [e, wake_fit (by omega) (hI.val x (List.mem_of_getElem? hx)) (hI.mls l (List.mem_of_getElem? hl)).1] at h1
    exact h1
  have KEEP : Hid (∀ V, Below W0.heap.size W0 V → V.cell? ⟨w.heap.size + 1, 4, none⟩ = some (.slice va T.vals.length vc)) := fun V hV => (HK.out V hV).2.1.all6.1.2.2.2.2.1
  have RY : Hid (∀ (c : Nat) (x : Ml) (l : List Int), T.vals[c]? = some x → T.mail[c]? = some l → T.fresh = true ∨ 0 < l.length → rndV j s T (c : Int) = wakeV j (c : Int) s x T.fresh l) := fun c x l hx hl h => rnd_yes hx hl h
  have RN : Hid (∀ (c : Nat) (x : Ml) (l : List Int), T.vals[c]? = some x → T.mail[c]? = some l → T.fresh = false → ¬ 0 < l.length → rndV j s T (c : Int) = (x, false)) := fun c x l hx hl h h2 => rnd_no hx hl h h2
  have HS0 : Hid (W0.drew.cell? ⟨w.heap.size + 1, 4, none⟩ = some (.slice va T.vals.length vc)) := KEEP.out W0.drew (Below.refl _ _).drew
  have tl : (T.vals.length : Int) = (m : Int) := by rw [HLV.out]
  generalize rndV j s T = r at *
  obtain ⟨q0, q1, q2, q3⟩ := Q0.all4
  obtain ⟨⟨c0, c1, c2, c3, c4, c5⟩, _⟩ := T0.all6
  clear Q0 T0 B0 hI hj q0 q1 q2 q3 c0 c1 c2 c3 c4 c5
  go_enter Try.func48, Try.ntmps48
  go_upto_region 1 with fail
  rw [← hW0]
  clear hW0
  apply Hid.cut
  case h =>
    intro HG
    refine wp_region_held (S := fun V => V.cell? ⟨w.heap.size + 1, 4, none⟩ = some (.slice va T.vals.length vc)) (by kernel_rfl) ?_
    simp only [List.size_toArray, List.length_cons, List.length_nil, Nat.reduceAdd]
    refine takeH (i := 0) (v := .pointer (some ⟨w.heap.size + 1, 4, none⟩)) (d := 10) rfl rfl (by kernel_rfl) (by kernel_rfl) (by kernel_rfl) (fun _ _ _ h => h) (by rfl) (fun V hV => by have v1 := hV; clear hV; go_simp) HS0.out ?_
    simp only [Act.put, List.setIfInBounds_toArray, List.set_cons_zero, List.set_cons_succ]
    refine takeH (i := 1) (v := .slice va T.vals.length vc) (d := 11) rfl rfl (by kernel_rfl) (by kernel_rfl) (by kernel_rfl) (fun _ _ _ h => h) (by rfl) (fun V hV => by have v1 := hV; clear hV; go_simp) HS0.out ?_
    simp only [Act.put, List.setIfInBounds_toArray, List.set_cons_zero, List.set_cons_succ]
    refine takeH (i := 2) (v := .int .i64 (m : Int)) (d := 12) rfl rfl (by kernel_rfl) (by kernel_rfl) (by kernel_rfl) (fun _ _ _ h => h) (by rfl) (fun V hV => by have v1 := hV; clear hV; go_simp) HS0.out ?_
    simp only [Act.put, List.setIfInBounds_toArray, List.set_cons_zero, List.set_cons_succ]
    refine takeH (i := 4) (v := .pointer (some ⟨w.heap.size + 1, 4, none⟩)) (d := 14) rfl rfl (by kernel_rfl) (by kernel_rfl) (by kernel_rfl) (fun _ _ _ h => h) (by rfl) (fun V hV => by have v1 := hV; clear hV; go_simp) HS0.out ?_
    simp only [Act.put, List.setIfInBounds_toArray, List.set_cons_zero, List.set_cons_succ]
    refine takeH (i := 5) (v := .slice va T.vals.length vc) (d := 15) rfl rfl (by kernel_rfl) (by kernel_rfl) (by kernel_rfl) (fun _ _ _ h => h) (by rfl) (fun V hV => by have v1 := hV; clear hV; go_simp) HS0.out ?_
    simp only [Act.put, List.setIfInBounds_toArray, List.set_cons_zero, List.set_cons_succ]
    refine takeH (i := 6) (v := .int .i64 (m : Int)) (d := 16) rfl rfl (by kernel_rfl) (by kernel_rfl) (by kernel_rfl) (fun _ _ _ h => h) (by rfl) (fun V hV => by have v1 := hV; clear hV; go_simp) HS0.out ?_
    simp only [Act.put, List.setIfInBounds_toArray, List.set_cons_zero, List.set_cons_succ]
    refine twoH (i := 3) (j := 7) rfl rfl (by kernel_rfl) rfl rfl ?wA ?wB
    case wA =>
      obtain ⟨X1, mk1, o1, hb1⟩ := make_vals W0.drew m (by omega)
      have a1 : Below W0.heap.size W0 X1 := (Below.refl _ W0).drew.trans hb1
      have HS1 : Hid (X1.cell? ⟨w.heap.size + 1, 4, none⟩ = some (.slice va T.vals.length vc)) := KEEP.out X1 a1
      refine op_run (d := 13) (v' := .slice (some ⟨W0.drew.heap.size, 0, none⟩) m m) (w' := X1) rfl (by go_simp) ⟨HS1.out, ?_⟩
      simp only [Act.put, List.setIfInBounds_toArray, List.set_cons_zero, List.set_cons_succ]
      refine takeH (i := 8) (v := .slice (some ⟨W0.drew.heap.size, 0, none⟩) m m) (d := 6) rfl rfl (by kernel_rfl) (by kernel_rfl) (by kernel_rfl) (fun _ _ _ h => h) (by rfl) (fun V hV => by have v1 := hV; clear hV; go_simp) HS1.out ?_
      simp only [Act.put, List.setIfInBounds_toArray, List.set_cons_zero, List.set_cons_succ]
      obtain ⟨X2, mk2, o2, hb2⟩ := make_bools X1 m (by omega)
      have a2 : Below W0.heap.size W0 X2 := a1.trans (hb2.mono a1.size)
      have HS2 : Hid (X2.cell? ⟨w.heap.size + 1, 4, none⟩ = some (.slice va T.vals.length vc)) := KEEP.out X2 a2
      refine oneH (i := 7) rfl (by kernel_rfl) rfl (op_run (d := 17) (v' := .slice (some ⟨X1.heap.size, 0, none⟩) m m) (w' := X2) rfl (by go_simp) ⟨HS2.out, ?_⟩)
      simp only [Act.put, List.setIfInBounds_toArray, List.set_cons_zero, List.set_cons_succ]
      refine takeH (i := 9) (v := .slice (some ⟨X1.heap.size, 0, none⟩) m m) (d := 7) rfl rfl (by kernel_rfl) (by kernel_rfl) (by kernel_rfl) (fun _ _ _ h => h) (by rfl) (fun V hV => by have v1 := hV; clear hV; go_simp) HS2.out ?_
      simp only [Act.put, List.setIfInBounds_toArray, List.set_cons_zero, List.set_cons_succ]
      have FV : Hid (X2.ownsRow W0.heap.size 59 2 (.slice (some ⟨W0.drew.heap.size, 0, none⟩) m m) m ((List.replicate m ((0, 0) : Ml)).flatMap encM)) := own_below o1 hb2 (Nat.le_refl _)
      have FB : Hid (X2.ownsRow W0.heap.size 4 1 (.slice (some ⟨X1.heap.size, 0, none⟩) m m) m ((List.replicate m false).flatMap encT)) := own_lower o2 a1.size
      have FA : Hid (Below W0.heap.size W0 X2) := a2
      refine wpAnyH_done (by kernel_rfl) ?_ _
      clear mk1 o1 hb1 HS1 mk2 o2 hb2 HS2
      clear a2
      clear a1
      generalize W0.drew.heap.size = g1 at *
      generalize X1.heap.size = g2 at *
      revert FA
      revert FB
      revert FV
      revert X2
      revert g2
      revert g1
      exact HG.out
    case wB =>
      obtain ⟨X1, mk1, o1, hb1⟩ := make_bools W0.drew m (by omega)
      have a1 : Below W0.heap.size W0 X1 := (Below.refl _ W0).drew.trans hb1
      have HS1 : Hid (X1.cell? ⟨w.heap.size + 1, 4, none⟩ = some (.slice va T.vals.length vc)) := KEEP.out X1 a1
      refine op_run (d := 17) (v' := .slice (some ⟨W0.drew.heap.size, 0, none⟩) m m) (w' := X1) rfl (by go_simp) ⟨HS1.out, ?_⟩
      simp only [Act.put, List.setIfInBounds_toArray, List.set_cons_zero, List.set_cons_succ]
      obtain ⟨X2, mk2, o2, hb2⟩ := make_vals X1 m (by omega)
      have a2 : Below W0.heap.size W0 X2 := a1.trans (hb2.mono a1.size)
      have HS2 : Hid (X2.cell? ⟨w.heap.size + 1, 4, none⟩ = some (.slice va T.vals.length vc)) := KEEP.out X2 a2
      refine oneH (i := 3) rfl (by kernel_rfl) rfl (op_run (d := 13) (v' := .slice (some ⟨X1.heap.size, 0, none⟩) m m) (w' := X2) rfl (by go_simp) ⟨HS2.out, ?_⟩)
      simp only [Act.put, List.setIfInBounds_toArray, List.set_cons_zero, List.set_cons_succ]
      refine takeH (i := 8) (v := .slice (some ⟨X1.heap.size, 0, none⟩) m m) (d := 6) rfl rfl (by kernel_rfl) (by kernel_rfl) (by kernel_rfl) (fun _ _ _ h => h) (by rfl) (fun V hV => by have v1 := hV; clear hV; go_simp) HS2.out ?_
      simp only [Act.put, List.setIfInBounds_toArray, List.set_cons_zero, List.set_cons_succ]
      refine takeH (i := 9) (v := .slice (some ⟨W0.drew.heap.size, 0, none⟩) m m) (d := 7) rfl rfl (by kernel_rfl) (by kernel_rfl) (by kernel_rfl) (fun _ _ _ h => h) (by rfl) (fun V hV => by have v1 := hV; clear hV; go_simp) HS2.out ?_
      simp only [Act.put, List.setIfInBounds_toArray, List.set_cons_zero, List.set_cons_succ]
      have FV : Hid (X2.ownsRow W0.heap.size 59 2 (.slice (some ⟨X1.heap.size, 0, none⟩) m m) m ((List.replicate m ((0, 0) : Ml)).flatMap encM)) := own_lower o2 a1.size
      have FB : Hid (X2.ownsRow W0.heap.size 4 1 (.slice (some ⟨W0.drew.heap.size, 0, none⟩) m m) m ((List.replicate m false).flatMap encT)) := own_below o1 hb2 (Nat.le_refl _)
      have FA : Hid (Below W0.heap.size W0 X2) := a2
      refine wpAnyH_done (by kernel_rfl) ?_ _
      exact HG.out _ _ _ FV FB FA
  case g =>
    intro g1 g2 X FV FB FA
    clear HS0 KEEP tl
    have hg1 := FV.out.lt g1 rfl
    have hg2 := FB.out.lt g2 rfl
    have hne : g1 ≠ g2 := by
      obtain ⟨cur, hc⟩ := own_cur FB.out
      exact own_block FV.out rfl hc (by decide)
    have FV0 : Hid (X.ownsRow W0.heap.size 59 2 (.slice (some ⟨g1, 0, none⟩) m m) m ((vpR m r 0).flatMap encM)) := by
      show World.ownsRow _ _ _ _ _ _ _
      rw [vpR_zero]; exact FV.out
    have FB0 : Hid (X.ownsRow W0.heap.size 4 1 (.slice (some ⟨g2, 0, none⟩) m m) m ((sdR m r 0).flatMap encT)) := by
      show World.ownsRow _ _ _ _ _ _ _
      rw [sdR_zero]; exact FB.out
    obtain ⟨_, T1, _⟩ := HK.out X FA.out
    obtain ⟨⟨c0, c1, c2, c3, c4, c5⟩, _⟩ := T1.all6
    clear FV FB T1
    go_wp2_with fail
    clear c0 c1 c2 c3 c4 c5
    go_loopw [21] (fun i wr => ∃ c : Nat, c ≤ m ∧ i = .int .i64 c ∧ wr.ownsRow W0.heap.size 59 2 (.slice (some ⟨g1, 0, none⟩) m m) m ((vpR m r c).flatMap encM) ∧ wr.ownsRow W0.heap.size 4 1 (.slice (some ⟨g2, 0, none⟩) m m) m ((sdR m r c).flatMap encT) ∧ Below W0.heap.size W0 wr) (fun i _ => m - (intOf i).toNat)
    case atStart => exact ⟨0, by omega, rfl, FV0.out, FB0.out, FA.out⟩
    case round =>
      obtain ⟨c, hc, rfl, hov, hob, hbel⟩ := hrel
      have OV : Hid (wr.ownsRow W0.heap.size 59 2 (.slice (some ⟨g1, 0, none⟩) m m) m ((vpR m r c).flatMap encM)) := hov
      have OB : Hid (wr.ownsRow W0.heap.size 4 1 (.slice (some ⟨g2, 0, none⟩) m m) m ((sdR m r c).flatMap encT)) := hob
      have AB : Hid (Below W0.heap.size W0 wr) := hbel
      have hsr := hbel.size
      clear hov hob hbel FV0 FB0 FA
      by_cases hlt : c < m
      · obtain ⟨b1, o1, cap1, e1, lt1, hv1⟩ := MlR.read (HVX.out _ AB.out).1 (by omega)
        injection e1 with e1 _ e3
        subst e1 e3
        obtain ⟨b2, o2, cap2, e2, lt2, hc1, hc2, hv2⟩ := (HVX.out _ AB.out).2.at (by omega)
        injection e2 with e2 _ e4
        subst e2 e4
        obtain ⟨x, hx⟩ := getX (show c < T.vals.length by omega)
        obtain ⟨l, hl⟩ := getX (show c < T.mail.length by omega)
        obtain ⟨d0, d1⟩ := hv1 c x hx
        obtain ⟨u, hu, hur⟩ := hv2 c l hl
        obtain ⟨ua, uc, rfl, huc, hum, _⟩ := hur
        unfold maxLen at hum
        have p0 : (0 : Int) ≤ (c : Int) := by omega
        have p1 : (c : Int) < (T.vals.length : Int) := by omega
        have p2 : (c : Int) < (T.mail.length : Int) := by omega
        have p3 : (c : Int) < (m : Int) := by omega
        have HY1 : Hid (T.fresh = true ∨ 0 < l.length → r (c : Int) = wakeV j (c : Int) s x T.fresh l) := RY.out c x l hx hl
        have HN1 : Hid (T.fresh = false → ¬ 0 < l.length → r (c : Int) = (x, false)) := RN.out c x l hx hl
        have HWC : Hid (∀ X, Below W0.heap.size W0 X → _) := fun X hX => HWK.out X c x l hX hx hl
        have HVS : Hid (∀ y, (vpR m r c).set c y = (vpR m r c).set c y) := fun _ => rfl
        have HVN : Hid (vpR m r (c + 1) = (vpR m r c).set c (r (c : Int)).1) := vpR_set hlt
        have HBN : Hid (sdR m r (c + 1) = (sdR m r c).set c (r (c : Int)).2) := sdR_set hlt
        have HBK : Hid ((r (c : Int)).2 = false → sdR m r (c + 1) = sdR m r c) := sdR_keep hlt
        have hvl : c < (vpR m r c).length := by rw [vpR_len hc]; exact hlt
        obtain ⟨y, hy⟩ := getX hvl
        obtain ⟨b0, hb0⟩ := getX (show c < (sdR m r c).length by rw [sdR_len]; exact hlt)
        obtain ⟨k0, k1⟩ := own_atV OV.out hy
        have k2 := own_atB OB.out hb0
        have f0 := frozenK OV.out (c * 2)
        have f1 := frozenK OV.out (c * 2 + 1)
        have f2 := frozenK OB.out c
        clear hv1 hv2 hx hl hy hb0 HVS
        -- the box of the old value
        obtain ⟨w1, hw1⟩ : ∃ w1, w1 = wr.alloc (.cells #[.int .i64 x.1, .int .i64 x.2] 59) := ⟨_, rfl⟩
        have X1 : BX 59 w1 wr.heap.size #[.int .i64 x.1, .int .i64 x.2] := by rw [hw1]; exact BX.new _ _ _
        have ba : Below wr.heap.size wr w1 := by rw [hw1]; exact below_alloc _ _
        have A1 : Hid (Below W0.heap.size W0 w1) := AB.out.trans (ba.mono hsr)
        have OV1 : Hid (w1.ownsRow W0.heap.size 59 2 (.slice (some ⟨g1, 0, none⟩) m m) m ((vpR m r c).flatMap encM)) := own_below OV.out ba (Nat.le_refl _)
        have OB1 : Hid (w1.ownsRow W0.heap.size 4 1 (.slice (some ⟨g2, 0, none⟩) m m) m ((sdR m r c).flatMap encT)) := own_below OB.out ba (Nat.le_refl _)
        obtain ⟨z0, z1, _⟩ := X1.all2
        have gx1 : wr.heap.size ≠ g1 := by have := (OV.out.lt g1 rfl).2; omega
        have gx2 : wr.heap.size ≠ g2 := by have := (OB.out.lt g2 rfl).2; omega
        -- its store
        obtain ⟨w2, hw2⟩ : ∃ w2, w2 = putV w1 g1 (c * 2) x := ⟨_, rfl⟩
        have kp2 : Kept (fun k => k = g1) w1 w2 := by rw [hw2]; exact kept_putV _ _ _ _
        have A2 : Hid (Below W0.heap.size W0 w2) := by show Below _ _ _; rw [hw2]; exact below_putV A1.out (by omega) _
        have OV2 : Hid (w2.ownsRow W0.heap.size 59 2 (.slice (some ⟨g1, 0, none⟩) m m) m (((vpR m r c).set c x).flatMap encM)) := by show World.ownsRow _ _ _ _ _ _ _; rw [hw2]; exact own_putV OV1.out hvl x
        have OB2 : Hid (w2.ownsRow W0.heap.size 4 1 (.slice (some ⟨g2, 0, none⟩) m m) m ((sdR m r c).flatMap encT)) := own_else OB1.out OV1.out (by decide) kp2
        have z2 := own_atV OV1.out (show (vpR m r c)[c]? = some (vpR m r c)[c] from List.getElem?_eq_getElem hvl)
        obtain ⟨z3, z4⟩ := z2
        have f3 := frozenK OV1.out (c * 2)
        have f4 := frozenK OV1.out (c * 2 + 1)
        clear k0 k1 k2 f0 f1 f2 y X1
        unfold putV at hw2
        have HW2 : Hid (w2 = (w1.setCell ⟨g1, c * 2, none⟩ (.int .i64 x.1)).setCell ⟨g1, c * 2 + 1, none⟩ (.int .i64 x.2)) := hw2
        clear hw2
        go_upto_region 5 with fail
        rw [← hw1]
        clear hw1
        go_upto_region 6 with fail
        rw [← HW2.out]
        clear HW2 z0 z1 z3 z4 f3 f4 d0 d1
        obtain ⟨Q2, T2, hbw⟩ := HK.out w2 A2.out
        obtain ⟨q0, q1, q2, q3⟩ := Q2.all4
        obtain ⟨⟨c0, c1, c2, c3, c4, c5⟩, _⟩ := T2.all6
        have hu2 : w2.cell? ⟨b2, o2 + c, none⟩ = some (.slice ua l.length uc) := by
          have h9 : b2 < W0.heap.size ∨ ¬ b2 < W0.heap.size := by omega
          rw [kp2.cell (p := ⟨b2, o2 + c, none⟩) (show b2 < w1.heap.size from Nat.lt_of_lt_of_le lt2 ba.size) (show ¬ b2 = g1 from ?_), ba.cell (p := ⟨b2, o2 + c, none⟩) lt2]
          · exact hu
          · intro e
            obtain ⟨bq, oq, cq, eq, ltq, _⟩ := HM.out.at (show 0 < T.mail.length by omega)
            injection eq with eq
            injection eq with eq
            injection eq with eq
            omega
        clear Q2 T2 hbw hu ba kp2
        rcases Bool.eq_false_or_eq_true T.fresh with hfr | hfr
        rotate_left
        · by_cases hll : 0 < l.length
          · have HR : Hid (r (c : Int) = wakeV j (c : Int) s x T.fresh l) := HY1.out (.inr hll)
            have t0 : (0 : Int) < (l.length : Int) := by omega
            have HW2 := HWC.out w2 A2.out
            generalize wakeV j (c : Int) s x T.fresh l = R at *
            obtain ⟨⟨R1, R2⟩, R3⟩ := R
            simp only at HW2
            rw [hfr] at c2 HW2
            clear hfr HWC HWK
            go_wp2_with fail
            refine HW2.mono ?_
            rintro e w3 ⟨rfl, hb3⟩
            have A3 : Hid (Below W0.heap.size W0 w3) := A2.out.trans (hb3.mono A2.out.size)
            have OV3 : Hid (w3.ownsRow W0.heap.size 59 2 (.slice (some ⟨g1, 0, none⟩) m m) m (((vpR m r c).set c x).flatMap encM)) := own_below OV2.out hb3 (Nat.le_refl _)
            have OB3 : Hid (w3.ownsRow W0.heap.size 4 1 (.slice (some ⟨g2, 0, none⟩) m m) m ((sdR m r c).flatMap encT)) := own_below OB2.out hb3 (Nat.le_refl _)
            have hvl3 : c < ((vpR m r c).set c x).length := by rw [List.length_set]; exact hvl
            obtain ⟨z3, z4⟩ := own_atV OV3.out (List.getElem?_eq_getElem hvl3)
            have f3 := frozenK OV3.out (c * 2)
            have f4 := frozenK OV3.out (c * 2 + 1)
            have OV4 : Hid ((putV w3 g1 (c * 2) (R1, R2)).ownsRow W0.heap.size 59 2 (.slice (some ⟨g1, 0, none⟩) m m) m ((vpR m r (c + 1)).flatMap encM)) := by
              show World.ownsRow _ _ _ _ _ _ _
              have := own_putV OV3.out hvl3 (R1, R2)
              rw [List.set_set] at this
              rw [HVN.out, HR.out]; exact this
            have OB4 : Hid ((putV w3 g1 (c * 2) (R1, R2)).ownsRow W0.heap.size 4 1 (.slice (some ⟨g2, 0, none⟩) m m) m ((sdR m r c).flatMap encT)) := own_else OB3.out OV3.out (by decide) (kept_putV _ _ _ _)
            have A4 : Hid (Below W0.heap.size W0 (putV w3 g1 (c * 2) (R1, R2))) := below_putV A3.out (by omega) _
            obtain ⟨y0, hy0⟩ := getX (show c < (sdR m r c).length by rw [sdR_len]; exact hlt)
            have z5 := own_atB OB4.out hy0
            have f5 := frozenK OB4.out c
            have OB5 : Hid (((putV w3 g1 (c * 2) (R1, R2)).setCell ⟨g2, c, none⟩ (.bool R3)).ownsRow W0.heap.size 4 1 (.slice (some ⟨g2, 0, none⟩) m m) m ((sdR m r (c + 1)).flatMap encT)) := by
              show World.ownsRow _ _ _ _ _ _ _
              rw [HBN.out, HR.out]; exact own_setB OB4.out
            have OV5 : Hid (((putV w3 g1 (c * 2) (R1, R2)).setCell ⟨g2, c, none⟩ (.bool R3)).ownsRow W0.heap.size 59 2 (.slice (some ⟨g1, 0, none⟩) m m) m ((vpR m r (c + 1)).flatMap encM)) := own_else OV4.out OB4.out (by decide) (Kept.box _ _ _ _)
            have A5 : Hid (Below W0.heap.size W0 ((putV w3 g1 (c * 2) (R1, R2)).setCell ⟨g2, c, none⟩ (.bool R3))) := A4.out.setCell (p := ⟨g2, c, none⟩) (by show W0.heap.size ≤ g2; omega) _
            unfold putV at z5 f5 OB5 OV5 A5
            clear q0 q1 q2 q3 c0 c1 c2 c3 c4 c5 hb3 hy0 hu2
            go_wp2_with fail
            go_roundw
            case rel => exact ⟨c + 1, by omega, by go_num, OV5.out, OB5.out, A5.out⟩
            case measure => simp [intOf]; omega
          · have HR : Hid (r (c : Int) = (x, false)) := HN1.out hfr hll
            have OVE : Hid (w2.ownsRow W0.heap.size 59 2 (.slice (some ⟨g1, 0, none⟩) m m) m ((vpR m r (c + 1)).flatMap encM)) := by
              show World.ownsRow _ _ _ _ _ _ _
              rw [HVN.out, HR.out]; exact OV2.out
            have OBE : Hid (w2.ownsRow W0.heap.size 4 1 (.slice (some ⟨g2, 0, none⟩) m m) m ((sdR m r (c + 1)).flatMap encT)) := by
              show World.ownsRow _ _ _ _ _ _ _
              rw [HBK.out (by rw [HR.out])]; exact OB2.out
            rw [hfr] at c2
            have t0 : ¬ (0 : Int) < (l.length : Int) := by omega
            clear hfr
            go_wp2_with fail
            go_roundw
            case rel => exact ⟨c + 1, by omega, by go_num, OVE.out, OBE.out, A2.out⟩
            case measure => simp [intOf]; omega
        · have hll := True.intro
          have HR : Hid (r (c : Int) = wakeV j (c : Int) s x T.fresh l) := HY1.out (.inl hfr)
          have t0 : True := hll
          have HW2 := HWC.out w2 A2.out
          generalize wakeV j (c : Int) s x T.fresh l = R at *
          obtain ⟨⟨R1, R2⟩, R3⟩ := R
          simp only at HW2
          rw [hfr] at c2 HW2
          clear hfr HWC HWK
          go_wp2_with fail
          refine HW2.mono ?_
          rintro e w3 ⟨rfl, hb3⟩
          have A3 : Hid (Below W0.heap.size W0 w3) := A2.out.trans (hb3.mono A2.out.size)
          have OV3 : Hid (w3.ownsRow W0.heap.size 59 2 (.slice (some ⟨g1, 0, none⟩) m m) m (((vpR m r c).set c x).flatMap encM)) := own_below OV2.out hb3 (Nat.le_refl _)
          have OB3 : Hid (w3.ownsRow W0.heap.size 4 1 (.slice (some ⟨g2, 0, none⟩) m m) m ((sdR m r c).flatMap encT)) := own_below OB2.out hb3 (Nat.le_refl _)
          have hvl3 : c < ((vpR m r c).set c x).length := by rw [List.length_set]; exact hvl
          obtain ⟨z3, z4⟩ := own_atV OV3.out (List.getElem?_eq_getElem hvl3)
          have f3 := frozenK OV3.out (c * 2)
          have f4 := frozenK OV3.out (c * 2 + 1)
          have OV4 : Hid ((putV w3 g1 (c * 2) (R1, R2)).ownsRow W0.heap.size 59 2 (.slice (some ⟨g1, 0, none⟩) m m) m ((vpR m r (c + 1)).flatMap encM)) := by
            show World.ownsRow _ _ _ _ _ _ _
            have := own_putV OV3.out hvl3 (R1, R2)
            rw [List.set_set] at this
            rw [HVN.out, HR.out]; exact this
          have OB4 : Hid ((putV w3 g1 (c * 2) (R1, R2)).ownsRow W0.heap.size 4 1 (.slice (some ⟨g2, 0, none⟩) m m) m ((sdR m r c).flatMap encT)) := own_else OB3.out OV3.out (by decide) (kept_putV _ _ _ _)
          have A4 : Hid (Below W0.heap.size W0 (putV w3 g1 (c * 2) (R1, R2))) := below_putV A3.out (by omega) _
          obtain ⟨y0, hy0⟩ := getX (show c < (sdR m r c).length by rw [sdR_len]; exact hlt)
          have z5 := own_atB OB4.out hy0
          have f5 := frozenK OB4.out c
          have OB5 : Hid (((putV w3 g1 (c * 2) (R1, R2)).setCell ⟨g2, c, none⟩ (.bool R3)).ownsRow W0.heap.size 4 1 (.slice (some ⟨g2, 0, none⟩) m m) m ((sdR m r (c + 1)).flatMap encT)) := by
            show World.ownsRow _ _ _ _ _ _ _
            rw [HBN.out, HR.out]; exact own_setB OB4.out
          have OV5 : Hid (((putV w3 g1 (c * 2) (R1, R2)).setCell ⟨g2, c, none⟩ (.bool R3)).ownsRow W0.heap.size 59 2 (.slice (some ⟨g1, 0, none⟩) m m) m ((vpR m r (c + 1)).flatMap encM)) := own_else OV4.out OB4.out (by decide) (Kept.box _ _ _ _)
          have A5 : Hid (Below W0.heap.size W0 ((putV w3 g1 (c * 2) (R1, R2)).setCell ⟨g2, c, none⟩ (.bool R3))) := A4.out.setCell (p := ⟨g2, c, none⟩) (by show W0.heap.size ≤ g2; omega) _
          unfold putV at z5 f5 OB5 OV5 A5
          clear q0 q1 q2 q3 c0 c1 c2 c3 c4 c5 hb3 hy0 hu2
          go_wp2_with fail
          go_roundw
          case rel => exact ⟨c + 1, by omega, by go_num, OV5.out, OB5.out, A5.out⟩
          case measure => simp [intOf]; omega
      · have ec : c = m := by omega
        have OVE : Hid (wr.ownsRow w.heap.size 59 2 (.slice (some ⟨g1, 0, none⟩) m m) m ((valsR m r).flatMap encM)) := by
          have := OV.out
          rw [ec, vpR_all] at this
          exact own_lower this (by omega)
        have OBE : Hid (wr.ownsRow w.heap.size 4 1 (.slice (some ⟨g2, 0, none⟩) m m) m ((sdR m r m).flatMap encT)) := by
          have := OB.out
          rw [ec] at this
          exact own_lower this (by omega)
        have BE : Hid (Below w.heap.size w wr) := (HK.out _ AB.out).2.2
        clear ec
        go_wp2_with fail
        exact bodyPost_ret (v := .tuple #[.slice (some ⟨g1, 0, none⟩) m m, .slice (some ⟨g2, 0, none⟩) m m]) (by simp [results, Try.results48, go_sem]) rfl ⟨_, _, rfl, OVE.out, OBE.out, BE.out⟩
end Go.Proofs.Ytbmkgnlfccigpaa

namespace Go.Proofs.Ytbmkgnlfccigpaa
set_option maxRecDepth 100000
open Go.ChangeShapes Go.WideShapes Go.ChangeAt Go.RowKit

/-- What an append of one new element comes to, and where the row lies. -/
theorem run_append_newL {α : Type} (K : ElK α) {w : World} (ty : TypeId) (base : Nat) (v : Value) (xs : List α) (hown : w.ownsRow base K.e K.k v xs.length (xs.flatMap K.enc))
    (B : Nat) (x : α) (cs : Array Value) (hcs : cs.toList = K.enc x) (fr : Nat × Nat) (hblk : w.heap[B]? = some (.cells cs K.e fr)) (hlen : (xs.length + 1) * K.bytes ≤ 140737488355328) (hmax : xs.length + 1 ≤ maxLen) (hbase : base ≤ w.heap.size) :
    ∃ g c w', (Builtin.append_ #[K.t, K.t] ty #[v, .slice (some ⟨B, 0, none⟩) 1 1]).run Try.prog w = .ok (.slice (some ⟨g, 0, none⟩) (xs.length + 1) c) w' ∧
      w'.ownsRow base K.e K.k (.slice (some ⟨g, 0, none⟩) (xs.length + 1) c) (xs ++ [x]).length ((xs ++ [x]).flatMap K.enc) ∧ w.grownBy w' v.ownBlock ∧ (v.ownBlock = some g ∨ g = w.heap.size) := by
  obtain ⟨i0, hi, hz0, hz1, hz2⟩ := info_parts K.hi
  obtain ⟨g, c, w', hrun, hown2, hgrow, hl, _⟩ := run_append_lies (P := Try.prog) w K.t ty base K.e i0 K.z K.k K.bytes K.ht hi hz0 hz1 hz2 K.hz K.hk0 v _ _ hown
    ⟨B, 0, none⟩ 1 1 (K.enc x) (by rw [K.hk, Nat.one_mul]) (by rw [← hcs]; exact World.news_of_block hblk) (K.h1 x) (by omega) hmax hlen hbase _ rfl
  refine ⟨g, c, w', hrun, ?_, hgrow, hl⟩
  rw [flat_snoc, List.length_append]
  exact hown2
theorem wpList_append_newL {α : Type} (K : ElK α) {w : World} {ops : Array Oper} {rest : List Oper} {o : Oper} {a : Act} {Q : Exit → Act → World → Prop} (hgd : o.guard = none) (s y : Operand)
    (ho : o.op = .call { callee := .builtin .append, args := #[s, y], argTypes := #[K.t, K.t] })
    (base : Nat) (v : Value) (xs : List α) (hs : a.eval s = v) (hown : w.ownsRow base K.e K.k v xs.length (xs.flatMap K.enc))
    (B : Nat) (x : α) (hy : a.eval y = .slice (some ⟨B, 0, none⟩) 1 1) (cs : Array Value) (hcs : cs.toList = K.enc x) (fr : Nat × Nat) (hblk : w.heap[B]? = some (.cells cs K.e fr)) (hlen : (xs.length + 1) * K.bytes ≤ 140737488355328) (hmax : xs.length + 1 ≤ maxLen) (hbase : base ≤ w.heap.size)
    (h : ∀ g c w', w'.ownsRow base K.e K.k (.slice (some ⟨g, 0, none⟩) (xs.length + 1) c) (xs ++ [x]).length ((xs ++ [x]).flatMap K.enc) → w.grownBy w' v.ownBlock → (v.ownBlock = some g ∨ g = w.heap.size) → wpList Try.prog ops Q rest (a.put o.dst (.slice (some ⟨g, 0, none⟩) (xs.length + 1) c)) w') :
    wpList Try.prog ops Q (o :: rest) a w := by
  obtain ⟨g, c, w', hrun, h1, h2, h3⟩ := run_append_newL K o.type base v xs hown B x cs hcs fr hblk hlen hmax hbase
  refine wpList_plain hgd fun K' hK => ?_
  unfold Oper.wp
  simp [execOp, ho, resolve, invoke, builtin, hs, hy, hrun, Result.andThen]
  exact hK _ _ (h g c w' h1 h2 h3)
end Go.Proofs.Ytbmkgnlfccigpaa

namespace Go.Proofs.Ytbmkgnlfccigpaa
set_option maxRecDepth 100000
open Go.ChangeShapes Go.WideShapes Go.ChangeAt Go.RowKit

/-- A table of lists of numbers: each grows by itself. -/
structure TbI (w : World) (base g n : Nat) (vs : List Value) (f : List (List Int)) : Prop where
  row : w.ownsRow base 43 1 (.slice (some ⟨g, 0, none⟩) n n) n vs
  lv : vs.length = n
  lf : f.length = n
  el : ∀ (j : Nat) (u : Value) (l : List Int), vs[j]? = some u → f[j]? = some l → w.ownsRow base 3 1 u l.length (l.flatMap encI)
  ap : ∀ (i j : Nat) (u v : Value), i ≠ j → vs[i]? = some u → vs[j]? = some v → Apt u v
theorem TbI.kept {w w' : World} {base g n : Nat} {vs : List Value} {f : List (List Int)} (h : TbI w base g n vs f) (hk : Kept (fun _ => False) w w') : TbI w' base g n vs f :=
  ⟨hk.own h.row fun _ _ h => h, h.lv, h.lf, fun j u l hu hl => hk.own (h.el j u l hu hl) fun _ _ h => h, h.ap⟩
theorem TbI.own {w : World} {base g n : Nat} {vs : List Value} {f : List (List Int)} (h : TbI w base g n vs f) : OwnLi w base (.slice (some ⟨g, 0, none⟩) n n) f :=
  ⟨vs, by rw [h.lv, h.lf], by rw [h.lf]; exact h.row, h.el⟩
theorem TbI.cell {w : World} {base g n j : Nat} {vs : List Value} {f : List (List Int)} {u : Value} (h : TbI w base g n vs f) (hu : vs[j]? = some u) : w.cell? ⟨g, j, none⟩ = some u := by
  have := h.row.cells rfl j u hu
  rwa [addr_add] at this
/-- One of the lists has grown. -/
theorem TbI.put {w w' : World} {base g n j g' m c : Nat} {vs : List Value} {f : List (List Int)} {u : Value} {l : List Int} {x : Int} (h : TbI w base g n vs f) (hu : vs[j]? = some u) (hl : f[j]? = some l)
    (hg : w.grownBy w' u.ownBlock) (ho : w'.ownsRow base 3 1 (.slice (some ⟨g', 0, none⟩) m c) (l ++ [x]).length ((l ++ [x]).flatMap encI)) (hli : u.ownBlock = some g' ∨ g' = w.heap.size) :
    TbI (w'.setCell ⟨g, j, none⟩ (.slice (some ⟨g', 0, none⟩) m c)) base g n (vs.set j (.slice (some ⟨g', 0, none⟩) m c)) (f.set j (l ++ [x])) ∧ w'.cell? ⟨g, j, none⟩ = some u ∧ w'.frozen? ⟨g, j, none⟩ = false := by
  have hel := h.el j u l hu hl
  have hrow : w'.ownsRow base 43 1 (.slice (some ⟨g, 0, none⟩) n n) n vs := h.row.kept hg (own_apart h.row hel (by decide))
  have hgb : ∃ cur, w'.heap[g]? = some (.cells cur 43 (0, 0)) := by
    rcases hrow.2 with ⟨hv, _⟩ | ⟨g2, c2, cur, hv, _, hgg, _⟩
    · cases hv
    · injection hv with hv
      injection hv with hv
      injection hv with hv
      subst hv
      exact ⟨cur, hgg⟩
  obtain ⟨cur, hgb⟩ := hgb
  have hjn : j < vs.length := (List.getElem?_eq_some_iff.1 hu).1
  refine ⟨⟨own_setRow hrow, by rw [List.length_set]; exact h.lv, by rw [List.length_set]; exact h.lf, ?_, ?_⟩, ?_, frozenK hrow j⟩
  · intro i v k hv hk
    have kb := Kept.box w' g j (.slice (some ⟨g', 0, none⟩) m c)
    by_cases hij : j = i
    · subst hij
      rw [List.getElem?_set_self hjn] at hv
      rw [List.getElem?_set_self (by rw [h.lf, ← h.lv]; exact hjn)] at hk
      injection hv with hv
      injection hk with hk
      subst hv hk
      exact kb.own ho fun q hq => own_block ho hq hgb (by decide)
    · rw [List.getElem?_set_ne hij] at hv hk
      have h1 := h.el i v k hv hk
      have h2 := h1.kept hg (h.ap i j v u (fun e => hij e.symm) hv hu).or
      exact kb.own h2 fun q hq => own_block h2 hq hgb (by decide)
  · intro i k a b hik ha hb
    by_cases h1 : j = i
    · subst h1
      rw [List.getElem?_set_self hjn] at ha
      injection ha with ha
      subst ha
      rw [List.getElem?_set_ne hik] at hb
      have hkf : k < f.length := by rw [h.lf, ← h.lv]; exact (List.getElem?_eq_some_iff.1 hb).1
      exact (h.ap j k u b hik hu hb).grown hli (h.el k b f[k] hb (List.getElem?_eq_getElem hkf))
    · rw [List.getElem?_set_ne h1] at ha
      by_cases h2 : j = k
      · subst h2
        rw [List.getElem?_set_self hjn] at hb
        injection hb with hb
        subst hb
        have hif : i < f.length := by rw [h.lf, ← h.lv]; exact (List.getElem?_eq_some_iff.1 ha).1
        exact ((h.ap j i u a (fun e => hik e.symm) hu ha).grown hli (h.el i a f[i] ha (List.getElem?_eq_getElem hif))).symm
      · rw [List.getElem?_set_ne h2] at hb
        exact h.ap i k a b hik ha hb
  · have := hrow.cells rfl j u hu
    rwa [addr_add] at this
theorem made_nilI (m : Nat) : (madeCells (Value.slice none 0 0).cells (m * 1)).toList = List.replicate m (.slice none 0 0) := by
  simp [madeCells, Value.cells]
  refine List.ext_getElem? fun v => ?_
  rcases Nat.lt_or_ge v m with hv | hv
  · rw [List.getElem?_map, List.getElem?_range hv, List.getElem?_replicate, if_pos hv]
    simp [Nat.mod_one]
  · rw [List.getElem?_eq_none (by simpa using hv), List.getElem?_eq_none (by simpa using hv)]
/-- make([][]int, m). -/
theorem make_tbi (w : World) (m : Nat) (hm : m ≤ 1000000) :
    ∃ w', (Instr.makeSlice 28 (.int .i64 (m : Int)) (.int .i64 (m : Int))).run Try.prog w = .ok (.slice (some ⟨w.heap.size, 0, none⟩) m m) w' ∧ TbI w' w.heap.size w.heap.size m (List.replicate m (.slice none 0 0)) (List.replicate m []) ∧ Below w.heap.size w w' := by
  obtain ⟨i0, hi, hz0, hz1, hz2⟩ := info_parts Try.infoLi
  obtain ⟨w', h1, h2, h3⟩ := run_makeSlice_full (P := Try.prog) w w.heap.size 28 43 i0 (.slice none 0 0) 1 Try.underlying28 hi hz0 hz1 .i64 .i64 m (by omega) (by rw [hz2]; omega) (by unfold maxLen; omega) (Nat.le_refl _)
  rw [made_nilI] at h2
  refine ⟨w', h1, ⟨h2, by simp, by simp, fun j u l hu hl => ?_, fun i j u v _ hu _ => ?_⟩, (Below.refl _ _).grown h3 (Nat.le_refl _) (fun k hk => by cases hk)⟩
  · rw [List.getElem?_replicate] at hu hl
    split at hu
    · injection hu with hu
      rw [if_pos (by assumption)] at hl
      injection hl with hl
      subst hu hl
      exact World.ownsRow_nil _ _ _ _
    · cases hu
  · rw [List.getElem?_replicate] at hu
    split at hu
    · injection hu with hu
      subst hu
      exact Apt.nil _
    · cases hu

theorem TbI.lower {w : World} {base b g n : Nat} {vs : List Value} {f : List (List Int)} (h : TbI w base g n vs f) (hb : b ≤ base) : TbI w b g n vs f :=
  ⟨own_lower h.row hb, h.lv, h.lf, fun j u l hu hl => own_lower (h.el j u l hu hl) hb, h.ap⟩
/-- Blocks of other types are written. -/
theorem TbI.off {S : Nat → Prop} {w w' : World} {base g n : Nat} {vs : List Value} {f : List (List Int)} (h : TbI w base g n vs f) (hk : Kept S w w') (hs : ∀ k, S k → ∃ cs t fr, w.heap[k]? = some (.cells cs t fr) ∧ 43 ≠ t ∧ 3 ≠ t) : TbI w' base g n vs f :=
  ⟨hk.own h.row fun q hq hS => by obtain ⟨cs, t, fr, h1, h2, h3⟩ := hs q hS; exact own_block h.row hq h1 h2 rfl, h.lv, h.lf, fun j u l hu hl => hk.own (h.el j u l hu hl) fun q hq hS => by obtain ⟨cs, t, fr, h1, h2, h3⟩ := hs q hS; exact own_block (h.el j u l hu hl) hq h1 h3 rfl, h.ap⟩
/-- One of the lists is written anew, in its place. -/
theorem TbI.turn {w w' : World} {base g n j : Nat} {vs : List Value} {f : List (List Int)} {u : Value} {l l' : List Int} (h : TbI w base g n vs f) (hu : vs[j]? = some u) (hl : f[j]? = some l)
    (hk : Kept (fun q => u.ownBlock = some q) w w') (ho : w'.ownsRow base 3 1 u l'.length (l'.flatMap encI)) : TbI w' base g n vs (f.set j l') := by
  have hel := h.el j u l hu hl
  refine ⟨hk.own h.row fun q hq hs => ?_, h.lv, by rw [List.length_set]; exact h.lf, ?_, h.ap⟩
  · rcases own_apart h.row hel (by decide) with e | e
    · rw [e] at hq; cases hq
    · exact e (hq.trans hs.symm)
  · intro i v k hv hk2
    by_cases hij : j = i
    · subst hij
      rw [List.getElem?_set_self (List.getElem?_eq_some_iff.1 hl).1] at hk2
      rw [hu] at hv
      injection hv with hv
      injection hk2 with hk2
      subst hv hk2
      exact ho
    · rw [List.getElem?_set_ne hij] at hk2
      exact hk.own (h.el i v k hv hk2) fun q hq hs => h.ap i j v u (fun e => hij e.symm) hv hu q hq hs
end Go.Proofs.Ytbmkgnlfccigpaa

namespace Go.Proofs.Ytbmkgnlfccigpaa
open Go.Shelf
def Try.lays189_ren : Go.Shelf.Ren := ⟨fun | 189 => 69 | 125 => 85 | 257 => 84 | 128 => 99 | 129 => 100 | 294 => 91 | 295 => 92 | 296 => 93 | 297 => 94 | 298 => 95 | 299 => 96 | 216 => 80 | 300 => 97 | 301 => 98 | 328 => 101 | 329 => 102 | 330 => 103 | 331 => 104 | 332 => 105 | 215 => 88 | 343 => 106 | n => n, fun | 28 => 43 | 3 => 3 | 46 => 133 | 0 => 0 | 51 => 154 | 53 => 156 | 4 => 4 | 183 => 147 | 182 => 146 | 131 => 151 | 5 => 5 | 9 => 9 | 218 => 157 | 222 => 161 | 228 => 163 | 229 => 164 | n => n, fun | n => n⟩
theorem Try.lays189 : Go.Proofs.Lays.n189 Try.prog Try.lays189_ren := {
  mixed := by kernel_rfl
  f125 := Try.func85.trans (congrArg some (by kernel_rfl))
  f128 := Try.func99.trans (congrArg some (by kernel_rfl))
  f129 := Try.func100.trans (congrArg some (by kernel_rfl))
  f189 := Try.func69.trans (congrArg some (by kernel_rfl))
  f215 := Try.func88.trans (congrArg some (by kernel_rfl))
  f216 := Try.func80.trans (congrArg some (by kernel_rfl))
  f257 := Try.func84.trans (congrArg some (by kernel_rfl))
  f294 := Try.func91.trans (congrArg some (by kernel_rfl))
  f295 := Try.func92.trans (congrArg some (by kernel_rfl))
  f296 := Try.func93.trans (congrArg some (by kernel_rfl))
  f297 := Try.func94.trans (congrArg some (by kernel_rfl))
  f298 := Try.func95.trans (congrArg some (by kernel_rfl))
  f299 := Try.func96.trans (congrArg some (by kernel_rfl))
  f300 := Try.func97.trans (congrArg some (by kernel_rfl))
  f301 := Try.func98.trans (congrArg some (by kernel_rfl))
  f328 := Try.func101.trans (congrArg some (by kernel_rfl))
  f329 := Try.func102.trans (congrArg some (by kernel_rfl))
  f330 := Try.func103.trans (congrArg some (by kernel_rfl))
  f331 := Try.func104.trans (congrArg some (by kernel_rfl))
  f332 := Try.func105.trans (congrArg some (by kernel_rfl))
  f343 := Try.func106.trans (congrArg some (by kernel_rfl))
  t0 := Try.underlying0
  a0 := Try.isAgg0
  z0 := Try.sizeOf0
  v0 := Try.zeroValue0
  t3 := Try.underlying3
  a3 := Try.isAgg3
  z3 := Try.sizeOf3
  v3 := Try.zeroValue3
  t4 := Try.underlying4
  a4 := Try.isAgg4
  z4 := Try.sizeOf4
  v4 := Try.zeroValue4
  t5 := Try.underlying5
  a5 := Try.isAgg5
  z5 := Try.sizeOf5
  v5 := Try.zeroValue5
  t9 := Try.underlying9
  a9 := Try.isAgg9
  z9 := Try.sizeOf9
  v9 := Try.zeroValue9
  t28 := Try.underlying43
  a28 := Try.isAgg43
  z28 := Try.sizeOf43
  v28 := Try.zeroValue43
  t46 := Try.underlying133
  a46 := Try.isAgg133
  z46 := Try.sizeOf133
  v46 := Try.zeroValue133
  t51 := Try.underlying154
  a51 := Try.isAgg154
  z51 := Try.sizeOf154
  v51 := Try.zeroValue154
  t53 := Try.underlying156
  a53 := Try.isAgg156
  z53 := Try.sizeOf156
  v53 := Try.zeroValue156
  t131 := Try.underlying151
  a131 := Try.isAgg151
  z131 := Try.sizeOf151
  v131 := Try.zeroValue151
  t182 := Try.underlying146
  a182 := Try.isAgg146
  z182 := Try.sizeOf146
  v182 := Try.zeroValue146
  t183 := Try.underlying147
  a183 := Try.isAgg147
  z183 := Try.sizeOf147
  v183 := Try.zeroValue147
  t218 := Try.underlying157
  a218 := Try.isAgg157
  z218 := Try.sizeOf157
  v218 := Try.zeroValue157
  t222 := Try.underlying161
  a222 := Try.isAgg161
  z222 := Try.sizeOf161
  v222 := Try.zeroValue161
  t228 := Try.underlying163
  a228 := Try.isAgg163
  z228 := Try.sizeOf163
  v228 := Try.zeroValue163
  t229 := Try.underlying164
  a229 := Try.isAgg164
  z229 := Try.sizeOf164
  v229 := Try.zeroValue164 }
open Go.Sort Go.RowKit in
theorem Try.slices_Sort_int (blk off cap : Nat) (zs : List Int) (w : World) (hH : Holds (Value.int .i64) w blk off zs.toArray) (hblk : blk < w.heap.size) (hsz : zs.length < 4611686018427387904) :
    Calls Try.prog 69 #[.slice (some ⟨blk, off, none⟩) zs.length cap] w fun e w' =>
      e = .returned (.tuple #[]) ∧ ∃ n os, w' = grow (putRow (Value.int .i64) (Sort.ahead w n) blk off (zs.mergeSort fun x y => decide (x ≤ y)).toArray) os := Any.slices_Sort_int Try.lays189 blk off cap zs w hH hblk hsz
open Go.RowKit Go.Sort in
theorem Try.slices_Sort_int_none (p : Option Addr) (cap : Nat) (w : World) :
    Calls Try.prog 69 #[.slice p 0 cap] w fun e w' => e = .returned (.tuple #[]) ∧ w' = w := Any.slices_Sort_int_none Try.lays189 p cap w
end Go.Proofs.Ytbmkgnlfccigpaa

namespace Go.Proofs.Ytbmkgnlfccigpaa
set_option maxRecDepth 100000
open Go.ChangeShapes Go.WideShapes Go.ChangeAt Go.RowKit Go.Sort

theorem sortI_any (base : Nat) (v : Value) (l : List Int) (w : World) (h : w.ownsRow base 3 1 v l.length (l.flatMap encI)) (hl : l.length < 4611686018427387904) :
    Calls Try.prog 69 #[v] w fun e w' => e = .returned (.tuple #[]) ∧ w'.ownsRow base 3 1 v (sortN l).length ((sortN l).flatMap encI) ∧ Kept (fun q => v.ownBlock = some q) w w' := by
  rcases h.2 with ⟨rfl, h0⟩ | ⟨g, cap, cur, rfl, hg, hgg, hc, hm, hcur, htk⟩
  · have : l = [] := List.eq_nil_of_length_eq_zero h0
    subst this
    have e0 : sortN [] = [] := List.eq_nil_of_length_eq_zero (by rw [sortN_len]; rfl)
    refine (Try.slices_Sort_int_none none 0 w).mono ?_
    rintro e w' ⟨rfl, rfl⟩
    exact ⟨rfl, by rw [e0]; exact h, Kept.refl _ _⟩
  · have lt : g < w.heap.size := (Array.getElem?_eq_some_iff.1 hgg).1
    have hH : Holds (Value.int .i64) w g 0 l.toArray := fun j hj => by
      have hj' : j < l.length := by simpa using hj
      refine ⟨?_, ?_⟩
      · have := own_atN h (List.getElem?_eq_getElem hj')
        rw [Nat.zero_add, this, getElem!_pos _ _ (by simpa using hj')]
        simp
      · exact box_frozen hgg _
    refine (Try.slices_Sort_int g 0 cap l w hH lt hl).mono ?_
    rintro e w' ⟨rfl, n, os, rfl⟩
    have hsl : (sortN l).length = l.length := sortN_len l
    have hblk : (grow (putRow (Value.int .i64) (Sort.ahead w n) g 0 (l.mergeSort fun x y => decide (x ≤ y)).toArray) os).heap[g]? = some (.cells (putCells (Value.int .i64) 0 (sortN l).toArray cur) 3 (0, 0)) := by
      simp only [grow, putRow, mapBlock, Sort.ahead]
      rw [Array.getElem?_append_left (by simpa using lt), Array.getElem?_modify, if_pos rfl, hgg]
      rfl
    refine ⟨rfl, ⟨flat_len encI_len _, .inr ⟨g, cap, _, by rw [hsl], hg, hblk, by rw [hsl]; exact hc, hm, by simp [putCells, hcur], ?_⟩⟩, ?_⟩
    · rw [flatI]
      refine List.ext_getElem? fun t => ?_
      rcases Nat.lt_or_ge t (sortN l).length with ht | ht
      · rw [List.getElem?_take_of_lt (by omega), Array.getElem?_toList, List.getElem?_map, List.getElem?_eq_getElem ht]
        simp only [putCells, Array.getElem?_mapIdx]
        have hc2 : t < cur.size := by rw [hcur]; omega
        rw [Array.getElem?_eq_getElem hc2, Option.map_some, if_pos ⟨by omega, by simpa using ht⟩, Nat.sub_zero, getElem!_pos _ _ (by simpa using ht)]
        simp
      · rw [List.getElem?_eq_none (by rw [List.length_take]; omega), List.getElem?_eq_none (by simpa using ht)]
    · refine ⟨rfl, rfl, rfl, by simp [grow, putRow, mapBlock, Sort.ahead], fun k hk hne => ?_⟩
      have hkg : g ≠ k := fun e => hne (by rw [← e]; rfl)
      simp only [grow, putRow, mapBlock, Sort.ahead]
      rw [Array.getElem?_append_left (by simpa using hk), Array.getElem?_modify, if_neg hkg]
end Go.Proofs.Ytbmkgnlfccigpaa
