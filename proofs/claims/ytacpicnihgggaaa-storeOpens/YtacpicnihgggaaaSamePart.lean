/-
  Contract of the law's own samePart, of parts that read alike.
-/
import Derived.Test.YtacpicnihgggaaaOpenRead
import Derived.Test.YtacpicnihgggaaaSameHops
import Derived.Lib.QuietBelow
namespace Go.Proofs.Ytacpicnihgggaaa
set_option maxRecDepth 100000
open Go.ChangeShapes Go.WideShapes Go.ChangeAt Go.RowKit Go.Sort

theorem PartR.below {w w' : World} {v : Value} {p : PartL} {B : Nat} (h : PartR w v p) (hb : Below B w w') (hB : w.heap.size ≤ B) : PartR w' v p := by
  obtain ⟨vo, vi, rfl, h1, h2⟩ := h
  exact ⟨vo, vi, rfl, h1.below hb hB, h2.below hb hB⟩

set_option maxHeartbeats 2000000 in
set_option maxRecDepth 100000 in
theorem samePart_yes (va vb : Value) (p : PartL) (w : World) (ha : PartR w va p) (hb : PartR w vb p) :
    Calls Try.prog 16 #[va, vb] w fun e w' => e = .returned (.bool true) ∧ Below w.heap.size w w' := by
  obtain ⟨ao, ai, rfl, hao, hai⟩ := ha
  obtain ⟨bo, bi, rfl, hbo, hbi⟩ := hb
  obtain ⟨p1, p2, p3, po, pin⟩ := p
  simp only at *
  have AO : Hid (LsR w ao po) := hao
  have AI : Hid (LsR w ai pin) := hai
  have BO : Hid (LsR w bo po) := hbo
  have BI : Hid (LsR w bi pin) := hbi
  obtain ⟨aoa, aoc, rfl, _, hm1, _⟩ := hao
  obtain ⟨aia, aic, rfl, _, hm2, _⟩ := hai
  obtain ⟨boa, boc, rfl, hc3, hm3, _⟩ := hbo
  obtain ⟨bia, bic, rfl, hc4, hm4, _⟩ := hbi
  unfold maxLen at hm1 hm2 hm3 hm4
  have n1 : (p1 != p1) = false := by simp
  have n2 : (p2 != p2) = false := by simp
  have n3 : (p3 != p3) = false := by simp
  have n4 : ((po.length : Int) != (po.length : Int)) = false := by simp
  have n5 : ((pin.length : Int) != (pin.length : Int)) = false := by simp
  have W0 : Hid (Below w.heap.size w ((w.alloc (.cells #[.int .i64 p1, .int .i64 p2, .int .i64 p3, .slice aoa po.length aoc, .slice aia pin.length aic] 36)).alloc (.cells #[.int .i64 p1, .int .i64 p2, .int .i64 p3, .slice boa po.length boc, .slice bia pin.length bic] 36)) ∧
    PB ((w.alloc (.cells #[.int .i64 p1, .int .i64 p2, .int .i64 p3, .slice aoa po.length aoc, .slice aia pin.length aic] 36)).alloc (.cells #[.int .i64 p1, .int .i64 p2, .int .i64 p3, .slice boa po.length boc, .slice bia pin.length bic] 36)) w.heap.size (.int .i64 p1) (.int .i64 p2) (.int .i64 p3) (.slice aoa po.length aoc) (.slice aia pin.length aic) ∧
    PB ((w.alloc (.cells #[.int .i64 p1, .int .i64 p2, .int .i64 p3, .slice aoa po.length aoc, .slice aia pin.length aic] 36)).alloc (.cells #[.int .i64 p1, .int .i64 p2, .int .i64 p3, .slice boa po.length boc, .slice bia pin.length bic] 36)) (w.heap.size + 1) (.int .i64 p1) (.int .i64 p2) (.int .i64 p3) (.slice boa po.length boc) (.slice bia pin.length bic)) :=
    ⟨(below_alloc _ _).alloc (by simp) _, PB.kept (S := fun _ => False) (box_new w _ _) ((Kept.refl _ _).alloc _) fun h => h, heap_second _ _ _ _⟩
  go_enter Try.func16, Try.ntmps16
  go_upto_region 1 with fail
  generalize (w.alloc (.cells #[.int .i64 p1, .int .i64 p2, .int .i64 p3, .slice aoa po.length aoc, .slice aia pin.length aic] 36)).alloc (.cells #[.int .i64 p1, .int .i64 p2, .int .i64 p3, .slice boa po.length boc, .slice bia pin.length bic] 36) = w0 at *
  obtain ⟨a0, a1, a2, a3, a4⟩ := W0.out.2.1.cells
  obtain ⟨b0, b1, b2, b3, b4⟩ := W0.out.2.2.cells
  have hA := W0.out.2.1.lt
  have hB := W0.out.2.2.lt
  have HW : Hid (Below w.heap.size w w0) := W0.out.1
  have CC : Hid (∀ X, Below w0.heap.size w0 X → (X.cell? ⟨w.heap.size, 3, none⟩ = some (.slice aoa po.length aoc) ∧ X.cell? ⟨w.heap.size, 4, none⟩ = some (.slice aia pin.length aic)) ∧ X.cell? ⟨w.heap.size + 1, 3, none⟩ = some (.slice boa po.length boc) ∧ X.cell? ⟨w.heap.size + 1, 4, none⟩ = some (.slice bia pin.length bic)) := fun X hX =>
    ⟨⟨(hX.cell (p := ⟨w.heap.size, 3, none⟩) hA).trans a3, (hX.cell (p := ⟨w.heap.size, 4, none⟩) hA).trans a4⟩, (hX.cell (p := ⟨w.heap.size + 1, 3, none⟩) hB).trans b3, (hX.cell (p := ⟨w.heap.size + 1, 4, none⟩) hB).trans b4⟩
  have hs0 := HW.out.size
  clear W0
  go_wp2_with fail
  clear a0 a1 a2 a3 a4 b0 b1 b2 b3 b4
  go_loopw [5] (fun i wr => ∃ k : Nat, k ≤ po.length ∧ i = .int .i64 k ∧ Below w0.heap.size w0 wr) (fun i _ => po.length - (intOf i).toNat)
  case atStart => exact ⟨0, by omega, rfl, Below.refl _ _⟩
  case round =>
    obtain ⟨k, hk, rfl, hbel⟩ := hrel
    have HB : Hid (Below w0.heap.size w0 wr) := hbel
    obtain ⟨⟨c3, c4⟩, d3, d4⟩ := CC.out wr hbel
    have hsr := hbel.size
    clear hbel
    by_cases hlt : k < po.length
    · have HWR : Hid (Below w.heap.size w wr) := HW.out.trans (HB.out.mono hs0)
      obtain ⟨xb, xo, xc, e1, xl, _, _, hx⟩ := (AO.out.below HWR.out (Nat.le_refl _)).at (by omega)
      injection e1 with e1 _ e3
      subst e1 e3
      obtain ⟨yb, yo, yc, e1, yl, _, _, hy⟩ := (BO.out.below HWR.out (Nat.le_refl _)).at (by omega)
      injection e1 with e1 _ e3
      subst e1 e3
      obtain ⟨l, hl⟩ := getX hlt
      obtain ⟨x, x1, x2⟩ := hx k l hl
      obtain ⟨y, y1, y2⟩ := hy k l hl
      obtain ⟨xa', xc', rfl⟩ := x2.shape
      obtain ⟨ya', yc', rfl⟩ := y2.shape
      have g1 := cell_regrown c3
      have g2 := cell_regrown d3
      have g3 := cell_regrown x1
      have g4 := cell_regrown y1
      have EE : ∀ d os, Calls Try.prog 42 #[.slice xa' l.length xc', .slice ya' l.length yc'] (grow (redrawn wr d) os) fun e w'' => e = .returned (.bool true) ∧ ∃ p : Regrown, w'' = grow (redrawn wr p.d) p.os := fun d os => Calls.regrown_of (sameHops_yes _ _ l _ (x2.below (below_regrown wr d os) (Nat.le_refl _)) (y2.below (below_regrown wr d os) (Nat.le_refl _)))
      have i1 : (0 : Int) ≤ (k : Int) := by omega
      have i2 : (k : Int) < (po.length : Int) := by omega
      clear x1 y1 x2 y2 hx hy hl c4 d4 HWR
      go_wp2_with fail
      refine wp_region_quiet_below (by kernel_rfl) (by kernel_rfl) ?_
      repeat (quiet_step (exact EE _ _))
      refine wpQuiet_nil ?_
      intro _ hw'
      obtain ⟨⟨dq, osq⟩, hw''⟩ := hw'
      have HB9 : Hid (Below w0.heap.size w0 (grow (redrawn wr dq) osq)) := HB.out.trans ((below_regrown wr dq osq).mono hsr)
      subst hw''
      generalize grow (redrawn wr dq) osq = W9 at HB9 ⊢
      clear g1 g2 g3 g4 EE c3 d3
      go_wp2_with fail
      go_roundw
      case rel => exact ⟨k + 1, by omega, by go_num, HB9.out⟩
      case measure => simp [intOf]; omega
    · go_wp2_with fail
      have HB1 : Hid (Below w0.heap.size w0 wr) := HB.out
      clear c3 c4 d3 d4 hsr hlt HB hk
      go_loopw [6] (fun i wr => ∃ k : Nat, k ≤ pin.length ∧ i = .int .i64 k ∧ Below w0.heap.size w0 wr) (fun i _ => pin.length - (intOf i).toNat)
      case atStart => exact ⟨0, by omega, rfl, HB1.out⟩
      case round =>
        clear HB1
        obtain ⟨k, hk, rfl, hbel⟩ := hrel
        have HB : Hid (Below w0.heap.size w0 wr) := hbel
        obtain ⟨⟨c3, c4⟩, d3, d4⟩ := CC.out wr hbel
        have hsr := hbel.size
        clear hbel
        by_cases hlt : k < pin.length
        · have HWR : Hid (Below w.heap.size w wr) := HW.out.trans (HB.out.mono hs0)
          obtain ⟨xb, xo, xc, e1, xl, _, _, hx⟩ := (AI.out.below HWR.out (Nat.le_refl _)).at (by omega)
          injection e1 with e1 _ e3
          subst e1 e3
          obtain ⟨yb, yo, yc, e1, yl, _, _, hy⟩ := (BI.out.below HWR.out (Nat.le_refl _)).at (by omega)
          injection e1 with e1 _ e3
          subst e1 e3
          obtain ⟨l, hl⟩ := getX hlt
          obtain ⟨x, x1, x2⟩ := hx k l hl
          obtain ⟨y, y1, y2⟩ := hy k l hl
          obtain ⟨xa', xc', rfl⟩ := x2.shape
          obtain ⟨ya', yc', rfl⟩ := y2.shape
          have g1 := cell_regrown c4
          have g2 := cell_regrown d4
          have g3 := cell_regrown x1
          have g4 := cell_regrown y1
          have EE : ∀ d os, Calls Try.prog 42 #[.slice xa' l.length xc', .slice ya' l.length yc'] (grow (redrawn wr d) os) fun e w'' => e = .returned (.bool true) ∧ ∃ p : Regrown, w'' = grow (redrawn wr p.d) p.os := fun d os => Calls.regrown_of (sameHops_yes _ _ l _ (x2.below (below_regrown wr d os) (Nat.le_refl _)) (y2.below (below_regrown wr d os) (Nat.le_refl _)))
          have i1 : (0 : Int) ≤ (k : Int) := by omega
          have i2 : (k : Int) < (pin.length : Int) := by omega
          clear x1 y1 x2 y2 hx hy hl c3 d3 HWR
          go_wp2_with fail
          refine wp_region_quiet_below (by kernel_rfl) (by kernel_rfl) ?_
          repeat (quiet_step (exact EE _ _))
          refine wpQuiet_nil ?_
          intro _ hw'
          obtain ⟨⟨dq, osq⟩, hw''⟩ := hw'
          have HB9 : Hid (Below w0.heap.size w0 (grow (redrawn wr dq) osq)) := HB.out.trans ((below_regrown wr dq osq).mono hsr)
          subst hw''
          generalize grow (redrawn wr dq) osq = W9 at HB9 ⊢
          clear g1 g2 g3 g4 EE c4 d4
          go_wp2_with fail
          go_roundw
          case rel => exact ⟨k + 1, by omega, by go_num, HB9.out⟩
          case measure => simp [intOf]; omega
        · go_wp2_with fail
          go_ret
          exact ⟨rfl, HW.out.trans (HB.out.mono hs0)⟩
end Go.Proofs.Ytacpicnihgggaaa
