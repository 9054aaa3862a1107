/-
  Contracts of store's compare and of slices.IsSortedFunc with it.
-/
import Derived.Test.YtacpicnihgggaaaCmpInt
import Derived.Test.YtacpicnihgggaaaPartMath
import Derived.Test.YtacpicnihgggaaaRowAt
import Derived.Deep.RegionHeld3
import Derived.Deep.QuietTactic
import Derived.BigQuiet
import Derived.Lib.QuietBelow
namespace Go.Proofs.Ytacpicnihgggaaa
set_option maxRecDepth 100000
open Go.ChangeShapes Go.WideShapes Go.ChangeAt Go.RowKit Go.Sort

/-- The first that is not 0. -/
def or2 (a b : Int) : Int := if a ≠ 0 then a else b

set_option maxHeartbeats 1000000 in
theorem cmpOr2_any (a b : Int) (q : Nat) (w : World) (h0 : w.cell? ⟨q, 0, none⟩ = some (.int .i64 a)) (h1 : w.cell? ⟨q, 1, none⟩ = some (.int .i64 b)) :
    Calls Try.prog 81 #[.slice (some ⟨q, 0, none⟩) 2 2] w fun e w' => e = .returned (.int .i64 (or2 a b)) ∧ w' = w := by
  unfold or2
  by_cases ha : a ≠ 0
  · rw [if_pos ha]
    have ha' : (a != 0) = true := by simpa using ha
    go_enter Try.func81, Try.ntmps81
    go_wp2
    refine wp_loop_rounds 1 ?_
    rw [rounds_succ]
    go_wp2
    go_ret
    exact ⟨rfl, rfl⟩
  · rw [if_neg ha]
    have ha' : (a != 0) = false := by simpa using ha
    by_cases hb : b ≠ 0
    · have hb' : (b != 0) = true := by simpa using hb
      go_enter Try.func81, Try.ntmps81
      go_wp2
      refine wp_loop_rounds 2 ?_
      rw [rounds_succ]
      go_wp2
      rw [rounds_succ]
      go_wp2
      go_ret
      exact ⟨rfl, rfl⟩
    · have hb' : (b != 0) = false := by simpa using hb
      have hb0 : b = 0 := by simpa using hb
      go_enter Try.func81, Try.ntmps81
      go_wp2
      refine wp_loop_rounds 3 ?_
      rw [rounds_succ]
      go_wp2
      rw [rounds_succ]
      go_wp2
      rw [rounds_succ]
      go_wp2
      go_ret
      exact ⟨by rw [hb0]; rfl, rfl⟩

/-- To, then Weight. -/
def cmpH (x y : Hp) : Int := or2 (cmpI x.1 y.1) (cmpI x.2 y.2)
theorem cmpH_lt (x y : Hp) : decide (cmpH x y < 0) = ltHb x y := by
  unfold ltHb
  congr 1
  unfold cmpH or2 cmpI
  refine propext ⟨fun h => ?_, fun h => ?_⟩
  · split at h <;> (try split at h) <;> omega
  · split <;> (try split) <;> omega
/-- The boxes of the two hops, and what was there. -/
def CmpT (W V : World) (a0 a1 b0 b1 : Int) : Prop :=
  V.cell? ⟨W.heap.size, 0, none⟩ = some (.int .i64 a0) ∧ V.cell? ⟨W.heap.size + 1, 0, none⟩ = some (.int .i64 b0) ∧ V.cell? ⟨W.heap.size, 1, none⟩ = some (.int .i64 a1) ∧ V.cell? ⟨W.heap.size + 1, 1, none⟩ = some (.int .i64 b1) ∧ W.heap.size ≤ V.heap.size ∧ Below W.heap.size W V
theorem cmpT_start (W : World) (a0 a1 b0 b1 : Int) : CmpT W ((W.alloc (.cells #[.int .i64 a0, .int .i64 a1] 87)).alloc (.cells #[.int .i64 b0, .int .i64 b1] 87)).drew a0 a1 b0 b1 :=
  ⟨by simp, by simp, by simp, by simp, by simp; omega, ((below_alloc W _).alloc (by simp) _).drew⟩
theorem cmpT_alloc {W V : World} {a0 a1 b0 b1 : Int} (h : CmpT W V a0 a1 b0 b1) (o : Obj) : CmpT W (V.alloc o) a0 a1 b0 b1 := by
  obtain ⟨h1, h2, h3, h4, h5, h6⟩ := h
  have c : ∀ {p : Addr} {v : Value}, V.cell? p = some v → (V.alloc o).cell? p = some v := fun {p v} hp => ((below_alloc V o).cell (p := p) (World.block_lt_of_cell? V p hp)).trans hp
  exact ⟨c h1, c h2, c h3, c h4, by simp; omega, h6.alloc h5 o⟩
theorem heap_third' (w : World) (o1 o2 : Obj) (cs : Array Value) (t : TypeId) : (((w.alloc o1).alloc o2).alloc (.cells cs t)).drew.heap[w.heap.size + 1 + 1]? = some (.cells cs t (0, 0)) := by
  have := heap_second (w.alloc o1) o2 cs t
  have e : (w.alloc o1).heap.size = w.heap.size + 1 := by simp
  rw [e] at this
  exact this

set_option maxHeartbeats 2000000 in
set_option maxRecDepth 100000 in
theorem hopCmp_any (x y : Hp) (W : World) : Calls Try.prog 76 #[.agg #[.int .i64 x.1, .int .i64 x.2], .agg #[.int .i64 y.1, .int .i64 y.2]] W fun e w' => e = .returned (.int .i64 (cmpH x y)) ∧ Below W.heap.size W w' := by
  unfold cmpH
  obtain ⟨a0, a1⟩ := x
  obtain ⟨b0, b1⟩ := y
  simp only
  have HS0 : Hid (CmpT W _ a0 a1 b0 b1) := cmpT_start W a0 a1 b0 b1
  generalize hor : or2 (cmpI a0 b0) (cmpI a1 b1) = rr
  have c3 : Hid (∀ (q : Nat) (V : World), V.heap[q]? = some (.cells #[.int .i64 (cmpI a0 b0), .int .i64 (cmpI a1 b1)] 3 (0, 0)) → Calls Try.prog 81 #[.slice (some ⟨q, 0, none⟩) 2 2] V fun e w' => e = .returned (.int .i64 rr) ∧ w' = V) := fun q V h => by rw [← hor]; exact cmpOr2_any _ _ q V (by rw [cell_of_row _ _ _ _ _ _ h]; rfl) (by rw [cell_of_row _ _ _ _ _ _ h]; rfl)
  clear hor
  go_enter Try.func76, Try.ntmps76
  go_wp2_with fail
  go_region_held3 (fun V => V.cell? ⟨W.heap.size, 0, none⟩ = some (.int .i64 a0) ∧ V.cell? ⟨W.heap.size + 1, 0, none⟩ = some (.int .i64 b0) ∧ V.cell? ⟨W.heap.size, 1, none⟩ = some (.int .i64 a1) ∧ V.cell? ⟨W.heap.size + 1, 1, none⟩ = some (.int .i64 b1) ∧ W.heap.size ≤ V.heap.size ∧ Below W.heap.size W V) (first | exact HS0.out | assumption | exact cmpT_alloc (by assumption) _) (first | (go_at_call 82; refine (cmpInt_any _ _ _).mono ?_; rintro e w1 ⟨rfl, rfl⟩) | (go_at_call 81; refine (c3.out _ _ (heap_third' _ _ _ _ _)).mono ?_; rintro e w1 ⟨rfl, rfl⟩))
  all_goals (rename_i hh; clear hh)
  go_wp2_with fail
  go_ret
  exact ⟨rfl, (((below_alloc W _).alloc (by simp) _).alloc (by simp; omega) _).drew⟩

set_option maxHeartbeats 1000000 in
set_option maxRecDepth 100000 in
theorem hopSrt_any (v : Value) (l : List Hp) (w : World) (h : HpR w v l) :
    Calls Try.prog 75 #[v, .func (.func 76) #[] #[]] w fun e w' => e = .returned (.bool (srtB l)) ∧ Below w.heap.size w w' := by
  by_cases hn : 0 < l.length
  · obtain ⟨b, off, cap, rfl, hc, hm, hb, hv⟩ := HpR.at h hn
    unfold maxLen at hm
    have HC : Hid (∀ i x, l[i]? = some x → w.cell? ⟨b, off + i * 2, none⟩ = some (.int .i64 x.1) ∧ w.cell? ⟨b, off + i * 2 + 1, none⟩ = some (.int .i64 x.2)) := hv
    have HT : Hid (SrtH l → srtB l = true) := (srtB_iff l).2
    have HF : Hid (¬ SrtH l → srtB l = false) := fun h => by rw [Bool.eq_false_iff]; exact fun h2 => h ((srtB_iff l).1 h2)
    clear hv h
    generalize srtB l = r at *
    go_enter Try.func75, Try.ntmps75
    go_wp2_with fail
    go_loopw [5] (fun i wr => ∃ k : Nat, k < l.length ∧ i = .int .i64 k ∧ (∀ i x y, k ≤ i → l[i]? = some x → l[i + 1]? = some y → ¬ ltH y x) ∧ Below w.heap.size w wr) (fun i _ => (intOf i).toNat)
    case atStart => exact ⟨l.length - 1, by omega, by go_num, fun i x y hi _ h2 => by have := (List.getElem?_eq_some_iff.1 h2).1; omega, Below.refl _ _⟩
    case round =>
      obtain ⟨k, hk, rfl, hs, hbel⟩ := hrel
      have HS : Hid (∀ i x y, k ≤ i → l[i]? = some x → l[i + 1]? = some y → ¬ ltH y x) := hs
      have HB : Hid (Below w.heap.size w wr) := hbel
      have hsr := hbel.size
      clear hs hbel
      by_cases hlt : 0 < k
      · obtain ⟨j, rfl⟩ : ∃ j, k = j + 1 := ⟨k - 1, by omega⟩
        obtain ⟨x, hx⟩ := getX hk
        obtain ⟨y, hy⟩ := getX (show j < l.length by omega)
        obtain ⟨x1, x2⟩ := HC.out _ _ hx
        obtain ⟨y1, y2⟩ := HC.out _ _ hy
        have g1 := cell_regrown ((HB.out.cell (p := ⟨b, off + (j + 1) * 2, none⟩) (by exact hb)).trans x1)
        have g2 := cell_regrown ((HB.out.cell (p := ⟨b, off + (j + 1) * 2 + 1, none⟩) (by exact hb)).trans x2)
        have g3 := cell_regrown ((HB.out.cell (p := ⟨b, off + j * 2, none⟩) (by exact hb)).trans y1)
        have g4 := cell_regrown ((HB.out.cell (p := ⟨b, off + j * 2 + 1, none⟩) (by exact hb)).trans y2)
        have HN : Hid (¬ ltH x y → ∀ i a b, j ≤ i → l[i]? = some a → l[i + 1]? = some b → ¬ ltH b a) := fun h i a b hi ha hb2 => by
          by_cases e : i = j
          · subst e
            rw [hy] at ha
            rw [hx] at hb2
            injection ha with ha
            injection hb2 with hb2
            subst ha hb2
            exact h
          · exact HS.out i a b (by omega) ha hb2
        have HR : Hid (ltH x y → r = false) := fun h => HF.out fun h2 => h2 j y x hy hx h
        have HCC : Hid (decide (cmpH x y < 0) = ltHb x y) := cmpH_lt x y
        have EE : ∀ d os, Calls Try.prog 76 #[.agg #[.int .i64 x.1, .int .i64 x.2], .agg #[.int .i64 y.1, .int .i64 y.2]] (grow (redrawn wr d) os) fun e w'' => e = .returned (.int .i64 (cmpH x y)) ∧ ∃ p : Regrown, w'' = grow (redrawn wr p.d) p.os := fun d os => Calls.regrown_of (hopCmp_any x y _)
        generalize cmpH x y = c at *
        have i1 : (j : Int) + 1 < (l.length : Int) := by omega
        have i2 : (j : Int) < (l.length : Int) := by omega
        have i3 : (0 : Int) ≤ (j : Int) := by omega
        have i4 : (0 : Int) ≤ (j : Int) + 1 := by omega
        have i5 : (j : Int) + 1 - 1 = (j : Int) := by omega
        have i6 : IntKind.i64.wrap (j : Int) = (j : Int) := wrap_id64 (by omega) (by omega)
        clear x1 x2 y1 y2 hx hy HS
        go_wp2_with fail
        refine wp_region_quiet_below (by kernel_rfl) (by kernel_rfl) ?_
        repeat (quiet_step (exact EE _ _))
        refine wpQuiet_nil ?_
        intro _ hw'
        obtain ⟨⟨dq, osq⟩, hw''⟩ := hw'
        have HB9 : Hid (Below w.heap.size w (grow (redrawn wr dq) osq)) := HB.out.trans ((below_regrown wr dq osq).mono hsr)
        subst hw''
        generalize grow (redrawn wr dq) osq = W9 at HB9 ⊢
        clear g1 g2 g3 g4 EE
        by_cases hxy : c < 0
        · have HX : Hid (r = false) := HR.out (ltHb_true.1 (by rw [← HCC.out]; exact decide_eq_true hxy))
          go_wp2_with fail
          go_ret
          exact ⟨by rw [HX.out]; rfl, HB9.out⟩
        · have HX : Hid _ := HN.out (ltHb_false.1 (by rw [← HCC.out]; exact decide_eq_false hxy))
          go_wp2_with fail
          go_roundw
          case rel => exact ⟨j, by omega, by go_num, HX.out, HB9.out⟩
          case measure => simp [intOf]
      · have HX : Hid (r = true) := HT.out fun i x y h1 h2 => HS.out i x y (by omega) h1 h2
        go_wp2_with fail
        go_ret
        exact ⟨by rw [HX.out]; rfl, HB.out⟩
  · have e1 : l = [] := List.eq_nil_of_length_eq_zero (by omega)
    subst e1
    obtain ⟨a, c, rfl, _, _⟩ := h
    clear hn
    go_enter Try.func75, Try.ntmps75
    go_wp2_with fail
    refine wp_loop_rounds 1 ?_
    rw [rounds_succ]
    go_wp2
    go_ret
    exact ⟨rfl, Below.refl _ _⟩
end Go.Proofs.Ytacpicnihgggaaa
