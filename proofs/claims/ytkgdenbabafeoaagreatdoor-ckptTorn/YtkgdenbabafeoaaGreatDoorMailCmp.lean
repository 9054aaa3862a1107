/-
  Contracts of merge's compare and of slices.IsSortedFunc with it; merge.inOrder.
-/
import Derived.Test.YtkgdenbabafeoaaGreatDoorCmpTwo
import Derived.Test.YtkgdenbabafeoaaGreatDoorMailMath
import Derived.Deep.RegionHeld3
import Derived.Deep.QuietTactic
import Derived.BigQuiet
import Derived.Lib.QuietBelow
namespace Go.Proofs.YtkgdenbabafeoaaGreatDoor
set_option maxRecDepth 100000
open Go.ChangeShapes Go.WideShapes Go.ChangeAt Go.RowKit Go.Sort

/-- To, then Value. -/
def cmpM (x y : Ml) : Int := or2 (cmpI x.1 y.1) (cmpI x.2 y.2)
theorem cmpM_lt (x y : Ml) : decide (cmpM x y < 0) = ltMb x y := by
  unfold ltMb
  congr 1
  unfold cmpM or2 cmpI
  refine propext ⟨fun h => ?_, fun h => ?_⟩
  · split at h <;> (try split at h) <;> omega
  · split <;> (try split) <;> omega
theorem cmpT_mails (W : World) (a0 a1 b0 b1 : Int) : CmpT W ((W.alloc (.cells #[.int .i64 a0, .int .i64 a1] 62)).alloc (.cells #[.int .i64 b0, .int .i64 b1] 62)).drew a0 a1 b0 b1 :=
  ⟨by simp, by simp, by simp, by simp, by simp; omega, ((below_alloc W _).alloc (by simp) _).drew⟩
set_option maxHeartbeats 2000000 in
set_option maxRecDepth 100000 in
theorem mailCmp_any (x y : Ml) (W : World) : Calls Tryz.prog 62 #[.agg #[.int .i64 x.1, .int .i64 x.2], .agg #[.int .i64 y.1, .int .i64 y.2]] W fun e w' => e = .returned (.int .i64 (cmpM x y)) ∧ Below W.heap.size W w' := by
  unfold cmpM
  obtain ⟨a0, a1⟩ := x
  obtain ⟨b0, b1⟩ := y
  simp only
  have HS0 : Hid (CmpT W _ a0 a1 b0 b1) := cmpT_mails W a0 a1 b0 b1
  generalize hor : or2 (cmpI a0 b0) (cmpI a1 b1) = rr
  have c3 : Hid (∀ (q : Nat) (V : World), V.heap[q]? = some (.cells #[.int .i64 (cmpI a0 b0), .int .i64 (cmpI a1 b1)] 3 (0, 0)) → Calls Tryz.prog 78 #[.slice (some ⟨q, 0, none⟩) 2 2] V fun e w' => e = .returned (.int .i64 rr) ∧ w' = V) := fun q V h => by rw [← hor]; exact cmpOr2_any _ _ q V (by rw [cell_of_row _ _ _ _ _ _ h]; rfl) (by rw [cell_of_row _ _ _ _ _ _ h]; rfl)
  clear hor
  go_enter Tryz.func62, Tryz.ntmps62
  go_wp2_with fail
  go_region_held3 (fun V => V.cell? ⟨W.heap.size, 0, none⟩ = some (.int .i64 a0) ∧ V.cell? ⟨W.heap.size + 1, 0, none⟩ = some (.int .i64 b0) ∧ V.cell? ⟨W.heap.size, 1, none⟩ = some (.int .i64 a1) ∧ V.cell? ⟨W.heap.size + 1, 1, none⟩ = some (.int .i64 b1) ∧ W.heap.size ≤ V.heap.size ∧ Below W.heap.size W V) (first | exact HS0.out | assumption | exact cmpT_alloc (by assumption) _) (first | (go_at_call 79; refine (cmpInt_any _ _ _).mono ?_; rintro e w1 ⟨rfl, rfl⟩) | (go_at_call 78; refine (c3.out _ _ (heap_third' _ _ _ _ _)).mono ?_; rintro e w1 ⟨rfl, rfl⟩))
  all_goals (rename_i hh; clear hh)
  go_wp2_with fail
  go_ret
  exact ⟨rfl, (((below_alloc W _).alloc (by simp) _).alloc (by simp; omega) _).drew⟩

set_option maxHeartbeats 1000000 in
set_option maxRecDepth 100000 in
theorem mailSrt_any (v : Value) (l : List Ml) (w : World) (h : MlR w v l) :
    Calls Tryz.prog 80 #[v, .func (.func 62) #[] #[]] w fun e w' => e = .returned (.bool (srtMb l)) ∧ Below w.heap.size w w' := by
  by_cases hn : 0 < l.length
  · obtain ⟨b, off, cap, rfl, hc, hm, hb, hv⟩ := MlR.at h hn
    unfold maxLen at hm
    have HC : Hid (∀ i x, l[i]? = some x → w.cell? ⟨b, off + i * 2, none⟩ = some (.int .i64 x.1) ∧ w.cell? ⟨b, off + i * 2 + 1, none⟩ = some (.int .i64 x.2)) := hv
    have HT : Hid (SrtM l → srtMb l = true) := (srtMb_iff l).2
    have HF : Hid (¬ SrtM l → srtMb l = false) := fun h => by rw [Bool.eq_false_iff]; exact fun h2 => h ((srtMb_iff l).1 h2)
    clear hv h
    generalize srtMb l = r at *
    go_enter Tryz.func80, Tryz.ntmps80
    go_wp2_with fail
    go_loopw [5] (fun i wr => ∃ k : Nat, k < l.length ∧ i = .int .i64 k ∧ (∀ i x y, k ≤ i → l[i]? = some x → l[i + 1]? = some y → ¬ ltM y x) ∧ Below w.heap.size w wr) (fun i _ => (intOf i).toNat)
    case atStart => exact ⟨l.length - 1, by omega, by go_num, fun i x y hi _ h2 => by have := (List.getElem?_eq_some_iff.1 h2).1; omega, Below.refl _ _⟩
    case round =>
      obtain ⟨k, hk, rfl, hs, hbel⟩ := hrel
      have HS : Hid (∀ i x y, k ≤ i → l[i]? = some x → l[i + 1]? = some y → ¬ ltM y x) := hs
      have HB : Hid (Below w.heap.size w wr) := hbel
      have hsr := hbel.size
      clear hs hbel
      by_cases hlt : 0 < k
      · obtain ⟨j, rfl⟩ : ∃ j, k = j + 1 := ⟨k - 1, by omega⟩
        obtain ⟨x, hx⟩ := getX hk
        obtain ⟨y, hy⟩ := getX (show j < l.length by omega)
        obtain ⟨x1, x2⟩ := HC.out _ _ hx
        obtain ⟨y1, y2⟩ := HC.out _ _ hy
        have g1 := cell_regrown ((HB.out.cell (p := ⟨b, off + (j + 1) * 2, none⟩) (by exact hb)).trans x1)
        have g2 := cell_regrown ((HB.out.cell (p := ⟨b, off + (j + 1) * 2 + 1, none⟩) (by exact hb)).trans x2)
        have g3 := cell_regrown ((HB.out.cell (p := ⟨b, off + j * 2, none⟩) (by exact hb)).trans y1)
        have g4 := cell_regrown ((HB.out.cell (p := ⟨b, off + j * 2 + 1, none⟩) (by exact hb)).trans y2)
        have HN : Hid (¬ ltM x y → ∀ i a b, j ≤ i → l[i]? = some a → l[i + 1]? = some b → ¬ ltM b a) := fun h i a b hi ha hb2 => by
          by_cases e : i = j
          · subst e
            rw [hy] at ha
            rw [hx] at hb2
            injection ha with ha
            injection hb2 with hb2
            subst ha hb2
            exact h
          · exact HS.out i a b (by omega) ha hb2
        have HR : Hid (ltM x y → r = false) := fun h => HF.out fun h2 => h2 j y x hy hx h
        have HCC : Hid (decide (cmpM x y < 0) = ltMb x y) := cmpM_lt x y
        have EE : ∀ d os, Calls Tryz.prog 62 #[.agg #[.int .i64 x.1, .int .i64 x.2], .agg #[.int .i64 y.1, .int .i64 y.2]] (grow (redrawn wr d) os) fun e w'' => e = .returned (.int .i64 (cmpM x y)) ∧ ∃ p : Regrown, w'' = grow (redrawn wr p.d) p.os := fun d os => Calls.regrown_of (mailCmp_any x y _)
        generalize cmpM x y = c at *
        have i1 : (j : Int) + 1 < (l.length : Int) := by omega
        have i2 : (j : Int) < (l.length : Int) := by omega
        have i3 : (0 : Int) ≤ (j : Int) := by omega
        have i4 : (0 : Int) ≤ (j : Int) + 1 := by omega
        have i5 : (j : Int) + 1 - 1 = (j : Int) := by omega
        have i6 : IntKind.i64.wrap (j : Int) = (j : Int) := wrap_id64 (by omega) (by omega)
        clear x1 x2 y1 y2 hx hy HS
        go_wp2_with fail
        refine wp_region_quiet_below (by kernel_rfl) (by kernel_rfl) ?_
        repeat (quiet_step (exact EE _ _))
        refine wpQuiet_nil ?_
        intro _ hw'
        obtain ⟨⟨dq, osq⟩, hw''⟩ := hw'
        have HB9 : Hid (Below w.heap.size w (grow (redrawn wr dq) osq)) := HB.out.trans ((below_regrown wr dq osq).mono hsr)
        subst hw''
        generalize grow (redrawn wr dq) osq = W9 at HB9 ⊢
        clear g1 g2 g3 g4 EE
        by_cases hxy : c < 0
        · have HX : Hid (r = false) := HR.out (ltMb_true.1 (by rw [← HCC.out]; exact decide_eq_true hxy))
          go_wp2_with fail
          go_ret
          exact ⟨by rw [HX.out]; rfl, HB9.out⟩
        · have HX : Hid _ := HN.out (ltMb_false.1 (by rw [← HCC.out]; exact decide_eq_false hxy))
          go_wp2_with fail
          go_roundw
          case rel => exact ⟨j, by omega, by go_num, HX.out, HB9.out⟩
          case measure => simp [intOf]
      · have HX : Hid (r = true) := HT.out fun i x y h1 h2 => HS.out i x y (by omega) h1 h2
        go_wp2_with fail
        go_ret
        exact ⟨by rw [HX.out]; rfl, HB.out⟩
  · have e1 : l = [] := List.eq_nil_of_length_eq_zero (by omega)
    subst e1
    obtain ⟨a, c, rfl, _, _⟩ := h
    clear hn
    go_enter Tryz.func80, Tryz.ntmps80
    go_wp2_with fail
    refine wp_loop_rounds 1 ?_
    rw [rounds_succ]
    go_wp2
    go_ret
    exact ⟨rfl, Below.refl _ _⟩

set_option maxHeartbeats 400000 in
theorem inOrderM_any (v : Value) (l : List Ml) (w : World) (h : MlR w v l) :
    Calls Tryz.prog 64 #[v] w fun e w' => e = .returned (.bool (srtMb l)) ∧ Below w.heap.size w w' := by
  have HC : Hid (∀ X, MlR X v l → Calls Tryz.prog 80 #[v, .func (.func 62) #[] #[]] X fun e w' => e = .returned (.bool (srtMb l)) ∧ Below X.heap.size X w') := fun X hX => mailSrt_any v l X hX
  have HR : Hid (MlR w v l) := h
  obtain ⟨a, c, rfl⟩ := h.shape
  clear h
  generalize srtMb l = r at *
  go_enter Tryz.func64, Tryz.ntmps64
  go_wp2_with fail
  refine (HC.out _ HR.out).mono ?_
  rintro e w1 ⟨rfl, hb⟩
  have HB : Hid (Below w.heap.size w w1) := hb
  clear hb
  go_wp2_with fail
  go_ret
  exact ⟨rfl, HB.out⟩
end Go.Proofs.YtkgdenbabafeoaaGreatDoor
