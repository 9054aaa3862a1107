/-
  Contracts of the document's own MailAhead and IsOrdered; an insertion in plain mathematics.
-/
import Derived.Test.YtihghhmhgakkaaaMailMath
import Derived.Deep.QuietTactic
import Derived.BigQuiet
import Derived.Lib.QuietBelow
namespace Go.Proofs.Ytihghhmhgakkaaa
set_option maxRecDepth 100000
open Go.ChangeShapes Go.WideShapes Go.ChangeAt Go.RowKit Go.Sort

/-- x stands ahead of y. -/
def aheadMB (x y : Ml) : Bool := if x.1 ≠ y.1 then decide (x.1 < y.1) else decide (x.2 < y.2)
theorem aheadM_lt (x y : Ml) : aheadMB x y = ltMb x y := by
  unfold aheadMB ltMb
  by_cases h1 : x.1 ≠ y.1
  · rw [if_pos h1]; congr 1; exact propext ⟨fun h => by omega, fun h => by omega⟩
  · rw [if_neg h1]; congr 1; exact propext ⟨fun h => by omega, fun h => by omega⟩

set_option maxHeartbeats 1000000 in
theorem aheadM_any (x y : Ml) (w : World) : Calls Try.prog 48 #[.agg #[.int .i64 x.1, .int .i64 x.2], .agg #[.int .i64 y.1, .int .i64 y.2]] w fun e w' => e = .returned (.bool (ltMb x y)) ∧ Below w.heap.size w w' := by
  rw [← aheadM_lt]
  obtain ⟨a0, a1⟩ := x
  obtain ⟨b0, b1⟩ := y
  unfold aheadMB
  simp only
  have hb : ∀ o1 o2, Below w.heap.size w ((w.alloc o1).alloc o2) := fun o1 o2 => (below_alloc w o1).alloc (by simp) o2
  by_cases h1 : a0 = b0
  · rw [if_neg (by simpa using h1)]
    have e1 : (a0 != b0) = false := by simpa using h1
    clear h1
    go_enter Try.func48, Try.ntmps48
    go_wp2_with fail
    go_ret
    exact ⟨rfl, hb _ _⟩
  · rw [if_pos h1]
    have e1 : (a0 != b0) = true := by simpa using h1
    clear h1
    go_enter Try.func48, Try.ntmps48
    go_wp2_with fail
    go_ret
    exact ⟨rfl, hb _ _⟩

set_option maxHeartbeats 1000000 in
set_option maxRecDepth 100000 in
theorem isOrdered_any (v : Value) (l : List Ml) (w : World) (h : MlR w v l) :
    Calls Try.prog 63 #[v] w fun e w' => e = .returned (.bool (srtMb l)) ∧ Below w.heap.size w w' := by
  have HR : Hid (MlR w v l) := h
  obtain ⟨a, cap, rfl, hc, hm, _, _⟩ := h
  unfold maxLen at hm
  have HT : Hid (SrtM l → srtMb l = true) := (srtMb_iff l).2
  have HF : Hid (¬ SrtM l → srtMb l = false) := srtMb_false.2
  generalize srtMb l = r at *
  go_enter Try.func63, Try.ntmps63
  go_wp2_with fail
  go_loopw [3] (fun i wr => ∃ k : Nat, k ≤ l.length ∧ i = .int .i64 ((k : Int) + 1) ∧ (∀ i x y, i < k → l[i]? = some x → l[i + 1]? = some y → ¬ ltM y x) ∧ Below w.heap.size w wr) (fun i _ => l.length + 1 - (intOf i).toNat)
  case atStart => exact ⟨0, by omega, rfl, fun i x y hi => by omega, Below.refl _ _⟩
  case round =>
    obtain ⟨k, hk, rfl, hs, hbel⟩ := hrel
    have HS : Hid (∀ i x y, i < k → l[i]? = some x → l[i + 1]? = some y → ¬ ltM y x) := hs
    have HB : Hid (Below w.heap.size w wr) := hbel
    have hsr := hbel.size
    clear hs hbel
    by_cases hlt : k + 1 < l.length
    · obtain ⟨b, off, cap', e1, _, _, lb, hv⟩ := MlR.at (HR.out.below HB.out (Nat.le_refl _)) (by omega)
      injection e1 with e1 _ e3
      subst e1 e3
      obtain ⟨x, hx⟩ := getX hlt
      obtain ⟨y, hy⟩ := getX (show k < l.length by omega)
      obtain ⟨x1, x2⟩ := hv _ _ hx
      obtain ⟨y1, y2⟩ := hv _ _ hy
      have g1 := cell_regrown x1
      have g2 := cell_regrown x2
      have g3 := cell_regrown y1
      have g4 := cell_regrown y2
      have HN : Hid (¬ ltM x y → ∀ i a b, i < k + 1 → l[i]? = some a → l[i + 1]? = some b → ¬ ltM b a) := fun h i a b hi ha hb2 => by
        by_cases e : i = k
        · subst e
          rw [hy] at ha
          rw [hx] at hb2
          injection ha with ha
          injection hb2 with hb2
          subst ha hb2
          exact h
        · exact HS.out i a b (by omega) ha hb2
      have HRR : Hid (ltM x y → r = false) := fun h => HF.out fun h2 => h2 k y x hy hx h
      have EE : ∀ d os, Calls Try.prog 48 #[.agg #[.int .i64 x.1, .int .i64 x.2], .agg #[.int .i64 y.1, .int .i64 y.2]] (grow (redrawn wr d) os) fun e w'' => e = .returned (.bool (ltMb x y)) ∧ ∃ p : Regrown, w'' = grow (redrawn wr p.d) p.os := fun d os => Calls.regrown_of (aheadM_any x y _)
      have HLT : Hid ((ltMb x y = true → ltM x y) ∧ (ltMb x y = false → ¬ ltM x y)) := ⟨ltMb_true.1, ltMb_false.1⟩
      generalize ltMb x y = c at *
      have i1 : (k : Int) + 1 < (l.length : Int) := by omega
      have i2 : (k : Int) < (l.length : Int) := by omega
      have i3 : (0 : Int) ≤ (k : Int) := by omega
      have i4 : (0 : Int) ≤ (k : Int) + 1 := by omega
      have i5 : (k : Int) + 1 - 1 = (k : Int) := by omega
      have i6 : IntKind.i64.wrap (k : Int) = (k : Int) := wrap_id64 (by omega) (by omega)
      have i7 : IntKind.i64.wrap ((k : Int) + 1 + 1) = (k : Int) + 1 + 1 := wrap_id64 (by omega) (by omega)
      have HSX : Hid True := trivial
      clear x1 x2 y1 y2 hx hy HS hv HSX
      go_wp2_with fail
      refine wp_region_quiet_below (by kernel_rfl) (by kernel_rfl) ?_
      repeat (quiet_step (exact EE _ _))
      refine wpQuiet_nil ?_
      intro _ hw'
      obtain ⟨⟨dq, osq⟩, hw''⟩ := hw'
      have HB9 : Hid (Below w.heap.size w (grow (redrawn wr dq) osq)) := HB.out.trans ((below_regrown wr dq osq).mono hsr)
      subst hw''
      generalize grow (redrawn wr dq) osq = W9 at HB9 ⊢
      clear g1 g2 g3 g4 EE
      cases c with
      | true =>
        have HX : Hid (r = false) := HRR.out (HLT.out.1 rfl)
        go_wp2_with fail
        go_ret
        exact ⟨by rw [HX.out]; rfl, HB9.out⟩
      | false =>
        have HX : Hid _ := HN.out (HLT.out.2 rfl)
        go_wp2_with fail
        go_roundw
        case rel => exact ⟨k + 1, by omega, by go_num, HX.out, HB9.out⟩
        case measure => simp [intOf]; omega
    · have HX : Hid (r = true) := HT.out fun i x y h1 h2 => HS.out i x y (by have := (List.getElem?_eq_some_iff.1 h2).1; omega) h1 h2
      have i1 : ¬ (k : Int) + 1 < (l.length : Int) := by omega
      go_wp2_with fail
      go_ret
      exact ⟨by rw [HX.out]; rfl, HB.out⟩

/-- x is put behind A and ahead of B. -/
theorem putM_sorted {A B : List Ml} {x : Ml} (h : InM (A ++ B)) (hB : ∀ y ∈ B, ltM x y) (hA : ∀ z, A.getLast? = some z → ¬ ltM x z) : InM (A ++ x :: B) := by
  unfold InM at *
  rw [List.pairwise_append] at h ⊢
  obtain ⟨h1, h2, h3⟩ := h
  have hAx : ∀ a ∈ A, leM a x = true := by
    intro a ha
    rw [leM_iff]
    rcases List.eq_nil_or_concat A with rfl | ⟨A', z, rfl⟩
    · simp at ha
    · have hz : ¬ ltM x z := hA z (by simp)
      simp only [List.concat_eq_append] at ha h1
      rw [List.mem_append] at ha
      rcases ha with ha | ha
      · have := (List.pairwise_append.1 h1).2.2 a ha z (by simp)
        rw [leM_iff] at this
        unfold ltM at *; omega
      · simp at ha; subst ha; exact hz
  refine ⟨h1, ?_, ?_⟩
  · rw [List.pairwise_cons]
    exact ⟨fun y hy => by have := hB y hy; rw [leM_iff]; unfold ltM at *; omega, h2⟩
  · intro a ha y hy
    rcases List.mem_cons.1 hy with rfl | hy
    · exact hAx a ha
    · exact h3 a ha y hy
theorem putM_perm {A B s l : List Ml} {x : Ml} (h : A ++ B = s) (hp : s.Perm l) : (A ++ x :: B).Perm (l ++ [x]) := by
  subst h
  exact (List.perm_middle.trans (List.Perm.cons x hp)).trans (List.perm_append_singleton x l).symm
end Go.Proofs.Ytihghhmhgakkaaa
