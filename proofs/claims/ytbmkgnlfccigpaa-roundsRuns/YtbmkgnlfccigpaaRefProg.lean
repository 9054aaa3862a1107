/-
  Contracts of the document's own KindMay, Top, ValueMay, leastMail and WaysOf.
-/
import Derived.Test.YtbmkgnlfccigpaaProgLower
import Derived.Lib.QuietBelow
namespace Go.Proofs.Ytbmkgnlfccigpaa
set_option maxRecDepth 100000
open Go.ChangeShapes Go.WideShapes Go.ChangeAt Go.RowKit Go.Sort

theorem in_is {v a b : Int} {t : Bool} (h : inB v a b = t) (w : World) :
    Calls Try.prog 52 #[.int .i64 v, .int .i64 a, .int .i64 b] w fun e w' => e = .returned (.bool t) ∧ w' = w := by
  have := in_any v a b w
  rwa [h] at this
set_option maxHeartbeats 1000000 in
theorem kindMay_none {k p : Int} (h : ¬ (k = 1 ∧ p = 0) ∧ ¬ (k = 2 ∧ p = 0) ∧ ¬ (k = 3 ∧ p = 0) ∧ ¬ (k = 3 ∧ p = 1)) (w : World) :
    Calls Try.prog 53 #[.int .i64 k, .int .i64 p] w fun e w' => e = .returned (.bool false) ∧ w' = w := by
  obtain ⟨h1, h2, h3, h4⟩ := h
  cases hi : inB k 1 3
  · have C : Hid (∀ X, Calls Try.prog 52 #[.int .i64 k, .int .i64 1, .int .i64 3] X fun e w' => e = .returned (.bool false) ∧ w' = X) := fun X => in_is hi X
    clear h1 h2 h3 h4 hi
    go_enter Try.func53, Try.ntmps53
    go_wp2_with fail
    refine (C.out _).mono ?_
    rintro e w1 ⟨rfl, hw⟩
    replace hw := hw.symm
    subst hw
    go_wp2_with fail
    go_ret
    exact ⟨rfl, rfl⟩
  · have C : Hid (∀ X, Calls Try.prog 52 #[.int .i64 k, .int .i64 1, .int .i64 3] X fun e w' => e = .returned (.bool true) ∧ w' = X) := fun X => in_is hi X
    have hk := inB_iff.1 hi
    have p0 : (p == 0) = false := by
      simp only [beq_eq_false_iff_ne]
      rintro rfl
      have : k = 1 ∨ k = 2 ∨ k = 3 := by omega
      rcases this with e | e | e
      · exact h1 ⟨e, rfl⟩
      · exact h2 ⟨e, rfl⟩
      · exact h3 ⟨e, rfl⟩
    by_cases e3 : k = 3
    · have k3 : (k == 3) = true := by simpa using e3
      have p1 : (p == 1) = false := by
        simp only [beq_eq_false_iff_ne]
        exact fun e => h4 ⟨e3, e⟩
      clear h1 h2 h3 h4 hi hk e3
      go_enter Try.func53, Try.ntmps53
      go_wp2_with fail
      refine (C.out _).mono ?_
      rintro e w1 ⟨rfl, hw⟩
      replace hw := hw.symm
      subst hw
      go_wp2_with fail
      go_ret
      exact ⟨rfl, rfl⟩
    · have k3 : (k == 3) = false := by simpa using e3
      clear h1 h2 h3 h4 hi hk e3
      go_enter Try.func53, Try.ntmps53
      go_wp2_with fail
      refine (C.out _).mono ?_
      rintro e w1 ⟨rfl, hw⟩
      replace hw := hw.symm
      subst hw
      go_wp2_with fail
      go_ret
      exact ⟨rfl, rfl⟩
set_option maxHeartbeats 1000000 in
theorem kindMay_any (j : Jb) (w : World) :
    Calls Try.prog 53 #[.int .i64 (Jb.k j), .int .i64 (Jb.p j)] w fun e w' => e = .returned (.bool true) ∧ w' = w := by
  have C : Hid (∀ X, Calls Try.prog 52 #[.int .i64 (Jb.k j), .int .i64 1, .int .i64 3] X fun e w' => e = .returned (.bool true) ∧ w' = X) := fun X => in_is (by revert j; exact jb_cases rfl rfl rfl rfl) X
  revert j
  refine jb_cases ?_ ?_ ?_ ?_
  all_goals intro C
  all_goals simp only [Jb.k, Jb.p, Bool.and_true, Bool.and_false, Bool.and_self, if_true, Bool.false_eq_true, if_false] at C ⊢
  all_goals go_enter Try.func53, Try.ntmps53
  all_goals go_wp2_with fail
  all_goals refine (C.out _).mono ?_
  all_goals rintro e w1 ⟨rfl, hw⟩
  all_goals replace hw := hw.symm
  all_goals subst hw
  all_goals go_wp2_with fail
  all_goals go_ret
  all_goals exact ⟨rfl, rfl⟩
set_option maxHeartbeats 1000000 in
theorem topR_any (j : Jb) (w : World) :
    Calls Try.prog 55 #[.int .i64 (Jb.k j)] w fun e w' => e = .returned (.int .i64 (Jb.top j)) ∧ w' = w := by
  revert j
  refine jb_cases ?_ ?_ ?_ ?_
  all_goals simp only [Jb.k, Jb.top, Bool.or_true, Bool.or_false, Bool.or_self, if_true, Bool.false_eq_true, if_false]
  all_goals go_enter Try.func55, Try.ntmps55
  all_goals go_wp2_with fail
  all_goals go_ret
  all_goals exact ⟨rfl, rfl⟩

set_option maxHeartbeats 1000000 in
set_option maxRecDepth 100000 in
theorem valueMay_any (j : Jb) (x : Ml) (w : World) :
    Calls Try.prog 54 #[.int .i64 (Jb.k j), .agg #[.int .i64 x.1, .int .i64 x.2]] w fun e w' => e = .returned (.bool (valB j x)) ∧ RowKit.Below w.heap.size w w' := by
  have hF := topR_any j
  unfold valB
  generalize Jb.top j = T at *
  generalize Jb.k j = kk at *
  obtain ⟨W, hW⟩ : ∃ W, w.alloc (.cells #[.int .i64 x.1, .int .i64 x.2] 59) = W := ⟨_, rfl⟩
  have hX : BX 59 W w.heap.size #[.int .i64 x.1, .int .i64 x.2] := by rw [← hW]; exact BX.new _ _ _
  have HB : Hid (RowKit.Below w.heap.size w W) := by show RowKit.Below _ _ _; rw [← hW]; exact below_alloc _ _
  obtain ⟨c0, c1, _⟩ := hX.all2
  have g0 := cell_regrown c0
  have g1 := cell_regrown c1
  have EG : ∀ d os, Calls Try.prog 55 #[.int .i64 kk] (grow (redrawn W d) os) fun e w'' => e = .returned (.int .i64 T) ∧ ∃ p : Regrown, w'' = grow (redrawn W p.d) p.os := fun d os => Calls.regrown_of ((hF _).mono (fun e w' h => ⟨h.1, by rw [h.2]; exact Below.refl _ _⟩))
  have EW : ∀ v a b d os, Calls Try.prog 52 #[.int .i64 v, .int .i64 a, .int .i64 b] (grow (redrawn W d) os) fun e w'' => e = .returned (.bool (inB v a b)) ∧ ∃ p : Regrown, w'' = grow (redrawn W p.d) p.os := fun v a b d os => Calls.regrown_of ((in_any v a b _).mono (fun e w' h => ⟨h.1, by rw [h.2]; exact Below.refl _ _⟩))
  clear hF hX c0 c1
  cases h1 : inB x.1 (-1) T
  · go_enter Try.func54, Try.ntmps54
    go_upto_region 1 with fail
    refine wp_region_quiet_below (by kernel_rfl) (by kernel_rfl) ?_
    repeat (quiet_step (first | (go_at_call 52; exact EW _ _ _ _ _) | exact EG _ _))
    refine wpQuiet_nil ?_
    intro _ hw'
    obtain ⟨⟨dq, osq⟩, hw''⟩ := hw'
    have HB9 : Hid (RowKit.Below W.heap.size W (grow (redrawn W dq) osq)) := below_regrown W dq osq
    subst hw''
    generalize grow (redrawn W dq) osq = W9 at HB9 ⊢
    have HC : Hid (RowKit.Below w.heap.size w W9) := HB.out.trans (HB9.out.mono HB.out.size)
    clear g0 g1 EG EW
    go_wp2_with fail
    go_ret
    exact ⟨rfl, HC.out⟩
  · cases h2 : inB x.2 (-1) 199
    all_goals go_enter Try.func54, Try.ntmps54
    all_goals go_upto_region 1 with fail
    all_goals refine wp_region_quiet_below (by kernel_rfl) (by kernel_rfl) ?_
    all_goals repeat (quiet_step (first | (go_at_call 52; exact EW _ _ _ _ _) | exact EG _ _))
    all_goals refine wpQuiet_nil ?_
    all_goals intro _ hw'
    all_goals obtain ⟨⟨dq, osq⟩, hw''⟩ := hw'
    all_goals have HB9 : Hid (RowKit.Below W.heap.size W (grow (redrawn W dq) osq)) := below_regrown W dq osq
    all_goals subst hw''
    all_goals generalize grow (redrawn W dq) osq = W9 at HB9 ⊢
    all_goals have HC : Hid (RowKit.Below w.heap.size w W9) := HB.out.trans (HB9.out.mono HB.out.size)
    all_goals clear g0 g1 EG EW
    all_goals go_wp2_with fail
    all_goals go_ret
    all_goals exact ⟨rfl, HC.out⟩

set_option maxHeartbeats 1000000 in
set_option maxRecDepth 100000 in
theorem leastMail_any (v : Value) (m : List Int) (w : World) (h : InR w v m) :
    Calls Try.prog 56 #[v] w fun e w' => e = .returned (.int .i64 (leastF m)) ∧ w' = w := by
  have HR : Hid (InR w v m) := h
  obtain ⟨a, cap, rfl, hca, hma, _, _⟩ := h
  unfold maxLen at hma
  have HL : Hid (leastF m = m.foldl leastS (-1)) := rfl
  generalize leastF m = R at *
  go_enter Try.func56, Try.ntmps56
  go_wp2_with fail
  go_loopw [3, 4] (fun u i wr => ∃ (k : Nat) (s : Int), k ≤ m.length ∧ i = .int .i64 k ∧ u = .int .i64 s ∧ (m.take k).foldl leastS (-1) = s ∧ wr = w) (fun _ i _ => m.length - (intOf i).toNat)
  case atStart => exact ⟨0, -1, by omega, rfl, rfl, rfl, rfl⟩
  case round =>
    obtain ⟨k, s, hk, rfl, rfl, hs, rfl⟩ := hrel
    have HS : Hid ((m.take k).foldl leastS (-1) = s) := hs
    clear hs
    by_cases hlt : k < m.length
    · obtain ⟨xa, oa, cap', e1, _, _, la, hva⟩ := InR.at HR.out (by omega)
      injection e1 with e1 _ e3
      subst e1 e3
      obtain ⟨y, hy⟩ := getX hlt
      have p0 : (0 : Int) ≤ (k : Int) := by omega
      have p1 : (k : Int) < (m.length : Int) := by omega
      have c1 := hva k y hy
      have HY : Hid (m[k]? = some y) := hy
      clear hva hy
      by_cases e1 : s < 0
      · have HF : Hid ((m.take (k + 1)).foldl leastS (-1) = y) := by
          show (m.take (k + 1)).foldl leastS (-1) = y
          rw [fold_snoc _ _ HY.out, HS.out]
          exact if_pos (.inl e1)
        go_wp2_with fail
        go_roundw
        case rel => exact ⟨k + 1, y, by omega, by go_num, rfl, HF.out, trivial⟩
        case measure => simp [intOf]; omega
      · by_cases e2 : y < s
        · have HF : Hid ((m.take (k + 1)).foldl leastS (-1) = y) := by
            show (m.take (k + 1)).foldl leastS (-1) = y
            rw [fold_snoc _ _ HY.out, HS.out]
            exact if_pos (.inr e2)
          go_wp2_with fail
          go_roundw
          case rel => exact ⟨k + 1, y, by omega, by go_num, rfl, HF.out, trivial⟩
          case measure => simp [intOf]; omega
        · have HF : Hid ((m.take (k + 1)).foldl leastS (-1) = s) := by
            show (m.take (k + 1)).foldl leastS (-1) = s
            rw [fold_snoc _ _ HY.out, HS.out]
            exact if_neg (by omega)
          go_wp2_with fail
          go_roundw
          case rel => exact ⟨k + 1, s, by omega, by go_num, rfl, HF.out, trivial⟩
          case measure => simp [intOf]; omega
    · have HF : Hid (R = s) := by
        show R = s
        rw [HL.out]
        have := HS.out
        rwa [List.take_of_length_le (by omega)] at this
      go_wp2_with fail
      go_ret
      exact ⟨ret_i64 HF.out.symm, rfl⟩

set_option maxHeartbeats 1000000 in
theorem waysOf_none {k p : Int} (h : ¬ (k = 1 ∧ p = 0) ∧ ¬ (k = 2 ∧ p = 0) ∧ ¬ (k = 3 ∧ p = 0) ∧ ¬ (k = 3 ∧ p = 1)) (w : World) :
    Calls Try.prog 31 #[.int .i64 k, .int .i64 p] w fun e w' => e = .returned (.tuple #[.bool false, .bool false, .int .i64 3]) ∧ w' = w := by
  have C : Hid (∀ w, Calls Try.prog 53 #[.int .i64 k, .int .i64 p] w fun e w' => e = .returned (.bool false) ∧ w' = w) := fun w => kindMay_none h w
  clear h
  go_enter Try.func31, Try.ntmps31
  go_wp2_with fail
  refine (C.out _).mono ?_
  rintro e w1 ⟨rfl, hw⟩
  replace hw := hw.symm
  subst hw
  go_wp2_with fail
  go_ret3
  exact ⟨rfl, rfl⟩
set_option maxHeartbeats 1000000 in
theorem waysOf_any (j : Jb) (w : World) :
    Calls Try.prog 31 #[.int .i64 (Jb.k j), .int .i64 (Jb.p j)] w fun e w' => e = .returned (.tuple #[.bool (wayJ j).1, .bool (wayJ j).2, .int .i64 0]) ∧ w' = w := by
  have C : Hid (∀ X, Calls Try.prog 53 #[.int .i64 (Jb.k j), .int .i64 (Jb.p j)] X fun e w' => e = .returned (.bool true) ∧ w' = X) := fun X => kindMay_any j X
  revert j
  refine jb_cases ?_ ?_ ?_ ?_
  all_goals intro C
  all_goals simp only [Jb.k, Jb.p, wayJ, Bool.and_true, Bool.and_false, Bool.and_self, if_true, Bool.false_eq_true, if_false] at C ⊢
  all_goals go_enter Try.func31, Try.ntmps31
  all_goals go_wp2_with fail
  all_goals refine (C.out _).mono ?_
  all_goals rintro e w1 ⟨rfl, hw⟩
  all_goals replace hw := hw.symm
  all_goals subst hw
  all_goals go_wp2_with fail
  all_goals go_ret3
  all_goals exact ⟨rfl, rfl⟩
end Go.Proofs.Ytbmkgnlfccigpaa
