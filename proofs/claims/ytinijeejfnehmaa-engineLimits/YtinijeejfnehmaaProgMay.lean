/-
  Contracts of prog's valueMayBe and mailMayBe.
-/
import Derived.Test.YtinijeejfnehmaaProgOpen
import Derived.Lib.QuietBelow
import Derived.Lib.Hide
namespace Go.Proofs.Ytinijeejfnehmaa
set_option maxRecDepth 100000
open Go.ChangeShapes Go.WideShapes Go.ChangeAt Go.RowKit Go.Sort

set_option maxHeartbeats 1000000 in
set_option maxRecDepth 100000 in
theorem valueMayBe_any (j : Jb) (x : Ml) (w : World) :
    Calls Try.prog 57 #[Jb.v j, .agg #[.int .i64 x.1, .int .i64 x.2]] w fun e w' => e = .returned (.bool (valB j x)) ∧ Below w.heap.size w w' := by
  obtain ⟨t, u, hv, _, ⟨f, r, ⟨hm, he⟩, hF⟩, _⟩ := job_open j
  rw [hv]
  simp [mname, Try.underlying69] at hm
  unfold GreatF at hF
  unfold valB
  generalize Jb.top j = T at *
  obtain ⟨W, hW⟩ : ∃ W, w.alloc (.cells #[.int .i64 x.1, .int .i64 x.2] 53) = W := ⟨_, rfl⟩
  have hX : BX 53 W w.heap.size #[.int .i64 x.1, .int .i64 x.2] := by rw [← hW]; exact BX.new _ _ _
  have HB : Hid (Below w.heap.size w W) := by show Below _ _ _; rw [← hW]; exact below_alloc _ _
  obtain ⟨c0, c1, _⟩ := hX.all2
  have g0 := cell_regrown c0
  have g1 := cell_regrown c1
  have EG : ∀ d os, Calls Try.prog f #[r] (grow (redrawn W d) os) fun e w'' => e = .returned (.int .i64 T) ∧ ∃ p : Regrown, w'' = grow (redrawn W p.d) p.os := fun d os => Calls.regrown_of (hF _)
  have EW : ∀ v a b d os, Calls Try.prog 58 #[.int .i64 v, .int .i64 a, .int .i64 b] (grow (redrawn W d) os) fun e w'' => e = .returned (.bool (inB v a b)) ∧ ∃ p : Regrown, w'' = grow (redrawn W p.d) p.os := fun v a b d os => Calls.regrown_of ((pwithin_any v a b _).mono (fun e w' h => ⟨h.1, by rw [h.2]; exact Below.refl _ _⟩))
  clear hv hF hX c0 c1
  cases h1 : inB x.1 (-1) T
  · go_enter Try.func57, Try.ntmps57
    go_upto_region 1 with fail
    refine wp_region_quiet_below (by kernel_rfl) (by kernel_rfl) ?_
    repeat (quiet_step (first | (go_at_call 58; exact EW _ _ _ _ _) | exact EG _ _))
    refine wpQuiet_nil ?_
    intro _ hw'
    obtain ⟨⟨dq, osq⟩, hw''⟩ := hw'
    have HB9 : Hid (Below W.heap.size W (grow (redrawn W dq) osq)) := below_regrown W dq osq
    subst hw''
    generalize grow (redrawn W dq) osq = W9 at HB9 ⊢
    have HC : Hid (Below w.heap.size w W9) := HB.out.trans (HB9.out.mono HB.out.size)
    clear g0 g1 EG EW
    go_wp2_with fail
    go_ret
    exact ⟨rfl, HC.out⟩
  · cases h2 : inB x.2 (-1) 199
    all_goals go_enter Try.func57, Try.ntmps57
    all_goals go_upto_region 1 with fail
    all_goals refine wp_region_quiet_below (by kernel_rfl) (by kernel_rfl) ?_
    all_goals repeat (quiet_step (first | (go_at_call 58; exact EW _ _ _ _ _) | exact EG _ _))
    all_goals refine wpQuiet_nil ?_
    all_goals intro _ hw'
    all_goals obtain ⟨⟨dq, osq⟩, hw''⟩ := hw'
    all_goals have HB9 : Hid (Below W.heap.size W (grow (redrawn W dq) osq)) := below_regrown W dq osq
    all_goals subst hw''
    all_goals generalize grow (redrawn W dq) osq = W9 at HB9 ⊢
    all_goals have HC : Hid (Below w.heap.size w W9) := HB.out.trans (HB9.out.mono HB.out.size)
    all_goals clear g0 g1 EG EW
    all_goals go_wp2_with fail
    all_goals go_ret
    all_goals exact ⟨rfl, HC.out⟩

set_option maxHeartbeats 1000000 in
set_option maxRecDepth 100000 in
theorem mailMayBe_any (j : Jb) (v : Value) (m : List Int) (w : World) (h : InR w v m) :
    Calls Try.prog 65 #[Jb.v j, v] w fun e w' => e = .returned (.bool (mailB j m)) ∧ RowKit.Below w.heap.size w w' := by
  have HR : Hid (InR w v m) := h
  obtain ⟨a, cap, rfl, hca, hma, _, _⟩ := h
  unfold maxLen at hma
  obtain ⟨t, u, hv, _, ⟨f, r, ⟨hm, he⟩, hF⟩, _⟩ := job_open j
  rw [hv]
  simp [mname, Try.underlying69] at hm
  have HF : Hid (GreatF j f r) := hF
  unfold GreatF at HF
  have HM : Hid (mailB j m = m.all fun y => inB y 0 (Jb.top j)) := rfl
  generalize mailB j m = R at *
  generalize Jb.top j = T at *
  clear hv hF
  go_enter Try.func65, Try.ntmps65
  go_wp2_with fail
  go_loopw [9] (fun i wr => ∃ k : Nat, k ≤ m.length ∧ i = .int .i64 k ∧ ((m.take k).all fun y => inB y 0 T) = true ∧ RowKit.Below w.heap.size w wr) (fun i _ => m.length - (intOf i).toNat)
  case atStart => exact ⟨0, by omega, rfl, rfl, Below.refl _ _⟩
  case round =>
    obtain ⟨k, hk, rfl, hh, hb⟩ := hrel
    have HH : Hid (((m.take k).all fun y => inB y 0 T) = true) := hh
    have HBL : Hid (RowKit.Below w.heap.size w wr) := hb
    clear hh hb
    by_cases hlt : k < m.length
    · obtain ⟨xa, oa, cap', e1, _, _, la, hva⟩ := InR.at (HR.out.below HBL.out (Nat.le_refl _)) (by omega)
      injection e1 with e1 _ e3
      subst e1 e3
      obtain ⟨y, hy⟩ := getX hlt
      have p0 : (0 : Int) ≤ (k : Int) := by omega
      have p1 : (k : Int) < (m.length : Int) := by omega
      have c1 := hva k y hy
      have HY : Hid (m[k]? = some y) := hy
      clear hva hy
      cases hin : inB y 0 T
      · have HE : Hid (R = false) := by
          show R = false
          rw [HM.out]
          refine Bool.eq_false_iff.2 fun hall => ?_
          have := List.all_eq_true.1 hall y (List.mem_of_getElem? HY.out)
          rw [hin] at this
          cases this
        have C2 : Hid (∀ X, Calls Try.prog 58 #[.int .i64 y, .int .i64 0, .int .i64 T] X fun e w' => e = .returned (.bool false) ∧ w' = X) := fun X => pwithin_is hin X
        clear hin
        go_wp2_with fail
        refine (HF.out _).mono ?_
        rintro e w1 ⟨rfl, hb1⟩
        have B1 : Hid (RowKit.Below w.heap.size w w1) := HBL.out.trans (hb1.mono HBL.out.size)
        clear hb1 c1
        go_wp2_with fail
        refine (C2.out _).mono ?_
        rintro e w2 ⟨rfl, hw⟩
        replace hw := hw.symm
        subst hw
        go_wp2_with fail
        go_ret
        exact ⟨ret_bool HE.out.symm, B1.out⟩
      · have HE : Hid (((m.take (k + 1)).all fun y => inB y 0 T) = true) := by
          show ((m.take (k + 1)).all fun y => inB y 0 T) = true
          rw [take_snoc HY.out, List.all_append, HH.out]
          simp [hin]
        have C2 : Hid (∀ X, Calls Try.prog 58 #[.int .i64 y, .int .i64 0, .int .i64 T] X fun e w' => e = .returned (.bool true) ∧ w' = X) := fun X => pwithin_is hin X
        clear hin
        go_wp2_with fail
        refine (HF.out _).mono ?_
        rintro e w1 ⟨rfl, hb1⟩
        have B1 : Hid (RowKit.Below w.heap.size w w1) := HBL.out.trans (hb1.mono HBL.out.size)
        clear hb1 c1
        go_wp2_with fail
        refine (C2.out _).mono ?_
        rintro e w2 ⟨rfl, hw⟩
        replace hw := hw.symm
        subst hw
        go_wp2_with fail
        go_roundw
        case rel => exact ⟨k + 1, by omega, by go_num, HE.out, B1.out⟩
        case measure => simp [intOf]; omega
    · have HE : Hid (R = true) := by
        show R = true
        rw [HM.out]
        have := HH.out
        rwa [List.take_of_length_le (by omega)] at this
      go_wp2_with fail
      go_ret
      exact ⟨ret_bool HE.out.symm, HBL.out⟩
end Go.Proofs.Ytinijeejfnehmaa
