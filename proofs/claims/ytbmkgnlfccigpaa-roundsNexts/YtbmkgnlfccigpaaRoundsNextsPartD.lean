/-
  Contract of rounds.first.
  Contract of rounds.again.
  Contract of rounds.after: of a job that is right, and a state that may be.
  Contract of rounds.Check.
  Contracts of cmp.Less over numbers and slices.IsSorted over slices of numbers.
-/
import Derived.Test.YtbmkgnlfccigpaaValRow
import Derived.Test.YtbmkgnlfccigpaaRoundsNextsPartB
import Derived.Test.YtbmkgnlfccigpaaRegionCall
import Derived.Deep.CutRange
import Derived.Test.YtbmkgnlfccigpaaRoundsNextsPartC
import Derived.Test.YtbmkgnlfccigpaaMayMath
import Derived.Test.YtbmkgnlfccigpaaRoundTell
import Derived.Test.YtbmkgnlfccigpaaRefJob0
import Derived.Test.YtbmkgnlfccigpaaCheckFace
import Derived.Test.YtbmkgnlfccigpaaRoundsNextsPartA
import Derived.Test.YtbmkgnlfccigpaaBoxMem
import Derived.Deep.QuietTactic
import Derived.BigQuiet

namespace Go.Proofs.Ytbmkgnlfccigpaa
set_option maxRecDepth 100000
open Go.ChangeShapes Go.WideShapes Go.ChangeAt Go.RowKit

/-- A state that is answered alone. -/
def StoP (w : World) (t : StS) (e : Ending) (w' : World) : Prop :=
  ∃ vv vm, e = .returned (.agg #[.int .i64 t.step, .int .i64 t.phase, .bool t.fresh, .bool t.done, vv, vm]) ∧ w'.ownsRow w.heap.size 59 2 vv t.vals.length (t.vals.flatMap encM) ∧ OwnLi w' w.heap.size vm t.mail ∧ Below w.heap.size w w'
/-- So many values are told, the others not yet. -/
def fstV (m i : Nat) : List Ml := List.replicate i (-1, -1) ++ List.replicate (m - i) (0, 0)
theorem fstV_len {m i : Nat} (h : i ≤ m) : (fstV m i).length = m := by simp [fstV]; omega
theorem fstV_zero (m : Nat) : fstV m 0 = List.replicate m (0, 0) := by simp [fstV]
theorem fstV_all (m : Nat) : fstV m m = List.replicate m (-1, -1) := by simp [fstV]
theorem fstV_set {m i : Nat} (h : i < m) : fstV m (i + 1) = (fstV m i).set i (-1, -1) := by
  unfold fstV
  rw [List.replicate_succ', List.append_assoc, show m - i = (m - (i + 1)) + 1 by omega, List.replicate_succ, List.set_append_right _ _ (by simp)]
  simp

set_option maxHeartbeats 2000000 in
set_option maxRecDepth 100000 in
theorem first_any (m : Nat) (w : World) (hm : m ≤ 200) :
    Calls Try.prog 45 #[.int .i64 m] w (StoP w (beginS m)) := by
  obtain ⟨bf, hbf⟩ : ∃ b, decide (0 < m) = b := ⟨_, rfl⟩
  obtain ⟨bd, hbd⟩ : ∃ b, decide (m = 0) = b := ⟨_, rfl⟩
  have td : ((m : Int) == 0) = bd := by
    rw [← hbd, Bool.eq_iff_iff]
    simp
  have HP : Hid (∀ (w' : World) vv vm, w'.ownsRow w.heap.size 59 2 vv m ((List.replicate m ((-1, -1) : Ml)).flatMap encM) → OwnLi w' w.heap.size vm (List.replicate m []) → Below w.heap.size w w' → StoP w (beginS m) (.returned (.agg #[.int .i64 0, .int .i64 0, .bool bf, .bool bd, vv, vm])) w') := fun w' vv vm h1 h2 h3 => by
    rw [← hbf, ← hbd]
    exact ⟨vv, vm, rfl, by simpa [beginS] using h1, h2, h3⟩
  generalize StoP w (beginS m) = P at *
  obtain ⟨W0, hW0⟩ : ∃ W0, W0 = (w.alloc (.cells #[.int .i64 0, .int .i64 0, .bool false, .bool false, .slice none 0 0, .slice none 0 0] 30)).alloc (.cells #[.int .i64 0, .int .i64 0, .bool bf, .bool bd, .slice none 0 0, .slice none 0 0] 30) := ⟨_, rfl⟩
  obtain ⟨Q0, T0, B0, s1, s2⟩ := boxes2 w #[.int .i64 0, .int .i64 0, .bool false, .bool false, .slice none 0 0, .slice none 0 0] #[.int .i64 0, .int .i64 0, .bool bf, .bool bd, .slice none 0 0, .slice none 0 0] 30 30 W0 hW0
  have BH : Hid (Below w.heap.size w W0) := B0
  have X0 : Hid (BX 30 W0 (w.heap.size + 1) #[.int .i64 0, .int .i64 0, .bool bf, .bool bd, .slice none 0 0, .slice none 0 0]) := T0
  have R0 : Hid (BX 30 W0 w.heap.size #[.int .i64 0, .int .i64 0, .bool false, .bool false, .slice none 0 0, .slice none 0 0]) := Q0
  clear Q0 T0 B0 hbd
  go_enter Try.func45, Try.ntmps45
  go_upto_region 2 with fail
  rw [← hW0]
  clear hW0
  apply Hid.cut
  case h =>
    intro HG
    refine region_lastF (S := fun _ => True) (by kernel_rfl) rfl (by kernel_rfl) (by kernel_rfl) ?_
    simp only [List.pop_toArray, List.dropLast_cons_cons, List.dropLast_singleton, List.size_toArray, List.length_cons, List.length_nil, Nat.reduceAdd]
    refine takeH (i := 0) (v := .int .i64 (m : Int)) (d := 10) rfl rfl (by kernel_rfl) (by kernel_rfl) (by kernel_rfl) (fun _ _ _ h => h) (by rfl) (fun V hV => by clear hV; go_simp) trivial ?_
    simp only [Act.put, List.setIfInBounds_toArray, List.set_cons_zero, List.set_cons_succ]
    refine takeH (i := 2) (v := .int .i64 (m : Int)) (d := 12) rfl rfl (by kernel_rfl) (by kernel_rfl) (by kernel_rfl) (fun _ _ _ h => h) (by rfl) (fun V hV => by clear hV; go_simp) trivial ?_
    simp only [Act.put, List.setIfInBounds_toArray, List.set_cons_zero, List.set_cons_succ]
    refine twoH (i := 1) (j := 3) rfl rfl (by kernel_rfl) rfl rfl ?wA ?wB
    case wA =>
      obtain ⟨X1, mk1, ov1, hb1⟩ := make_vals W0.drew m (by omega)
      have z1 : W0.drew.heap.size = W0.heap.size := rfl
      have k1 : Kept (fun k => k = (w.heap.size + 1)) W0 X1 := (Kept.refl _ W0).drew.trans (.of hb1)
      have x1 : BX 30 X1 (w.heap.size + 1) #[.int .i64 0, .int .i64 0, .bool bf, .bool bd, .slice none 0 0, .slice none 0 0] := X0.out.below ((Below.refl _ W0).drew.trans hb1) (by omega)
      refine op_run (d := 11) (v' := .slice (some ⟨W0.drew.heap.size, 0, none⟩) m m) (w' := X1) rfl (by go_simp) ⟨trivial, ?_⟩
      simp only [Act.put, List.setIfInBounds_toArray, List.set_cons_zero, List.set_cons_succ]
      refine takeH (i := 4) (v := .pointer (some ⟨(w.heap.size + 1), 4, none⟩)) (d := 14) rfl rfl (by kernel_rfl) (by kernel_rfl) (by kernel_rfl) (fun _ _ _ h => h) (by rfl) (fun V hV => by clear hV; go_simp) trivial ?_
      simp only [Act.put, List.setIfInBounds_toArray, List.set_cons_zero, List.set_cons_succ]
      refine twoH (i := 3) (j := 5) rfl rfl (by kernel_rfl) rfl rfl ?wA1 ?wA2
      case wA1 =>
        obtain ⟨X2, mk2, ot2, hb2⟩ := make_tbi X1 m (by omega)
        have k2 : Kept (fun k => k = (w.heap.size + 1)) W0 X2 := k1.trans (.of hb2)
        have x2 : BX 30 X2 (w.heap.size + 1) #[.int .i64 0, .int .i64 0, .bool bf, .bool bd, .slice none 0 0, .slice none 0 0] := x1.below hb2 x1.lt
        have v2 : X2.ownsRow W0.heap.size 59 2 (.slice (some ⟨W0.drew.heap.size, 0, none⟩) m m) m ((List.replicate m ((0, 0) : Ml)).flatMap encM) := own_below ov1 hb2 (Nat.le_refl _)
        refine op_run (d := 13) (v' := .slice (some ⟨X1.heap.size, 0, none⟩) m m) (w' := X2) rfl (by go_simp) ⟨trivial, ?_⟩
        simp only [Act.put, List.setIfInBounds_toArray, List.set_cons_zero, List.set_cons_succ]
        obtain ⟨⟨c0, c1, c2, c3, c4, c5⟩, e0, e1, e2, e3, e4, e5⟩ := x2.all6
        refine oneH (i := 5) rfl (by kernel_rfl) rfl (op_skip (w' := X2.setCell ⟨(w.heap.size + 1), 4, none⟩ (.slice (some ⟨W0.drew.heap.size, 0, none⟩) m m)) rfl (by go_simp) ⟨trivial, ?_⟩)
        clear c0 c1 c2 c3 c4 c5 e0 e1 e2 e3 e4 e5
        have x3 : BX 30 (X2.setCell ⟨(w.heap.size + 1), 4, none⟩ (.slice (some ⟨W0.drew.heap.size, 0, none⟩) m m)) (w.heap.size + 1) #[.int .i64 0, .int .i64 0, .bool bf, .bool bd, .slice (some ⟨W0.drew.heap.size, 0, none⟩) m m, .slice none 0 0] := x2.set 4 _
        have k3 : Kept (fun k => k = (w.heap.size + 1)) W0 (X2.setCell ⟨(w.heap.size + 1), 4, none⟩ (.slice (some ⟨W0.drew.heap.size, 0, none⟩) m m)) := k2.trans (Kept.box _ _ _ _)
        have v3 : (X2.setCell ⟨(w.heap.size + 1), 4, none⟩ (.slice (some ⟨W0.drew.heap.size, 0, none⟩) m m)).ownsRow W0.heap.size 59 2 (.slice (some ⟨W0.drew.heap.size, 0, none⟩) m m) m ((List.replicate m ((0, 0) : Ml)).flatMap encM) := own_off v2 x2 (by decide) (Kept.box _ _ _ _)
        have t3 : TbI (X2.setCell ⟨(w.heap.size + 1), 4, none⟩ (.slice (some ⟨W0.drew.heap.size, 0, none⟩) m m)) W0.heap.size X1.heap.size m (List.replicate m (.slice none 0 0)) (List.replicate m []) := (ot2.lower k1.size).off (Kept.box _ _ _ _) (fun k hk => by subst hk; exact ⟨_, _, _, x2, by decide, by decide⟩)
        generalize X2.setCell ⟨(w.heap.size + 1), 4, none⟩ (.slice (some ⟨W0.drew.heap.size, 0, none⟩) m m) = X3 at *
        refine takeH (i := 6) (v := .pointer (some ⟨(w.heap.size + 1), 5, none⟩)) (d := 15) rfl rfl (by kernel_rfl) (by kernel_rfl) (by kernel_rfl) (fun _ _ _ h => h) (by rfl) (fun V hV => by clear hV; go_simp) trivial ?_
        simp only [Act.put, List.setIfInBounds_toArray, List.set_cons_zero, List.set_cons_succ]
        refine wpAnyH_done (by kernel_rfl) ?_ _
        show Oper.wp _ _ _ _ _ _
        obtain ⟨⟨c0, c1, c2, c3, c4, c5⟩, e0, e1, e2, e3, e4, e5⟩ := x3.all6
        refine op_skip (w' := X3.setCell ⟨(w.heap.size + 1), 5, none⟩ (.slice (some ⟨X1.heap.size, 0, none⟩) m m)) rfl (by go_simp) ?_
        clear c0 c1 c2 c3 c4 c5 e0 e1 e2 e3 e4 e5
        have FX : Hid (BX 30 (X3.setCell ⟨(w.heap.size + 1), 5, none⟩ (.slice (some ⟨X1.heap.size, 0, none⟩) m m)) (w.heap.size + 1) #[.int .i64 0, .int .i64 0, .bool bf, .bool bd, .slice (some ⟨W0.drew.heap.size, 0, none⟩) m m, .slice (some ⟨X1.heap.size, 0, none⟩) m m]) := x3.set 5 _
        have FK : Hid (Kept (fun k => k = (w.heap.size + 1)) W0 (X3.setCell ⟨(w.heap.size + 1), 5, none⟩ (.slice (some ⟨X1.heap.size, 0, none⟩) m m))) := k3.trans (Kept.box _ _ _ _)
        have FV : Hid ((X3.setCell ⟨(w.heap.size + 1), 5, none⟩ (.slice (some ⟨X1.heap.size, 0, none⟩) m m)).ownsRow W0.heap.size 59 2 (.slice (some ⟨W0.drew.heap.size, 0, none⟩) m m) m ((List.replicate m ((0, 0) : Ml)).flatMap encM)) := own_off v3 x3 (by decide) (Kept.box _ _ _ _)
        have FT : Hid (TbI (X3.setCell ⟨(w.heap.size + 1), 5, none⟩ (.slice (some ⟨X1.heap.size, 0, none⟩) m m)) W0.heap.size X1.heap.size m (List.replicate m (.slice none 0 0)) (List.replicate m [])) := t3.off (Kept.box _ _ _ _) (fun k hk => by subst hk; exact ⟨_, _, _, x3, by decide, by decide⟩)
        clear x3 k3 v3 t3
        clear mk1 mk2 ov1 hb1 z1 k1 x1 ot2 hb2 k2 x2 v2
        generalize X3.setCell ⟨(w.heap.size + 1), 5, none⟩ (.slice (some ⟨X1.heap.size, 0, none⟩) m m) = XX at *
        generalize W0.drew.heap.size = g1 at *
        generalize X1.heap.size = g2 at *
        revert FT
        revert FV
        revert FK
        revert FX
        revert XX
        revert g2
        revert g1
        exact HG.out
      case wA2 =>
        obtain ⟨⟨c0, c1, c2, c3, c4, c5⟩, e0, e1, e2, e3, e4, e5⟩ := x1.all6
        refine op_skip (w' := X1.setCell ⟨(w.heap.size + 1), 4, none⟩ (.slice (some ⟨W0.drew.heap.size, 0, none⟩) m m)) rfl (by go_simp) ⟨trivial, ?_⟩
        clear c0 c1 c2 c3 c4 c5 e0 e1 e2 e3 e4 e5
        have x2 : BX 30 (X1.setCell ⟨(w.heap.size + 1), 4, none⟩ (.slice (some ⟨W0.drew.heap.size, 0, none⟩) m m)) (w.heap.size + 1) #[.int .i64 0, .int .i64 0, .bool bf, .bool bd, .slice (some ⟨W0.drew.heap.size, 0, none⟩) m m, .slice none 0 0] := x1.set 4 _
        have k2 : Kept (fun k => k = (w.heap.size + 1)) W0 (X1.setCell ⟨(w.heap.size + 1), 4, none⟩ (.slice (some ⟨W0.drew.heap.size, 0, none⟩) m m)) := k1.trans (Kept.box _ _ _ _)
        have v2 : (X1.setCell ⟨(w.heap.size + 1), 4, none⟩ (.slice (some ⟨W0.drew.heap.size, 0, none⟩) m m)).ownsRow W0.heap.size 59 2 (.slice (some ⟨W0.drew.heap.size, 0, none⟩) m m) m ((List.replicate m ((0, 0) : Ml)).flatMap encM) := own_off ov1 x1 (by decide) (Kept.box _ _ _ _)
        generalize X1.setCell ⟨(w.heap.size + 1), 4, none⟩ (.slice (some ⟨W0.drew.heap.size, 0, none⟩) m m) = X2 at *
        obtain ⟨X3, mk3, ot3, hb3⟩ := make_tbi X2 m (by omega)
        have x3 : BX 30 X3 (w.heap.size + 1) #[.int .i64 0, .int .i64 0, .bool bf, .bool bd, .slice (some ⟨W0.drew.heap.size, 0, none⟩) m m, .slice none 0 0] := x2.below hb3 x2.lt
        have k3 : Kept (fun k => k = (w.heap.size + 1)) W0 X3 := k2.trans (.of hb3)
        have v3 : X3.ownsRow W0.heap.size 59 2 (.slice (some ⟨W0.drew.heap.size, 0, none⟩) m m) m ((List.replicate m ((0, 0) : Ml)).flatMap encM) := own_below v2 hb3 (Nat.le_refl _)
        have t3 : TbI X3 W0.heap.size X2.heap.size m (List.replicate m (.slice none 0 0)) (List.replicate m []) := ot3.lower k2.size
        refine oneH (i := 3) rfl (by kernel_rfl) rfl (op_run (d := 13) (v' := .slice (some ⟨X2.heap.size, 0, none⟩) m m) (w' := X3) rfl (by go_simp) ⟨trivial, ?_⟩)
        simp only [Act.put, List.setIfInBounds_toArray, List.set_cons_zero, List.set_cons_succ]
        refine takeH (i := 6) (v := .pointer (some ⟨(w.heap.size + 1), 5, none⟩)) (d := 15) rfl rfl (by kernel_rfl) (by kernel_rfl) (by kernel_rfl) (fun _ _ _ h => h) (by rfl) (fun V hV => by clear hV; go_simp) trivial ?_
        simp only [Act.put, List.setIfInBounds_toArray, List.set_cons_zero, List.set_cons_succ]
        refine wpAnyH_done (by kernel_rfl) ?_ _
        show Oper.wp _ _ _ _ _ _
        obtain ⟨⟨c0, c1, c2, c3, c4, c5⟩, e0, e1, e2, e3, e4, e5⟩ := x3.all6
        refine op_skip (w' := X3.setCell ⟨(w.heap.size + 1), 5, none⟩ (.slice (some ⟨X2.heap.size, 0, none⟩) m m)) rfl (by go_simp) ?_
        clear c0 c1 c2 c3 c4 c5 e0 e1 e2 e3 e4 e5
        have FX : Hid (BX 30 (X3.setCell ⟨(w.heap.size + 1), 5, none⟩ (.slice (some ⟨X2.heap.size, 0, none⟩) m m)) (w.heap.size + 1) #[.int .i64 0, .int .i64 0, .bool bf, .bool bd, .slice (some ⟨W0.drew.heap.size, 0, none⟩) m m, .slice (some ⟨X2.heap.size, 0, none⟩) m m]) := x3.set 5 _
        have FK : Hid (Kept (fun k => k = (w.heap.size + 1)) W0 (X3.setCell ⟨(w.heap.size + 1), 5, none⟩ (.slice (some ⟨X2.heap.size, 0, none⟩) m m))) := k3.trans (Kept.box _ _ _ _)
        have FV : Hid ((X3.setCell ⟨(w.heap.size + 1), 5, none⟩ (.slice (some ⟨X2.heap.size, 0, none⟩) m m)).ownsRow W0.heap.size 59 2 (.slice (some ⟨W0.drew.heap.size, 0, none⟩) m m) m ((List.replicate m ((0, 0) : Ml)).flatMap encM)) := own_off v3 x3 (by decide) (Kept.box _ _ _ _)
        have FT : Hid (TbI (X3.setCell ⟨(w.heap.size + 1), 5, none⟩ (.slice (some ⟨X2.heap.size, 0, none⟩) m m)) W0.heap.size X2.heap.size m (List.replicate m (.slice none 0 0)) (List.replicate m [])) := t3.off (Kept.box _ _ _ _) (fun k hk => by subst hk; exact ⟨_, _, _, x3, by decide, by decide⟩)
        exact HG.out _ _ _ FX FK FV FT
    case wB =>
      obtain ⟨X1, mk1, ot1, hb1⟩ := make_tbi W0.drew m (by omega)
      have z1 : W0.drew.heap.size = W0.heap.size := rfl
      have k1 : Kept (fun k => k = (w.heap.size + 1)) W0 X1 := (Kept.refl _ W0).drew.trans (.of hb1)
      have x1 : BX 30 X1 (w.heap.size + 1) #[.int .i64 0, .int .i64 0, .bool bf, .bool bd, .slice none 0 0, .slice none 0 0] := X0.out.below ((Below.refl _ W0).drew.trans hb1) (by omega)
      refine op_run (d := 13) (v' := .slice (some ⟨W0.drew.heap.size, 0, none⟩) m m) (w' := X1) rfl (by go_simp) ⟨trivial, ?_⟩
      simp only [Act.put, List.setIfInBounds_toArray, List.set_cons_zero, List.set_cons_succ]
      obtain ⟨X2, mk2, ov2, hb2⟩ := make_vals X1 m (by omega)
      have k2 : Kept (fun k => k = (w.heap.size + 1)) W0 X2 := k1.trans (.of hb2)
      have x2 : BX 30 X2 (w.heap.size + 1) #[.int .i64 0, .int .i64 0, .bool bf, .bool bd, .slice none 0 0, .slice none 0 0] := x1.below hb2 x1.lt
      have t2 : TbI X2 W0.heap.size W0.drew.heap.size m (List.replicate m (.slice none 0 0)) (List.replicate m []) := ot1.kept (.of hb2)
      refine oneH (i := 1) rfl (by kernel_rfl) rfl (op_run (d := 11) (v' := .slice (some ⟨X1.heap.size, 0, none⟩) m m) (w' := X2) rfl (by go_simp) ⟨trivial, ?_⟩)
      simp only [Act.put, List.setIfInBounds_toArray, List.set_cons_zero, List.set_cons_succ]
      refine takeH (i := 4) (v := .pointer (some ⟨(w.heap.size + 1), 4, none⟩)) (d := 14) rfl rfl (by kernel_rfl) (by kernel_rfl) (by kernel_rfl) (fun _ _ _ h => h) (by rfl) (fun V hV => by clear hV; go_simp) trivial ?_
      simp only [Act.put, List.setIfInBounds_toArray, List.set_cons_zero, List.set_cons_succ]
      obtain ⟨⟨c0, c1, c2, c3, c4, c5⟩, e0, e1, e2, e3, e4, e5⟩ := x2.all6
      refine oneH (i := 5) rfl (by kernel_rfl) rfl (op_skip (w' := X2.setCell ⟨(w.heap.size + 1), 4, none⟩ (.slice (some ⟨X1.heap.size, 0, none⟩) m m)) rfl (by go_simp) ⟨trivial, ?_⟩)
      clear c0 c1 c2 c3 c4 c5 e0 e1 e2 e3 e4 e5
      have x3 : BX 30 (X2.setCell ⟨(w.heap.size + 1), 4, none⟩ (.slice (some ⟨X1.heap.size, 0, none⟩) m m)) (w.heap.size + 1) #[.int .i64 0, .int .i64 0, .bool bf, .bool bd, .slice (some ⟨X1.heap.size, 0, none⟩) m m, .slice none 0 0] := x2.set 4 _
      have k3 : Kept (fun k => k = (w.heap.size + 1)) W0 (X2.setCell ⟨(w.heap.size + 1), 4, none⟩ (.slice (some ⟨X1.heap.size, 0, none⟩) m m)) := k2.trans (Kept.box _ _ _ _)
      have v3 : (X2.setCell ⟨(w.heap.size + 1), 4, none⟩ (.slice (some ⟨X1.heap.size, 0, none⟩) m m)).ownsRow W0.heap.size 59 2 (.slice (some ⟨X1.heap.size, 0, none⟩) m m) m ((List.replicate m ((0, 0) : Ml)).flatMap encM) := own_off (own_lower ov2 k1.size) x2 (by decide) (Kept.box _ _ _ _)
      have t3 : TbI (X2.setCell ⟨(w.heap.size + 1), 4, none⟩ (.slice (some ⟨X1.heap.size, 0, none⟩) m m)) W0.heap.size W0.drew.heap.size m (List.replicate m (.slice none 0 0)) (List.replicate m []) := t2.off (Kept.box _ _ _ _) (fun k hk => by subst hk; exact ⟨_, _, _, x2, by decide, by decide⟩)
      generalize X2.setCell ⟨(w.heap.size + 1), 4, none⟩ (.slice (some ⟨X1.heap.size, 0, none⟩) m m) = X3 at *
      refine takeH (i := 6) (v := .pointer (some ⟨(w.heap.size + 1), 5, none⟩)) (d := 15) rfl rfl (by kernel_rfl) (by kernel_rfl) (by kernel_rfl) (fun _ _ _ h => h) (by rfl) (fun V hV => by clear hV; go_simp) trivial ?_
      simp only [Act.put, List.setIfInBounds_toArray, List.set_cons_zero, List.set_cons_succ]
      refine wpAnyH_done (by kernel_rfl) ?_ _
      show Oper.wp _ _ _ _ _ _
      obtain ⟨⟨c0, c1, c2, c3, c4, c5⟩, e0, e1, e2, e3, e4, e5⟩ := x3.all6
      refine op_skip (w' := X3.setCell ⟨(w.heap.size + 1), 5, none⟩ (.slice (some ⟨W0.drew.heap.size, 0, none⟩) m m)) rfl (by go_simp) ?_
      clear c0 c1 c2 c3 c4 c5 e0 e1 e2 e3 e4 e5
      have FX : Hid (BX 30 (X3.setCell ⟨(w.heap.size + 1), 5, none⟩ (.slice (some ⟨W0.drew.heap.size, 0, none⟩) m m)) (w.heap.size + 1) #[.int .i64 0, .int .i64 0, .bool bf, .bool bd, .slice (some ⟨X1.heap.size, 0, none⟩) m m, .slice (some ⟨W0.drew.heap.size, 0, none⟩) m m]) := x3.set 5 _
      have FK : Hid (Kept (fun k => k = (w.heap.size + 1)) W0 (X3.setCell ⟨(w.heap.size + 1), 5, none⟩ (.slice (some ⟨W0.drew.heap.size, 0, none⟩) m m))) := k3.trans (Kept.box _ _ _ _)
      have FV : Hid ((X3.setCell ⟨(w.heap.size + 1), 5, none⟩ (.slice (some ⟨W0.drew.heap.size, 0, none⟩) m m)).ownsRow W0.heap.size 59 2 (.slice (some ⟨X1.heap.size, 0, none⟩) m m) m ((List.replicate m ((0, 0) : Ml)).flatMap encM)) := own_off v3 x3 (by decide) (Kept.box _ _ _ _)
      have FT : Hid (TbI (X3.setCell ⟨(w.heap.size + 1), 5, none⟩ (.slice (some ⟨W0.drew.heap.size, 0, none⟩) m m)) W0.heap.size W0.drew.heap.size m (List.replicate m (.slice none 0 0)) (List.replicate m [])) := t3.off (Kept.box _ _ _ _) (fun k hk => by subst hk; exact ⟨_, _, _, x3, by decide, by decide⟩)
      exact HG.out _ _ _ FX FK FV FT
  case g =>
    intro g1 g2 X FX FK FV FT
    have hx := FX.out
    obtain ⟨⟨c0, c1, c2, c3, c4, c5⟩, e0, e1, e2, e3, e4, e5⟩ := hx.all6
    have hbt : Hid (Below w.heap.size w X) := BH.out.trans (FK.out.below (by omega) (fun k hk => by omega))
    have hg1 := FV.out.lt g1 rfl
    have FV0 : Hid (X.ownsRow W0.heap.size 59 2 (.slice (some ⟨g1, 0, none⟩) m m) m ((fstV m 0).flatMap encM)) := by
      show World.ownsRow _ _ _ _ _ _ _
      rw [fstV_zero]; exact FV.out
    clear FV hx
    go_wp2_with fail
    clear c0 c1 c2 c3 c4 c5 e0 e1 e2 e3 e4 e5
    go_loopw [19] (fun i wr => ∃ j : Nat, j ≤ m ∧ i = .int .i64 j ∧ Kept (fun k => k = w.heap.size + 1 ∨ k = g1) W0 wr ∧ BX 30 wr (w.heap.size + 1) #[.int .i64 0, .int .i64 0, .bool bf, .bool bd, .slice (some ⟨g1, 0, none⟩) m m, .slice (some ⟨g2, 0, none⟩) m m] ∧ wr.ownsRow W0.heap.size 59 2 (.slice (some ⟨g1, 0, none⟩) m m) m ((fstV m j).flatMap encM) ∧ TbI wr W0.heap.size g2 m (List.replicate m (.slice none 0 0)) (List.replicate m [])) (fun i _ => m - (intOf i).toNat)
    case atStart => exact ⟨0, by omega, rfl, FK.out.mono (fun k hk => .inl hk), FX.out, FV0.out, FT.out⟩
    case round =>
      obtain ⟨j, hj, rfl, hk, hx, hv, ht⟩ := hrel
      have KB : Hid (Kept (fun k => k = w.heap.size + 1 ∨ k = g1) W0 wr) := hk
      have XB : Hid (BX 30 wr (w.heap.size + 1) #[.int .i64 0, .int .i64 0, .bool bf, .bool bd, .slice (some ⟨g1, 0, none⟩) m m, .slice (some ⟨g2, 0, none⟩) m m]) := hx
      have VB : Hid (wr.ownsRow W0.heap.size 59 2 (.slice (some ⟨g1, 0, none⟩) m m) m ((fstV m j).flatMap encM)) := hv
      have TB : Hid (TbI wr W0.heap.size g2 m (List.replicate m (.slice none 0 0)) (List.replicate m [])) := ht
      obtain ⟨⟨c0, c1, c2, c3, c4, c5⟩, _⟩ := hx.all6
      clear hk hx hv ht
      by_cases hlt : j < m
      · have p0 : (0 : Int) ≤ (j : Int) := by omega
        have p1 : (j : Int) < (m : Int) := by omega
        obtain ⟨cur, hcur⟩ : ∃ cur, wr.heap[g1]? = some (.cells cur 59 (0, 0)) := by
          rcases VB.out.2 with ⟨hv, _⟩ | ⟨g3, c3, cur, hv, _, hgg, _⟩
          · cases hv
          · injection hv with hv
            injection hv with hv
            injection hv with hv
            subst hv
            exact ⟨cur, hgg⟩
        obtain ⟨x, hx⟩ := getX (show j < (fstV m j).length by rw [fstV_len hj]; exact hlt)
        obtain ⟨d0, d1⟩ := own_atV VB.out hx
        have f0 := frozenK VB.out (j * 2)
        have f1 := frozenK VB.out (j * 2 + 1)
        have VN : Hid ((putV wr g1 (j * 2) (-1, -1)).ownsRow W0.heap.size 59 2 (.slice (some ⟨g1, 0, none⟩) m m) m ((fstV m (j + 1)).flatMap encM)) := by
          show World.ownsRow _ _ _ _ _ _ _
          rw [fstV_set hlt]; exact own_putV VB.out (by rw [fstV_len hj]; exact hlt) _
        have KN : Hid (Kept (fun k => k = w.heap.size + 1 ∨ k = g1) W0 (putV wr g1 (j * 2) (-1, -1))) := KB.out.trans ((kept_putV wr g1 (j * 2) (-1, -1)).mono fun k hk => .inr hk)
        have XN : Hid (BX 30 (putV wr g1 (j * 2) (-1, -1)) (w.heap.size + 1) #[.int .i64 0, .int .i64 0, .bool bf, .bool bd, .slice (some ⟨g1, 0, none⟩) m m, .slice (some ⟨g2, 0, none⟩) m m]) := XB.out.kept (kept_putV wr g1 (j * 2) (-1, -1)) (by omega)
        have TN : Hid (TbI (putV wr g1 (j * 2) (-1, -1)) W0.heap.size g2 m (List.replicate m (.slice none 0 0)) (List.replicate m [])) := TB.out.off (kept_putV wr g1 (j * 2) (-1, -1)) (fun k hk => by subst hk; exact ⟨_, _, _, hcur, by decide, by decide⟩)
        clear hx hcur cur
        unfold putV at VN KN XN TN
        go_wp2_with fail
        go_roundw
        case rel => exact ⟨j + 1, by omega, by go_num, KN.out, XN.out, VN.out, TN.out⟩
        case measure => simp [intOf]; omega
      · have ej : j = m := by omega
        have VE : Hid (wr.ownsRow W0.heap.size 59 2 (.slice (some ⟨g1, 0, none⟩) m m) m ((List.replicate m ((-1, -1) : Ml)).flatMap encM)) := by
          have := VB.out
          rw [ej, fstV_all] at this
          exact this
        have Z0 : BX 30 wr w.heap.size #[.int .i64 0, .int .i64 0, .bool false, .bool false, .slice none 0 0, .slice none 0 0] := R0.out.kept KB.out (by omega)
        have RX : Hid (BX 30 (put6 wr w.heap.size (.int .i64 0) (.int .i64 0) (.bool bf) (.bool bd) (.slice (some ⟨g1, 0, none⟩) m m) (.slice (some ⟨g2, 0, none⟩) m m)) w.heap.size #[.int .i64 0, .int .i64 0, .bool bf, .bool bd, .slice (some ⟨g1, 0, none⟩) m m, .slice (some ⟨g2, 0, none⟩) m m]) := Z0.put6
        have HE : Hid (P (.returned (.agg #[.int .i64 0, .int .i64 0, .bool bf, .bool bd, .slice (some ⟨g1, 0, none⟩) m m, .slice (some ⟨g2, 0, none⟩) m m])) (put6 wr w.heap.size (.int .i64 0) (.int .i64 0) (.bool bf) (.bool bd) (.slice (some ⟨g1, 0, none⟩) m m) (.slice (some ⟨g2, 0, none⟩) m m))) := by
          refine HP.out _ _ _ ?_ ?_ ?_
          · exact own_lower (own_off VE.out Z0 (by decide) (kept_put6 wr w.heap.size _ _ _ _ _ _)) (by omega)
          · exact (TB.out.own.off Z0 (by decide) (by decide) (kept_put6 wr w.heap.size _ _ _ _ _ _)).lower (by omega)
          · exact below_put6 (BH.out.trans (KB.out.below (by omega) (fun k hk => by omega))) (Nat.le_refl _) Z0.lt _ _ _ _ _ _
        obtain ⟨⟨d0, d1, d2, d3, d4, d5⟩, e0, e1, e2, e3, e4, e5⟩ := Z0.all6
        clear Z0 ej
        go_wp2_with fail
        obtain ⟨⟨r0, r1, r2, r3, r4, r5⟩, _⟩ := RX.out.all6
        unfold put6 at r0 r1 r2 r3 r4 r5
        exact bodyPost_ret (v := .agg #[.int .i64 0, .int .i64 0, .bool bf, .bool bd, .slice (some ⟨g1, 0, none⟩) m m, .slice (some ⟨g2, 0, none⟩) m m]) (by simp [results, Try.results45, go_sem, r0, r1, r2, r3, r4, r5]) rfl HE.out
end Go.Proofs.Ytbmkgnlfccigpaa

namespace Go.Proofs.Ytbmkgnlfccigpaa
set_option maxRecDepth 100000
open Go.ChangeShapes Go.WideShapes Go.ChangeAt Go.RowKit

set_option maxHeartbeats 2000000 in
set_option maxRecDepth 100000 in
theorem again_any (step phase : Int) (vs : List Ml) (vv vm : Value) (w : World) (hvm : ∃ a b c, vm = .slice a b c) (hv : MlR w vv vs) (hl : vs.length ≤ 200) :
    Calls Try.prog 47 #[.agg #[.int .i64 step, .int .i64 phase, .bool false, .bool true, vv, vm]] w (StoP w ⟨step, phase, false, true, vs, List.replicate vs.length []⟩) := by
  obtain ⟨ga, gb, gc, rfl⟩ := hvm
  generalize hvmx : Value.slice ga gb gc = vm
  have hone : vm.oneCell' = true := by rw [← hvmx]; rfl
  have HV : Hid (MlR w vv vs) := hv
  obtain ⟨va, vc, rfl, hvc, hvm, _, _⟩ := hv
  unfold maxLen at hvm
  have HP : Hid (∀ (w' : World) u1 u2, w'.ownsRow w.heap.size 59 2 u1 vs.length (vs.flatMap encM) → OwnLi w' w.heap.size u2 (List.replicate vs.length []) → Below w.heap.size w w' → StoP w ⟨step, phase, false, true, vs, List.replicate vs.length []⟩ (.returned (.agg #[.int .i64 step, .int .i64 phase, .bool false, .bool true, u1, u2])) w') := fun w' u1 u2 h1 h2 h3 => ⟨u1, u2, rfl, h1, h2, h3⟩
  generalize StoP w ⟨step, phase, false, true, vs, List.replicate vs.length []⟩ = P at *
  obtain ⟨W0, hW0⟩ : ∃ W0, W0 = (w.alloc (.cells #[.int .i64 step, .int .i64 phase, .bool false, .bool true, .slice va vs.length vc, vm] 30)).alloc (.cells #[.int .i64 0, .int .i64 0, .bool false, .bool false, .slice none 0 0, .slice none 0 0] 30) := ⟨_, rfl⟩
  obtain ⟨Q0, T0, B0, s1, s2⟩ := boxes2 w #[.int .i64 step, .int .i64 phase, .bool false, .bool true, .slice va vs.length vc, vm] #[.int .i64 0, .int .i64 0, .bool false, .bool false, .slice none 0 0, .slice none 0 0] 30 30 W0 hW0
  have BH : Hid (Below w.heap.size w W0) := B0
  have Z0 : Hid (BX 30 W0 (w.heap.size + 1) #[.int .i64 0, .int .i64 0, .bool false, .bool false, .slice none 0 0, .slice none 0 0]) := T0
  have X0 : Hid (BX 30 W0 w.heap.size #[.int .i64 step, .int .i64 phase, .bool false, .bool true, .slice va vs.length vc, vm]) := Q0
  obtain ⟨⟨c0, c1, c2, c3, c4, c5⟩, _⟩ := Q0.all6
  obtain ⟨w1, mk, ov, hb1⟩ := make_vals W0 vs.length (by omega)
  have x1 : BX 30 w1 w.heap.size #[.int .i64 step, .int .i64 phase, .bool false, .bool true, .slice va vs.length vc, vm] := Q0.below hb1 (by omega)
  have hr1 : MlR w1 (.slice va vs.length vc) vs := HV.out.below (B0.trans (hb1.mono (by omega))) (Nat.le_refl _)
  obtain ⟨w2, hcp, ov2, kp2⟩ := copy_vals 3 ov hr1 rfl
  obtain ⟨g1, hg1⟩ : ∃ g1, W0.heap.size = g1 := ⟨_, rfl⟩
  have hgl : w.heap.size + 2 ≤ g1 := by omega
  have K2 : Hid (Kept (fun k => k = g1) W0 w2) := (Kept.of hb1).trans (kp2.mono fun k hk => hk.trans hg1)
  have V2 : Hid (w2.ownsRow W0.heap.size 59 2 (.slice (some ⟨g1, 0, none⟩) vs.length vs.length) vs.length (vs.flatMap encM)) := by
    have := ov2
    rw [hg1] at this ⊢
    exact this
  have KEEP : Hid (∀ V, Kept (fun k => k = g1) W0 V → (V.cell? ⟨w.heap.size, 0, none⟩ = some (.int .i64 step) ∧ V.cell? ⟨w.heap.size, 1, none⟩ = some (.int .i64 phase))) := fun V hV => by
    obtain ⟨⟨c0, c1, c2, c3, c4, c5⟩, _⟩ := (X0.out.kept hV (by omega)).all6
    exact ⟨c0, c1⟩
  obtain ⟨⟨d0, d1, d2, d3, d4, d5⟩, _⟩ := x1.all6
  clear Q0 T0 B0 ov hb1 x1 hr1 ov2 kp2
  rw [hg1] at mk hcp
  go_enter Try.func47, Try.ntmps47
  go_upto_region 1 with fail
  rw [← hW0]
  clear hW0
  go_upto_region 2 with fail
  go_upto_region 3 with (at_builtin; refine Lib.wpList_copy_run _ rfl _ _ 27 27 rfl _ _ rfl rfl hcp ?_)
  clear c0 c1 c2 c3 c4 c5 d0 d1 d2 d3 d4 d5 mk hcp
  have HS0 : Hid (w2.drew.cell? ⟨w.heap.size, 0, none⟩ = some (.int .i64 step) ∧ w2.drew.cell? ⟨w.heap.size, 1, none⟩ = some (.int .i64 phase)) := KEEP.out w2.drew (K2.out.trans (Kept.refl _ w2).drew)
  refine region_lastF (S := fun V => (V.cell? ⟨w.heap.size, 0, none⟩ = some (.int .i64 step) ∧ V.cell? ⟨w.heap.size, 1, none⟩ = some (.int .i64 phase))) (by kernel_rfl) rfl (by kernel_rfl) (by kernel_rfl) ?_
  simp only [List.pop_toArray, List.dropLast_cons_cons, List.dropLast_singleton, List.size_toArray, List.length_cons, List.length_nil, Nat.reduceAdd]
  refine takeH (i := 0) (v := .pointer (some ⟨w.heap.size, 0, none⟩)) (d := 12) rfl rfl (by kernel_rfl) (by kernel_rfl) (by kernel_rfl) (fun _ _ _ h => h) (by rfl) (fun V hV => by obtain ⟨v1, v2⟩ := hV; go_simp) HS0.out ?_
  simp only [Act.put, List.setIfInBounds_toArray, List.set_cons_zero, List.set_cons_succ]
  refine takeH (i := 1) (v := .int .i64 step) (d := 13) rfl rfl (by kernel_rfl) (by kernel_rfl) (by kernel_rfl) (fun _ _ _ h => h) (by rfl) (fun V hV => by obtain ⟨v1, v2⟩ := hV; go_simp) HS0.out ?_
  simp only [Act.put, List.setIfInBounds_toArray, List.set_cons_zero, List.set_cons_succ]
  refine takeH (i := 2) (v := .pointer (some ⟨w.heap.size, 1, none⟩)) (d := 14) rfl rfl (by kernel_rfl) (by kernel_rfl) (by kernel_rfl) (fun _ _ _ h => h) (by rfl) (fun V hV => by obtain ⟨v1, v2⟩ := hV; go_simp) HS0.out ?_
  simp only [Act.put, List.setIfInBounds_toArray, List.set_cons_zero, List.set_cons_succ]
  refine takeH (i := 3) (v := .int .i64 phase) (d := 15) rfl rfl (by kernel_rfl) (by kernel_rfl) (by kernel_rfl) (fun _ _ _ h => h) (by rfl) (fun V hV => by obtain ⟨v1, v2⟩ := hV; go_simp) HS0.out ?_
  simp only [Act.put, List.setIfInBounds_toArray, List.set_cons_zero, List.set_cons_succ]
  refine takeH (i := 4) (v := .slice (some ⟨g1, 0, none⟩) vs.length vs.length) (d := 16) rfl rfl (by kernel_rfl) (by kernel_rfl) (by kernel_rfl) (fun _ _ _ h => h) (by rfl) (fun V hV => by obtain ⟨v1, v2⟩ := hV; go_simp) HS0.out ?_
  simp only [Act.put, List.setIfInBounds_toArray, List.set_cons_zero, List.set_cons_succ]
  refine takeH (i := 5) (v := .slice (some ⟨g1, 0, none⟩) vs.length vs.length) (d := 17) rfl rfl (by kernel_rfl) (by kernel_rfl) (by kernel_rfl) (fun _ _ _ h => h) (by rfl) (fun V hV => by obtain ⟨v1, v2⟩ := hV; go_simp) HS0.out ?_
  simp only [Act.put, List.setIfInBounds_toArray, List.set_cons_zero, List.set_cons_succ]
  refine takeH (i := 6) (v := .int .i64 (vs.length : Int)) (d := 18) rfl rfl (by kernel_rfl) (by kernel_rfl) (by kernel_rfl) (fun _ _ _ h => h) (by rfl) (fun V hV => by obtain ⟨v1, v2⟩ := hV; go_simp) HS0.out ?_
  simp only [Act.put, List.setIfInBounds_toArray, List.set_cons_zero, List.set_cons_succ]
  obtain ⟨X1, mk1, ot1, hb1⟩ := make_tbi w2.drew vs.length (by omega)
  have k1 : Kept (fun k => k = g1) W0 X1 := K2.out.trans ((Kept.refl _ w2).drew.trans (.of hb1))
  have HS1 : Hid (X1.cell? ⟨w.heap.size, 0, none⟩ = some (.int .i64 step) ∧ X1.cell? ⟨w.heap.size, 1, none⟩ = some (.int .i64 phase)) := KEEP.out X1 k1
  refine oneH (i := 7) rfl (by kernel_rfl) rfl (op_run (d := 19) (v' := .slice (some ⟨w2.drew.heap.size, 0, none⟩) vs.length vs.length) (w' := X1) rfl (by go_simp) ⟨HS1.out, ?_⟩)
  simp only [Act.put, List.setIfInBounds_toArray, List.set_cons_zero, List.set_cons_succ]
  refine takeH (i := 8) (v := .agg #[.int .i64 step, .int .i64 phase, .bool false, .bool true, .slice (some ⟨g1, 0, none⟩) vs.length vs.length, .slice (some ⟨w2.drew.heap.size, 0, none⟩) vs.length vs.length]) (d := 20) rfl rfl (by kernel_rfl) (by kernel_rfl) (by kernel_rfl) (fun _ _ _ h => h) (by rfl) (fun V hV => by obtain ⟨v1, v2⟩ := hV; go_simp) HS1.out ?_
  simp only [Act.put, List.setIfInBounds_toArray, List.set_cons_zero, List.set_cons_succ]
  refine wpAnyH_done (by kernel_rfl) ?_ _
  show Oper.wp _ _ _ _ _ _
  have z1 : BX 30 X1 (w.heap.size + 1) #[.int .i64 0, .int .i64 0, .bool false, .bool false, .slice none 0 0, .slice none 0 0] := Z0.out.kept k1 (by omega)
  have o1 : X1.ownsRow W0.heap.size 59 2 (.slice (some ⟨g1, 0, none⟩) vs.length vs.length) vs.length (vs.flatMap encM) := own_below V2.out ((Below.refl _ w2).drew.trans hb1) (Nat.le_refl _)
  obtain ⟨⟨d0, d1, d2, d3, d4, d5⟩, e0, e1, e2, e3, e4, e5⟩ := z1.all6
  refine op_skip (w' := put6 X1 (w.heap.size + 1) (.int .i64 step) (.int .i64 phase) (.bool false) (.bool true) (.slice (some ⟨g1, 0, none⟩) vs.length vs.length) (.slice (some ⟨w2.drew.heap.size, 0, none⟩) vs.length vs.length)) rfl (by unfold put6; go_simp) ?_
  have RX : Hid (BX 30 (put6 X1 (w.heap.size + 1) (.int .i64 step) (.int .i64 phase) (.bool false) (.bool true) (.slice (some ⟨g1, 0, none⟩) vs.length vs.length) (.slice (some ⟨w2.drew.heap.size, 0, none⟩) vs.length vs.length)) (w.heap.size + 1) #[.int .i64 step, .int .i64 phase, .bool false, .bool true, .slice (some ⟨g1, 0, none⟩) vs.length vs.length, .slice (some ⟨w2.drew.heap.size, 0, none⟩) vs.length vs.length]) := z1.put6
  have HE : Hid (P (.returned (.agg #[.int .i64 step, .int .i64 phase, .bool false, .bool true, .slice (some ⟨g1, 0, none⟩) vs.length vs.length, .slice (some ⟨w2.drew.heap.size, 0, none⟩) vs.length vs.length])) (put6 X1 (w.heap.size + 1) (.int .i64 step) (.int .i64 phase) (.bool false) (.bool true) (.slice (some ⟨g1, 0, none⟩) vs.length vs.length) (.slice (some ⟨w2.drew.heap.size, 0, none⟩) vs.length vs.length))) := by
    refine HP.out _ _ _ ?_ ?_ ?_
    · exact own_lower (own_off o1 z1 (by decide) (kept_put6 X1 (w.heap.size + 1) _ _ _ _ _ _)) (by omega)
    · have hz : w2.drew.heap.size = w2.heap.size := rfl
      have hz2 := K2.out.size
      exact (ot1.own.off z1 (by decide) (by decide) (kept_put6 X1 (w.heap.size + 1) _ _ _ _ _ _)).lower (by omega)
    · exact below_put6 (BH.out.trans (k1.below (by omega) (fun k hk => by omega))) (by omega) z1.lt _ _ _ _ _ _
  clear d0 d1 d2 d3 d4 d5 e0 e1 e2 e3 e4 e5 z1 o1 k1 HS1 ot1 hb1 mk1
  generalize put6 X1 (w.heap.size + 1) (.int .i64 step) (.int .i64 phase) (.bool false) (.bool true) (.slice (some ⟨g1, 0, none⟩) vs.length vs.length) (.slice (some ⟨w2.drew.heap.size, 0, none⟩) vs.length vs.length) = X at *
  go_wp2_with fail
  obtain ⟨⟨r0, r1, r2, r3, r4, r5⟩, _⟩ := RX.out.all6
  exact bodyPost_ret (v := .agg #[.int .i64 step, .int .i64 phase, .bool false, .bool true, .slice (some ⟨g1, 0, none⟩) vs.length vs.length, .slice (some ⟨w2.drew.heap.size, 0, none⟩) vs.length vs.length]) (by simp [results, Try.results47, go_sem, r0, r1, r2, r3, r4, r5]) rfl HE.out
end Go.Proofs.Ytbmkgnlfccigpaa

namespace Go.Proofs.Ytbmkgnlfccigpaa
set_option maxRecDepth 100000
open Go.ChangeShapes Go.WideShapes Go.ChangeAt Go.RowKit

/-- No mail: lists of nothing. -/
theorem mail_none {ms : List (List Int)} (h : ¬ 0 < manyL ms) : ms = List.replicate ms.length [] := by
  refine List.ext_getElem? fun i => ?_
  rcases Nat.lt_or_ge i ms.length with hi | hi
  · rw [List.getElem?_eq_getElem hi, List.getElem?_replicate, if_pos hi]
    congr 1
    exact manyL_zero.1 (by omega) _ (List.getElem_mem hi)
  · rw [List.getElem?_eq_none hi, List.getElem?_eq_none (by simpa using hi)]
theorem job_of {k p : Int} {j : Jb} (h : jobF k p = some j) : k = Jb.k j ∧ p = Jb.p j := by
  rcases jobF_cases k p with hn | ⟨j', h1, h2⟩
  · rw [hn.1] at h; cases h
  · have h3 := jobF_of j'
    rw [← h1, ← h2, h] at h3
    injection h3 with h3
    subst h3
    exact ⟨h1, h2⟩

set_option maxHeartbeats 4000000 in
set_option maxRecDepth 100000 in
theorem after_any (v : Value) (es : List Ed) (n k s : Int) (T : StS) (vv vm : Value) (w : World) (h : EdR w v es) (hv : MlR w vv T.vals) (hm : LiR w vm T.mail) (hje : jobE n es k s = 0) (hmay : mayR n.toNat k T = true) :
    Calls Try.prog 26 #[.agg #[.int .i64 n, v, .int .i64 k, .int .i64 s], .agg #[.int .i64 T.step, .int .i64 T.phase, .bool T.fresh, .bool T.done, vv, vm]] w (StaP w (folE n es k s T)) := by
  have HR : Hid (EdR w v es) := h
  obtain ⟨a, cap, rfl, _, _, _, _⟩ := h
  have HV : Hid (MlR w vv T.vals) := hv
  have HM : Hid (LiR w vm T.mail) := hm
  obtain ⟨va, vc, rfl, hvc, hvm, _, _⟩ := hv
  obtain ⟨ma, mc, rfl, hmc, hmm, _⟩ := hm
  obtain ⟨hf, hk3, _⟩ := jobE_zero hje
  obtain ⟨hn0, hn1, hel, hed⟩ := fault_ok hf
  obtain ⟨m, rfl⟩ : ∃ m : Nat, n = m := ⟨n.toNat, by omega⟩
  rw [Int.toNat_natCast] at hmay
  obtain ⟨j, hj, hI⟩ := mayR_iff.1 hmay
  obtain ⟨hkj, hpj⟩ := job_of hj
  have HG : InG m es := fun e he => by have := in_of_out (hed e he); exact ⟨this.1, this.2.1, this.2.2.1, this.2.2.2.1, this.2.2.2.2.1⟩
  have HDN : Hid (T.done = true → folE m es k s T = (0, T) ∧ T.fresh = false ∧ T.mail = List.replicate T.vals.length []) := fun hd => by
    refine ⟨folE_done hje (by rw [Int.toNat_natCast]; exact hmay) hd, ?_, ?_⟩
    · cases hfr : T.fresh
      · rfl
      · exact absurd ⟨hfr, hd⟩ hI.fd
    · have h0 : ¬ 0 < manyL T.mail := fun g => by have := (hI.no g).2; rw [hd] at this; cases this
      have := mail_none h0
      rw [hI.lm] at this
      rw [hI.lv]
      exact this
  have HFU : Hid (T.done = false → 100000 ≤ T.step → folE m es k s T = (10, st0)) := fun h1 h2 => folE_full hje (by rw [Int.toNat_natCast]; exact hmay) h1 h2
  have HOV : Hid (T.done = false → ¬ 100000 ≤ T.step → overR j (rndV j s T) es = true → folE m es k s T = (6, st0)) := fun h1 h2 h3 => folE_over hje (by rw [Int.toNat_natCast]; exact hmay) h1 h2 hj h3
  have HGO : Hid (T.done = false → ¬ 100000 ≤ T.step → overR j (rndV j s T) es = false → folE m es k s T = (0, nextS m es j s T)) := fun h1 h2 h3 => by
    have := folE_go hje (by rw [Int.toNat_natCast]; exact hmay) h1 h2 hj h3
    rw [Int.toNat_natCast] at this
    exact this
  have CWK : Hid (∀ X, MlR X (.slice va T.vals.length vc) T.vals → LiR X (.slice ma T.mail.length mc) T.mail → Calls Try.prog 48 #[.agg #[.int .i64 (m : Int), .slice a es.length cap, .int .i64 k, .int .i64 s], .agg #[.int .i64 T.step, .int .i64 T.phase, .bool T.fresh, .bool T.done, .slice va T.vals.length vc, .slice ma T.mail.length mc]] X (WknP X m (rndV j s T))) := fun X h1 h2 => rWoken_any a es.length cap m (m : Int) k s j T _ _ X h1 h2 hj hI (by omega)
  have CAG : Hid (T.done = true → ∀ X, MlR X (.slice va T.vals.length vc) T.vals → Calls Try.prog 47 #[.agg #[.int .i64 T.step, .int .i64 T.phase, .bool false, .bool true, .slice va T.vals.length vc, .slice ma T.mail.length mc]] X (StoP X ⟨T.step, T.phase, false, true, T.vals, List.replicate T.vals.length []⟩)) := fun _ X h1 => again_any T.step T.phase T.vals _ _ X ⟨_, _, _, rfl⟩ h1 (by have := hI.lv; omega)
  have hrr : ∀ u : Int, 0 ≤ u ∧ u < (m : Int) → valB j (rndV j s T u).1 = true ∧ ((rndV j s T u).2 = true → 0 ≤ (rndV j s T u).1.1) := fun u hu => hI.rnd (by omega) hu
  have CSN : Hid (∀ X v1 v2, EdR X (.slice a es.length cap) es → MlR X v1 (valsR m (rndV j s T)) → BlR X v2 (sdR m (rndV j s T) m) → Calls Try.prog 49 #[.agg #[.int .i64 (m : Int), .slice a es.length cap, .int .i64 k, .int .i64 s], .int .i64 T.phase, v1, v2] X (SntP X m j (rndV j s T) es)) := fun X v1 v2 h0 h1 h2 => sent_any _ es m k s T.phase j (rndV j s T) v1 v2 X h0 HG (fun e he => (in_of_out (hed e he)).2.2.2.2) hkj hpj (by omega) (by omega) hrr h1 h2
  have CST : Hid (∀ X v1 v2, MlR X v1 (valsR m (rndV j s T)) → LiR X v2 (mailR m j (rndV j s T) es) → Calls Try.prog 50 #[.int .i64 k, .agg #[.int .i64 (T.step + 1), .int .i64 T.phase, .bool false, .bool false, v1, v2]] X (SetP X (nextS m es j s T) v1 v2)) := fun X v1 v2 h1 h2 => settled_any j k T.step (T.step + 1) T.phase (valsR m (rndV j s T)) (mailR m j (rndV j s T) es) v1 v2 X hkj hpj rfl h1 h2 (fun x hx => by
    obtain ⟨i, hi, rfl⟩ := List.getElem_of_mem hx
    have hi' : i < m := by rw [valsR_len] at hi; exact hi
    have h3 := valsR_at (r := rndV j s T) hi'
    rw [List.getElem?_eq_getElem hi] at h3
    injection h3 with h3
    rw [h3]
    exact (valB_iff.1 (hrr (i : Int) (by omega)).1).2.1)
  have HNV : Hid ((nextS m es j s T).vals = valsR m (rndV j s T) ∧ (nextS m es j s T).mail = mailR m j (rndV j s T) es) := (behR_step j T.step T.phase _ _).2
  have HST : Hid (0 ≤ T.step ∧ T.step ≤ 100000) := hI.stp
  have HLN : Hid ((valsR m (rndV j s T)).length = m) := valsR_len _ _
  have HLS : Hid ((sdR m (rndV j s T) m).length = m) := sdR_len _ _ _
  clear hf hk3 hel hed hmay hj hI hkj hpj HG hrr hje
  generalize nextS m es j s T = NX at *
  generalize folE m es k s T = R at *
  generalize rndV j s T = r at *
  obtain ⟨step, phase, fr, dn, vs, ms⟩ := T
  simp only at HV HM hvc hvm hmc hmm HDN HFU HOV HGO CWK CAG CSN CST HST ⊢
  have hst := HST.out
  obtain ⟨W0, hW0⟩ : ∃ W0, W0 = ((w.alloc (.cells #[.int .i64 (m : Int), .slice a es.length cap, .int .i64 k, .int .i64 s] 26)).alloc (.cells #[.int .i64 step, .int .i64 phase, .bool fr, .bool dn, .slice va vs.length vc, .slice ma ms.length mc] 30)).alloc (.cells #[.int .i64 0, .int .i64 0, .bool false, .bool false, .slice none 0 0, .slice none 0 0] 30) := ⟨_, rfl⟩
  obtain ⟨Q0, T0, Z0, B0, s1, s2⟩ := boxes3 w #[.int .i64 (m : Int), .slice a es.length cap, .int .i64 k, .int .i64 s] #[.int .i64 step, .int .i64 phase, .bool fr, .bool dn, .slice va vs.length vc, .slice ma ms.length mc] #[.int .i64 0, .int .i64 0, .bool false, .bool false, .slice none 0 0, .slice none 0 0] 26 30 30 W0 hW0
  have BH : Hid (Below w.heap.size w W0) := B0
  have HK : Hid (∀ X, Below W0.heap.size W0 X → BX 26 X w.heap.size #[.int .i64 (m : Int), .slice a es.length cap, .int .i64 k, .int .i64 s] ∧ BX 30 X (w.heap.size + 1) #[.int .i64 step, .int .i64 phase, .bool fr, .bool dn, .slice va vs.length vc, .slice ma ms.length mc] ∧ BX 30 X (w.heap.size + 2) #[.int .i64 0, .int .i64 0, .bool false, .bool false, .slice none 0 0, .slice none 0 0] ∧ Below w.heap.size w X) := fun X hX => ⟨Q0.below hX (by omega), T0.below hX (by omega), Z0.below hX (by omega), BH.out.trans (hX.mono (by omega))⟩
  have HNO : Hid (∀ X f, Below W0.heap.size W0 X → R = (f, st0) → BX 30 (put6 X (w.heap.size + 2) (.int .i64 0) (.int .i64 0) (.bool false) (.bool false) (.slice none 0 0) (.slice none 0 0)) (w.heap.size + 2) #[.int .i64 0, .int .i64 0, .bool false, .bool false, .slice none 0 0, .slice none 0 0] ∧ StaP w R (.returned (.tuple #[.agg #[.int .i64 0, .int .i64 0, .bool false, .bool false, .slice none 0 0, .slice none 0 0], .int .i64 f])) (put6 X (w.heap.size + 2) (.int .i64 0) (.int .i64 0) (.bool false) (.bool false) (.slice none 0 0) (.slice none 0 0))) := fun X f hX hR => by
    obtain ⟨_, _, Z1, b1⟩ := HK.out X hX
    refine ⟨Z1.put6, ?_⟩
    rw [hR]
    exact StaP.no (below_put6 b1 (by omega) Z1.lt _ _ _ _ _ _)
  have HYE : Hid (∀ X (t : StS) v1 v2, Below W0.heap.size W0 X → R = (0, t) → X.ownsRow W0.heap.size 59 2 v1 t.vals.length (t.vals.flatMap encM) → OwnLi X W0.heap.size v2 t.mail → BX 30 (put6 X (w.heap.size + 2) (.int .i64 t.step) (.int .i64 t.phase) (.bool t.fresh) (.bool t.done) v1 v2) (w.heap.size + 2) #[.int .i64 t.step, .int .i64 t.phase, .bool t.fresh, .bool t.done, v1, v2] ∧ StaP w R (.returned (.tuple #[.agg #[.int .i64 t.step, .int .i64 t.phase, .bool t.fresh, .bool t.done, v1, v2], .int .i64 0])) (put6 X (w.heap.size + 2) (.int .i64 t.step) (.int .i64 t.phase) (.bool t.fresh) (.bool t.done) v1 v2)) := fun X t v1 v2 hX hR h1 h2 => by
    obtain ⟨_, _, Z1, b1⟩ := HK.out X hX
    refine ⟨Z1.put6, ?_⟩
    rw [hR]
    exact StaP.yes (t := t) (own_lower (own_off h1 Z1 (by decide) (kept_put6 X (w.heap.size + 2) _ _ _ _ _ _)) (by omega)) ((h2.off Z1 (by decide) (by decide) (kept_put6 X (w.heap.size + 2) _ _ _ _ _ _)).lower (by omega)) (below_put6 b1 (by omega) Z1.lt _ _ _ _ _ _)
  have R0 : Hid (∀ X, Below W0.heap.size W0 X → EdR X (.slice a es.length cap) es ∧ MlR X (.slice va vs.length vc) vs ∧ LiR X (.slice ma ms.length mc) ms) := fun X hX => ⟨HR.out.below (HK.out _ hX).2.2.2 (Nat.le_refl _), HV.out.below (HK.out _ hX).2.2.2 (Nat.le_refl _), HM.out.below (HK.out _ hX).2.2.2 (Nat.le_refl _)⟩
  obtain ⟨q0, q1, q2, q3⟩ := Q0.all4
  obtain ⟨⟨c0, c1, c2, c3, c4, c5⟩, _⟩ := T0.all6
  obtain ⟨⟨d0, d1, d2, d3, d4, d5⟩, e0, e1, e2, e3, e4, e5⟩ := Z0.all6
  have A0 : Hid (Below W0.heap.size W0 W0) := Below.refl _ _
  have ML0 : Hid (MlR W0 (.slice va vs.length vc) vs) := (R0.out _ A0.out).2.1
  have LI0 : Hid (LiR W0 (.slice ma ms.length mc) ms) := (R0.out _ A0.out).2.2
  clear Q0 T0 Z0 B0
  cases dn
  · by_cases h5 : step = 100000
    · obtain ⟨rx, hp⟩ := HNO.out _ 10 A0.out (HFU.out rfl (by omega))
      have HP : Hid (StaP w R (.returned (.tuple #[.agg #[.int .i64 0, .int .i64 0, .bool false, .bool false, .slice none 0 0, .slice none 0 0], .int .i64 10])) (put6 W0 (w.heap.size + 2) (.int .i64 0) (.int .i64 0) (.bool false) (.bool false) (.slice none 0 0) (.slice none 0 0))) := hp
      have RX : Hid (BX 30 (put6 W0 (w.heap.size + 2) (.int .i64 0) (.int .i64 0) (.bool false) (.bool false) (.slice none 0 0) (.slice none 0 0)) (w.heap.size + 2) #[.int .i64 0, .int .i64 0, .bool false, .bool false, .slice none 0 0, .slice none 0 0]) := rx
      have t5 : (step == 100000) = true := by simpa using h5
      clear hp rx h5
      go_enter Try.func26, Try.ntmps26
      go_upto_region 1 with fail
      rw [← hW0]
      clear hW0
      go_wp2_with fail
      obtain ⟨⟨r0, r1, r2, r3, r4, r5⟩, _⟩ := RX.out.all6
      unfold put6 at r0 r1 r2 r3 r4 r5
      exact bodyPost_ret (v := .tuple #[.agg #[.int .i64 0, .int .i64 0, .bool false, .bool false, .slice none 0 0, .slice none 0 0], .int .i64 10]) (by simp [results, Try.results26, go_sem, r0, r1, r2, r3, r4, r5]) rfl HP.out
    · have t5 : (step == 100000) = false := by simpa using h5
      have wn : IntKind.i64.wrap (step + 1) = step + 1 := wrap_id64 (by omega) (by omega)
      have h6 : ¬ 100000 ≤ step := by omega
      have HO2 : Hid (overR j r es = true → R = (6, st0)) := HOV.out rfl h6
      have HG2 : Hid (overR j r es = false → R = (0, NX)) := HGO.out rfl h6
      clear h5 HFU HOV HGO HDN CAG h6
      go_enter Try.func26, Try.ntmps26
      go_upto_region 1 with fail
      rw [← hW0]
      clear hW0
      go_wp2_with fail
      refine (CWK.out _ ML0.out LI0.out).mono ?_
      rintro e w1 ⟨v1, v2, rfl, hv1, hv2, hb1⟩
      have A1 : Hid (Below W0.heap.size W0 w1) := hb1
      have V1 : Hid (w1.ownsRow W0.heap.size 59 2 v1 m ((valsR m r).flatMap encM)) := hv1
      have V2 : Hid (w1.ownsRow W0.heap.size 4 1 v2 m ((sdR m r m).flatMap encT)) := hv2
      obtain ⟨Q1, T1, Z1, _⟩ := HK.out _ hb1
      clear q0 q1 q2 q3 c0 c1 c2 c3 c4 c5 d0 d1 d2 d3 d4 d5 e0 e1 e2 e3 e4 e5
      obtain ⟨q0, q1, q2, q3⟩ := Q1.all4
      obtain ⟨⟨c0, c1, c2, c3, c4, c5⟩, _⟩ := T1.all6
      obtain ⟨a1, n1, k1, rfl⟩ : ∃ a n c, v1 = .slice a n c := by
        rcases own_shapeK hv1 with ⟨e, _⟩ | ⟨g', c', e, _⟩
        · exact ⟨_, _, _, e⟩
        · exact ⟨_, _, _, e⟩
      obtain ⟨a2, n2, k2, rfl⟩ : ∃ a n c, v2 = .slice a n c := by
        rcases own_shapeK hv2 with ⟨e, _⟩ | ⟨g', c', e, _⟩
        · exact ⟨_, _, _, e⟩
        · exact ⟨_, _, _, e⟩
      have M1 : Hid (MlR w1 (.slice a1 n1 k1) (valsR m r)) := RowK.own encM_len (by rw [HLN.out]; exact hv1)
      have M2 : Hid (BlR w1 (.slice a2 n2 k2) (sdR m r m)) := RowK.own encT_len (by rw [HLS.out]; exact hv2)
      clear Q1 T1 Z1 hv1 hv2 hb1 CWK ML0 LI0
      go_wp2_with fail
      refine (CSN.out _ _ _ (R0.out _ A1.out).1 M1.out M2.out).mono ?_
      rintro e w2 ⟨hor, hb2⟩
      have A2 : Hid (Below W0.heap.size W0 w2) := A1.out.trans (hb2.mono A1.out.size)
      have V3 : Hid (w2.ownsRow W0.heap.size 59 2 (.slice a1 n1 k1) m ((valsR m r).flatMap encM)) := own_below V1.out hb2 (Nat.le_refl _)
      obtain ⟨Q2, T2, Z2, _⟩ := HK.out _ A2.out
      clear q0 q1 q2 q3 c0 c1 c2 c3 c4 c5
      obtain ⟨q0, q1, q2, q3⟩ := Q2.all4
      obtain ⟨⟨c0, c1, c2, c3, c4, c5⟩, _⟩ := T2.all6
      obtain ⟨⟨d0, d1, d2, d3, d4, d5⟩, e0, e1, e2, e3, e4, e5⟩ := Z2.all6
      clear Q2 T2 Z2 CSN
      rcases hor with ⟨ho, rfl⟩ | ⟨ho, v3, rfl, hv3⟩
      · obtain ⟨rx, hp⟩ := HNO.out _ 6 A2.out (HO2.out ho)
        have HP : Hid (StaP w R (.returned (.tuple #[.agg #[.int .i64 0, .int .i64 0, .bool false, .bool false, .slice none 0 0, .slice none 0 0], .int .i64 6])) (put6 w2 (w.heap.size + 2) (.int .i64 0) (.int .i64 0) (.bool false) (.bool false) (.slice none 0 0) (.slice none 0 0))) := hp
        have RX : Hid (BX 30 (put6 w2 (w.heap.size + 2) (.int .i64 0) (.int .i64 0) (.bool false) (.bool false) (.slice none 0 0) (.slice none 0 0)) (w.heap.size + 2) #[.int .i64 0, .int .i64 0, .bool false, .bool false, .slice none 0 0, .slice none 0 0]) := rx
        clear ho hp rx hb2
        go_wp2_with fail
        obtain ⟨⟨r0, r1, r2, r3, r4, r5⟩, _⟩ := RX.out.all6
        unfold put6 at r0 r1 r2 r3 r4 r5
        exact bodyPost_ret (v := .tuple #[.agg #[.int .i64 0, .int .i64 0, .bool false, .bool false, .slice none 0 0, .slice none 0 0], .int .i64 6]) (by simp [results, Try.results26, go_sem, r0, r1, r2, r3, r4, r5]) rfl HP.out
      · have HRR : Hid (R = (0, NX)) := HG2.out ho
        have V4 : Hid (OwnLi w2 W0.heap.size v3 (mailR m j r es)) := hv3.lower A1.out.size
        have L3 : Hid (LiR w2 v3 (mailR m j r es)) := hv3.reads
        have M3 : Hid (MlR w2 (.slice a1 n1 k1) (valsR m r)) := M1.out.below hb2 (Nat.le_refl _)
        obtain ⟨a3, k3, rfl⟩ := hv3.shape
        clear ho hv3 hb2 HO2 HG2
        go_wp2_with fail
        refine (CST.out _ _ _ M3.out L3.out).mono ?_
        rintro e w3 ⟨rfl, hb3⟩
        have A3 : Hid (Below W0.heap.size W0 w3) := A2.out.trans (hb3.mono A2.out.size)
        have V5 : Hid (w3.ownsRow W0.heap.size 59 2 (.slice a1 n1 k1) NX.vals.length (NX.vals.flatMap encM)) := by
          show World.ownsRow _ _ _ _ _ _ _
          rw [HNV.out.1, HLN.out]; exact own_below V3.out hb3 (Nat.le_refl _)
        have V6 : Hid (OwnLi w3 W0.heap.size (.slice a3 (mailR m j r es).length k3) NX.mail) := by
          show OwnLi _ _ _ _
          rw [HNV.out.2]; exact V4.out.below hb3 (Nat.le_refl _)
        obtain ⟨rx, hp⟩ := HYE.out _ NX _ _ A3.out HRR.out V5.out V6.out
        obtain ⟨Q3, T3, Z3, _⟩ := HK.out _ A3.out
        clear q0 q1 q2 q3 c0 c1 c2 c3 c4 c5 d0 d1 d2 d3 d4 d5 e0 e1 e2 e3 e4 e5
        obtain ⟨⟨d0, d1, d2, d3, d4, d5⟩, e0, e1, e2, e3, e4, e5⟩ := Z3.all6
        obtain ⟨nst, nph, nfr, ndn, nvs, nms⟩ := NX
        simp only at rx hp ⊢
        have HP : Hid (StaP w R (.returned (.tuple #[.agg #[.int .i64 nst, .int .i64 nph, .bool nfr, .bool ndn, .slice a1 n1 k1, .slice a3 (mailR m j r es).length k3], .int .i64 0])) (put6 w3 (w.heap.size + 2) (.int .i64 nst) (.int .i64 nph) (.bool nfr) (.bool ndn) (.slice a1 n1 k1) (.slice a3 (mailR m j r es).length k3))) := hp
        have RX : Hid (BX 30 (put6 w3 (w.heap.size + 2) (.int .i64 nst) (.int .i64 nph) (.bool nfr) (.bool ndn) (.slice a1 n1 k1) (.slice a3 (mailR m j r es).length k3)) (w.heap.size + 2) #[.int .i64 nst, .int .i64 nph, .bool nfr, .bool ndn, .slice a1 n1 k1, .slice a3 (mailR m j r es).length k3]) := rx
        clear hp rx hb3 Q3 T3 Z3
        go_wp2_with fail
        obtain ⟨⟨r0, r1, r2, r3, r4, r5⟩, _⟩ := RX.out.all6
        unfold put6 at r0 r1 r2 r3 r4 r5
        exact bodyPost_ret (v := .tuple #[.agg #[.int .i64 nst, .int .i64 nph, .bool nfr, .bool ndn, .slice a1 n1 k1, .slice a3 (mailR m j r es).length k3], .int .i64 0]) (by simp [results, Try.results26, go_sem, r0, r1, r2, r3, r4, r5]) rfl HP.out
  · obtain ⟨hR, hfr, hms⟩ := HDN.out rfl
    subst hfr
    have HRR : Hid (R = (0, ⟨step, phase, false, true, vs, ms⟩)) := hR
    have HMS : Hid (ms = List.replicate vs.length []) := hms
    have CA2 : Hid (∀ X, MlR X (.slice va vs.length vc) vs → Calls Try.prog 47 #[.agg #[.int .i64 step, .int .i64 phase, .bool false, .bool true, .slice va vs.length vc, .slice ma ms.length mc]] X (StoP X ⟨step, phase, false, true, vs, List.replicate vs.length []⟩)) := CAG.out rfl
    clear hR hms HDN HFU HOV HGO CAG
    go_enter Try.func26, Try.ntmps26
    go_upto_region 1 with fail
    rw [← hW0]
    clear hW0
    go_wp2_with fail
    refine (CA2.out _ ML0.out).mono ?_
    rintro e w1 ⟨v1, v2, rfl, hv1, hv2, hb1⟩
    simp only at hv1 hv2 ⊢
    replace hv2 : OwnLi w1 W0.heap.size v2 ms := by rw [HMS.out]; exact hv2
    clear HMS
    obtain ⟨rx, hp⟩ := HYE.out w1 ⟨step, phase, false, true, vs, ms⟩ v1 v2 hb1 HRR.out hv1 hv2
    obtain ⟨Q3, T3, Z3, _⟩ := HK.out _ hb1
    clear q0 q1 q2 q3 c0 c1 c2 c3 c4 c5 d0 d1 d2 d3 d4 d5 e0 e1 e2 e3 e4 e5
    obtain ⟨⟨d0, d1, d2, d3, d4, d5⟩, e0, e1, e2, e3, e4, e5⟩ := Z3.all6
    obtain ⟨a1, n1, k1, rfl⟩ : ∃ a n c, v1 = .slice a n c := by
      rcases own_shapeK hv1 with ⟨e, _⟩ | ⟨g', c', e, _⟩
      · exact ⟨_, _, _, e⟩
      · exact ⟨_, _, _, e⟩
    obtain ⟨a2, k2, rfl⟩ := hv2.shape
    simp only at rx hp
    have HP : Hid (StaP w R (.returned (.tuple #[.agg #[.int .i64 step, .int .i64 phase, .bool false, .bool true, .slice a1 n1 k1, .slice a2 ms.length k2], .int .i64 0])) (put6 w1 (w.heap.size + 2) (.int .i64 step) (.int .i64 phase) (.bool false) (.bool true) (.slice a1 n1 k1) (.slice a2 ms.length k2))) := hp
    have RX : Hid (BX 30 (put6 w1 (w.heap.size + 2) (.int .i64 step) (.int .i64 phase) (.bool false) (.bool true) (.slice a1 n1 k1) (.slice a2 ms.length k2)) (w.heap.size + 2) #[.int .i64 step, .int .i64 phase, .bool false, .bool true, .slice a1 n1 k1, .slice a2 ms.length k2]) := rx
    clear hp rx hb1 Q3 T3 Z3 hv1 hv2
    go_wp2_with fail
    obtain ⟨⟨r0, r1, r2, r3, r4, r5⟩, _⟩ := RX.out.all6
    unfold put6 at r0 r1 r2 r3 r4 r5
    exact bodyPost_ret (v := .tuple #[.agg #[.int .i64 step, .int .i64 phase, .bool false, .bool true, .slice a1 n1 k1, .slice a2 ms.length k2], .int .i64 0]) (by simp [results, Try.results26, go_sem, r0, r1, r2, r3, r4, r5]) rfl HP.out
end Go.Proofs.Ytbmkgnlfccigpaa

namespace Go.Proofs.Ytbmkgnlfccigpaa
set_option maxRecDepth 100000
open Go.ChangeShapes Go.WideShapes Go.ChangeAt Go.RowKit

set_option maxHeartbeats 1000000 in
set_option maxRecDepth 100000 in
theorem rCheck_any (v : Value) (es : List Ed) (n k s : Int) (w : World) (h : EdR w v es) :
    Calls Try.prog 44 #[.agg #[.int .i64 n, v, .int .i64 k, .int .i64 s]] w fun e w' => e = .returned (.int .i64 (jobE n es k s)) ∧ Below w.heap.size w w' := by
  have HR : Hid (EdR w v es) := h
  obtain ⟨a, cap, rfl, _, _, _, _⟩ := h
  have HCK : Hid (∀ X, EdR X (.slice a es.length cap) es → Calls Try.prog 41 #[.agg #[.int .i64 n, .slice a es.length cap]] X fun e w' => e = .returned (.int .i64 (faultE n es)) ∧ Below X.heap.size X w') := fun X hX => check_any _ es n X hX
  obtain ⟨W0, hW0⟩ : ∃ W0, W0 = w.alloc (.cells #[.int .i64 n, .slice a es.length cap, .int .i64 k, .int .i64 s] 26) := ⟨_, rfl⟩
  have Q0 : BX 26 W0 w.heap.size #[.int .i64 n, .slice a es.length cap, .int .i64 k, .int .i64 s] := by rw [hW0]; exact BX.new _ _ _
  have BH : Hid (Below w.heap.size w W0) := by show Below _ _ _; rw [hW0]; exact below_alloc _ _
  have s1 : w.heap.size + 1 ≤ W0.heap.size := by rw [hW0]; simp
  have HK : Hid (∀ X, Below W0.heap.size W0 X → BX 26 X w.heap.size #[.int .i64 n, .slice a es.length cap, .int .i64 k, .int .i64 s] ∧ Below w.heap.size w X) := fun X hX => ⟨Q0.below hX (by omega), BH.out.trans (hX.mono (by omega))⟩
  have R0 : Hid (EdR W0 (.slice a es.length cap) es) := HR.out.below BH.out (Nat.le_refl _)
  obtain ⟨q0, q1, q2, q3⟩ := Q0.all4
  clear Q0
  by_cases hf : faultE n es = 0
  · rw [hf] at HCK
    by_cases hk : 1 ≤ k ∧ k ≤ 3
    · have CW : Hid (∀ X, ∃ x y, Calls Try.prog 65 #[.int .i64 k, .int .i64 0] X fun e w' => e = .returned (.tuple #[.bool x, .bool y, .int .i64 0]) ∧ Below X.heap.size X w') := fun X => by
        rcases (show k = 1 ∨ k = 2 ∨ k = 3 by omega) with rfl | rfl | rfl
        · exact ⟨_, _, waysP_any (false, false) X⟩
        · exact ⟨_, _, waysP_any (false, true) X⟩
        · exact ⟨_, _, waysP_any (true, false) X⟩
      by_cases h1 : k = 1
      · by_cases hs : s < 0
        · have HE : Hid (jobE n es k s = 2) := jobE_src hf h1 (by omega)
          have t1 : (k == 1) = true := by simpa using h1
          clear hk h1
          generalize jobE n es k s = je at *
          clear hf
          go_enter Try.func44, Try.ntmps44
          go_upto_region 1 with fail
          rw [← hW0]
          clear hW0
          go_wp2_with fail
          refine (HCK.out _ R0.out).mono ?_
          rintro e w1 ⟨rfl, hb1⟩
          obtain ⟨Q1, b1⟩ := HK.out _ hb1
          clear q0 q1 q2 q3 HCK
          obtain ⟨q0, q1, q2, q3⟩ := Q1.all4
          have A1 : Hid (Below W0.heap.size W0 w1) := hb1
          clear hb1 Q1 b1
          go_wp2_with fail
          obtain ⟨x, y, cw⟩ := CW.out w1
          refine cw.mono ?_
          rintro e w2 ⟨rfl, hb2⟩
          clear cw
          have A2 : Hid (Below W0.heap.size W0 w2) := A1.out.trans (hb2.mono A1.out.size)
          obtain ⟨Q2, b2⟩ := HK.out _ A2.out
          have B2 : Hid (Below w.heap.size w w2) := b2
          clear q0 q1 q2 q3
          obtain ⟨q0, q1, q2, q3⟩ := Q2.all4
          clear hb2 Q2 b2
          go_wp2_with fail
          go_ret
          exact ⟨by rw [HE.out]; rfl, B2.out⟩
        · by_cases hs2 : s ≥ n
          · have HE : Hid (jobE n es k s = 2) := jobE_src hf h1 (by omega)
            have t1 : (k == 1) = true := by simpa using h1
            clear hk h1
            generalize jobE n es k s = je at *
            clear hf
            go_enter Try.func44, Try.ntmps44
            go_upto_region 1 with fail
            rw [← hW0]
            clear hW0
            go_wp2_with fail
            refine (HCK.out _ R0.out).mono ?_
            rintro e w1 ⟨rfl, hb1⟩
            obtain ⟨Q1, b1⟩ := HK.out _ hb1
            clear q0 q1 q2 q3 HCK
            obtain ⟨q0, q1, q2, q3⟩ := Q1.all4
            have A1 : Hid (Below W0.heap.size W0 w1) := hb1
            clear hb1 Q1 b1
            go_wp2_with fail
            obtain ⟨x, y, cw⟩ := CW.out w1
            refine cw.mono ?_
            rintro e w2 ⟨rfl, hb2⟩
            clear cw
            have A2 : Hid (Below W0.heap.size W0 w2) := A1.out.trans (hb2.mono A1.out.size)
            obtain ⟨Q2, b2⟩ := HK.out _ A2.out
            have B2 : Hid (Below w.heap.size w w2) := b2
            clear q0 q1 q2 q3
            obtain ⟨q0, q1, q2, q3⟩ := Q2.all4
            clear hb2 Q2 b2
            go_wp2_with fail
            go_ret
            exact ⟨by rw [HE.out]; rfl, B2.out⟩
          · have HE : Hid (jobE n es k s = 0) := jobE_ok hf hk fun _ => ⟨by omega, by omega⟩
            have t1 : (k == 1) = true := by simpa using h1
            clear hk h1
            generalize jobE n es k s = je at *
            clear hf
            go_enter Try.func44, Try.ntmps44
            go_upto_region 1 with fail
            rw [← hW0]
            clear hW0
            go_wp2_with fail
            refine (HCK.out _ R0.out).mono ?_
            rintro e w1 ⟨rfl, hb1⟩
            obtain ⟨Q1, b1⟩ := HK.out _ hb1
            clear q0 q1 q2 q3 HCK
            obtain ⟨q0, q1, q2, q3⟩ := Q1.all4
            have A1 : Hid (Below W0.heap.size W0 w1) := hb1
            clear hb1 Q1 b1
            go_wp2_with fail
            obtain ⟨x, y, cw⟩ := CW.out w1
            refine cw.mono ?_
            rintro e w2 ⟨rfl, hb2⟩
            clear cw
            have A2 : Hid (Below W0.heap.size W0 w2) := A1.out.trans (hb2.mono A1.out.size)
            obtain ⟨Q2, b2⟩ := HK.out _ A2.out
            have B2 : Hid (Below w.heap.size w w2) := b2
            clear q0 q1 q2 q3
            obtain ⟨q0, q1, q2, q3⟩ := Q2.all4
            clear hb2 Q2 b2
            go_wp2_with fail
            go_ret
            exact ⟨by rw [HE.out]; rfl, B2.out⟩
      · have HE : Hid (jobE n es k s = 0) := jobE_ok hf hk fun g => absurd g h1
        have t1 : (k == 1) = false := by simpa using h1
        clear hk h1
        generalize jobE n es k s = je at *
        clear hf
        go_enter Try.func44, Try.ntmps44
        go_upto_region 1 with fail
        rw [← hW0]
        clear hW0
        go_wp2_with fail
        refine (HCK.out _ R0.out).mono ?_
        rintro e w1 ⟨rfl, hb1⟩
        obtain ⟨Q1, b1⟩ := HK.out _ hb1
        clear q0 q1 q2 q3 HCK
        obtain ⟨q0, q1, q2, q3⟩ := Q1.all4
        have A1 : Hid (Below W0.heap.size W0 w1) := hb1
        clear hb1 Q1 b1
        go_wp2_with fail
        obtain ⟨x, y, cw⟩ := CW.out w1
        refine cw.mono ?_
        rintro e w2 ⟨rfl, hb2⟩
        clear cw
        have A2 : Hid (Below W0.heap.size W0 w2) := A1.out.trans (hb2.mono A1.out.size)
        obtain ⟨Q2, b2⟩ := HK.out _ A2.out
        have B2 : Hid (Below w.heap.size w w2) := b2
        clear q0 q1 q2 q3
        obtain ⟨q0, q1, q2, q3⟩ := Q2.all4
        clear hb2 Q2 b2
        go_wp2_with fail
        go_ret
        exact ⟨by rw [HE.out]; rfl, B2.out⟩
    · have HE : Hid (jobE n es k s = 3) := jobE_kind hf hk
      have CW : Hid (∀ X, Calls Try.prog 65 #[.int .i64 k, .int .i64 0] X fun e w' => e = .returned (.tuple #[.bool false, .bool false, .int .i64 3]) ∧ Below X.heap.size X w') := fun X => waysP_none ⟨by omega, by omega, by omega, by omega⟩ X
      clear hk
      generalize jobE n es k s = je at *
      clear hf
      go_enter Try.func44, Try.ntmps44
      go_upto_region 1 with fail
      rw [← hW0]
      clear hW0
      go_wp2_with fail
      refine (HCK.out _ R0.out).mono ?_
      rintro e w1 ⟨rfl, hb1⟩
      obtain ⟨Q1, b1⟩ := HK.out _ hb1
      clear q0 q1 q2 q3 HCK
      obtain ⟨q0, q1, q2, q3⟩ := Q1.all4
      have A1 : Hid (Below W0.heap.size W0 w1) := hb1
      clear hb1 Q1 b1
      go_wp2_with fail
      refine (CW.out w1).mono ?_
      rintro e w2 ⟨rfl, hb2⟩
      have A2 : Hid (Below W0.heap.size W0 w2) := A1.out.trans (hb2.mono A1.out.size)
      obtain ⟨Q2, b2⟩ := HK.out _ A2.out
      have B2 : Hid (Below w.heap.size w w2) := b2
      clear q0 q1 q2 q3
      obtain ⟨q0, q1, q2, q3⟩ := Q2.all4
      clear hb2 Q2 b2
      go_wp2_with fail
      go_ret
      exact ⟨by rw [HE.out]; rfl, B2.out⟩
  · have HE : Hid (jobE n es k s = faultE n es) := jobE_bad hf
    generalize jobE n es k s = je at *
    generalize faultE n es = fe at *
    have t0 : (fe != 0) = true := by simpa using hf
    clear hf
    go_enter Try.func44, Try.ntmps44
    go_upto_region 1 with fail
    rw [← hW0]
    clear hW0
    go_wp2_with fail
    refine (HCK.out _ R0.out).mono ?_
    rintro e w1 ⟨rfl, hb1⟩
    have B1 : Hid (Below w.heap.size w w1) := (HK.out _ hb1).2
    clear hb1 q0 q1 q2 q3 HCK
    go_wp2_with fail
    go_ret
    exact ⟨by rw [HE.out]; rfl, B1.out⟩
end Go.Proofs.Ytbmkgnlfccigpaa

namespace Go.Proofs.Ytbmkgnlfccigpaa
set_option maxRecDepth 100000
open Go.ChangeShapes Go.WideShapes Go.ChangeAt Go.RowKit

set_option maxHeartbeats 400000 in
theorem lessI_any (x y : Int) (w : World) : Calls Try.prog 80 #[.int .i64 x, .int .i64 y] w fun e w' => e = .returned (.bool (decide (x < y))) ∧ w' = w := by
  have hx : (x != x) = false := by simp
  go_enter Try.func80, Try.ntmps80
  go_wp2
  go_ret
  exact ⟨ret_bool (by simp), rfl⟩
theorem ris_no {l : List Int} {a : Nat} {x y : Int} (hx : l[a]? = some x) (hy : l[a + 1]? = some y) (h : y < x) : risB l = false := by
  rw [Bool.eq_false_iff]
  intro g
  unfold risB at g
  have g2 := of_decide_eq_true g
  obtain ⟨h1, rfl⟩ := List.getElem?_eq_some_iff.1 hx
  obtain ⟨h2, rfl⟩ := List.getElem?_eq_some_iff.1 hy
  have := (List.pairwise_iff_getElem.1 g2) a (a + 1) h1 h2 (by omega)
  omega

set_option maxHeartbeats 800000 in
theorem isSortI_row (b off cap : Nat) (xs : List Int) (w : World) (hn : 0 < xs.length) (hm : xs.length ≤ maxLen) (hb : b < w.heap.size)
    (hcell : ∀ i x, xs[i]? = some x → w.cell? ⟨b, off + i, none⟩ = some (.int .i64 x)) :
    Calls Try.prog 66 #[.slice (some ⟨b, off, none⟩) xs.length cap] w fun e w' => e = .returned (.bool (risB xs)) ∧ Below w.heap.size w w' := by
  unfold maxLen at hm
  have HC : Hid (∀ i x, xs[i]? = some x → w.cell? ⟨b, off + i, none⟩ = some (.int .i64 x)) := hcell
  have HY : Hid ((∀ (a : Nat) (x y : Int), xs[a]? = some x → xs[a + 1]? = some y → x ≤ y) → risB xs = true) := fun h => decide_eq_true (adj_ris h)
  have HN : Hid (∀ (a : Nat) (x y : Int), xs[a]? = some x → xs[a + 1]? = some y → y < x → risB xs = false) := fun a x y h1 h2 h3 => ris_no h1 h2 h3
  generalize risB xs = rb at *
  clear hcell
  go_enter Try.func66, Try.ntmps66
  go_wp2_with fail
  go_loopw [3] (fun i wr => ∃ k : Nat, k < xs.length ∧ i = .int .i64 k ∧ (∀ (a : Nat) (x y : Int), k ≤ a → xs[a]? = some x → xs[a + 1]? = some y → x ≤ y) ∧ Below w.heap.size w wr) (fun i _ => (intOf i).toNat)
  case atStart => exact ⟨xs.length - 1, by omega, by go_num, fun a x y hi hx hy => by have := (List.getElem?_eq_some_iff.1 hy).1; omega, Below.refl _ _⟩
  case round =>
    obtain ⟨k, hk, rfl, hs, hbel⟩ := hrel
    have HS : Hid (∀ (a : Nat) (x y : Int), k ≤ a → xs[a]? = some x → xs[a + 1]? = some y → x ≤ y) := hs
    clear hs
    by_cases hlt : 0 < k
    · obtain ⟨j, rfl⟩ : ∃ j, k = j + 1 := ⟨k - 1, by omega⟩
      obtain ⟨x, hx⟩ := getX hk
      obtain ⟨y, hy⟩ := getX (show j < xs.length by omega)
      have d1 : wr.cell? ⟨b, off + (j + 1), none⟩ = some (.int .i64 x) := (hbel.cell (by exact hb)).trans (HC.out (j + 1) x hx)
      have d2 : wr.cell? ⟨b, off + j, none⟩ = some (.int .i64 y) := (hbel.cell (by exact hb)).trans (HC.out j y hy)
      have HG : Hid (¬ x < y → ∀ (a : Nat) (x y : Int), j ≤ a → xs[a]? = some x → xs[a + 1]? = some y → x ≤ y) := fun h a u v ha hu hv => by
        by_cases e : a = j
        · subst e
          rw [hy] at hu
          rw [hx] at hv
          injection hu with hu
          injection hv with hv
          omega
        · exact HS.out a u v (by omega) hu hv
      have HF : Hid (x < y → rb = false) := fun h => HN.out j y x hy hx h
      have i1 : (j : Int) + 1 < (xs.length : Int) := by omega
      have i2 : (j : Int) < (xs.length : Int) := by omega
      have i3 : (0 : Int) ≤ (j : Int) := by omega
      clear hx hy
      go_wp2_with fail
      go_quiet ((go_at_call 80; exact Calls.quiet_of_same (lessI_any _ _ _)))
      by_cases hxy : x < y
      · have HX : Hid (rb = false) := HF.out hxy
        go_wp2_with fail
        go_ret
        exact ⟨by rw [HX.out]; rfl, below_drewN hbel _⟩
      · have HX : Hid _ := HG.out (by omega)
        go_wp2_with fail
        go_roundw
        case rel => exact ⟨j, by omega, by go_num, HX.out, below_drewN hbel _⟩
        case measure => simp [intOf]
    · have HR : Hid (rb = true) := HY.out fun a x y hx hy => HS.out a x y (by omega) hx hy
      go_wp2_with fail
      go_ret
      exact ⟨by rw [HR.out]; rfl, hbel⟩

set_option maxHeartbeats 400000 in
theorem isSortI_any (v : Value) (xs : List Int) (w : World) (h : InR w v xs) :
    Calls Try.prog 66 #[v] w fun e w' => e = .returned (.bool (risB xs)) ∧ Below w.heap.size w w' := by
  by_cases hn : 0 < xs.length
  · obtain ⟨b, off, cap, rfl, hc, hm, hb, hcell⟩ := InR.at h hn
    exact isSortI_row b off cap xs w hn (Nat.le_trans hc hm) hb hcell
  · have e1 : xs = [] := List.eq_nil_of_length_eq_zero (by omega)
    subst e1
    obtain ⟨a, c, rfl, _, _⟩ := h
    have HA : Hid (risB [] = true) := rfl
    generalize risB [] = rb at *
    clear hn
    go_enter Try.func66, Try.ntmps66
    go_wp2_with fail
    refine wp_loop_rounds 1 ?_
    rw [rounds_succ]
    go_wp2
    go_ret
    exact ⟨by rw [HA.out]; rfl, Below.refl _ _⟩
end Go.Proofs.Ytbmkgnlfccigpaa
