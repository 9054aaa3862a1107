/-
  Contract of rounds.first.
  Contract of rounds.again.
  Contract of rounds.after: of a job that is right, and a state that may be.
  Contract of rounds.Check.
  Contract of rounds.Begin.
  P13.6 as a function: a job run to its end; so many rounds at most.
  Contract of rounds.Run.
  Contract of the document's own Begun.
-/
import Derived.Test.YtbmkgnlfccigpaaValRow
import Derived.Test.YtbmkgnlfccigpaaRoundsRunsPartB
import Derived.Test.YtbmkgnlfccigpaaRegionCall
import Derived.Deep.CutRange
import Derived.Test.YtbmkgnlfccigpaaRoundsRunsPartC
import Derived.Test.YtbmkgnlfccigpaaMayMath
import Derived.Test.YtbmkgnlfccigpaaRoundTell
import Derived.Test.YtbmkgnlfccigpaaRefJob0
import Derived.Test.YtbmkgnlfccigpaaCheckFace
import Derived.Test.YtbmkgnlfccigpaaRoundsRunsPartA
import Derived.Test.YtbmkgnlfccigpaaBoxMem
import Derived.Test.YtbmkgnlfccigpaaRoundMay
import Derived.Deep.LoopGhost
import Derived.Test.YtbmkgnlfccigpaaStaMem
import Derived.Test.YtbmkgnlfccigpaaRefJob

namespace Go.Proofs.Ytbmkgnlfccigpaa
set_option maxRecDepth 100000
open Go.ChangeShapes Go.WideShapes Go.ChangeAt Go.RowKit

/-- A state that is answered alone. -/
def StoP (w : World) (t : StS) (e : Ending) (w' : World) : Prop :=
  ∃ vv vm, e = .returned (.agg #[.int .i64 t.step, .int .i64 t.phase, .bool t.fresh, .bool t.done, vv, vm]) ∧ w'.ownsRow w.heap.size 59 2 vv t.vals.length (t.vals.flatMap encM) ∧ OwnLi w' w.heap.size vm t.mail ∧ Below w.heap.size w w'
/-- So many values are told, the others not yet. -/
def fstV (m i : Nat) : List Ml := List.replicate i (-1, -1) ++ List.replicate (m - i) (0, 0)
theorem fstV_len {m i : Nat} (h : i ≤ m) : (fstV m i).length = m := by simp [fstV]; omega
theorem fstV_zero (m : Nat) : fstV m 0 = List.replicate m (0, 0) := by simp [fstV]
theorem fstV_all (m : Nat) : fstV m m = List.replicate m (-1, -1) := by simp [fstV]
theorem fstV_set {m i : Nat} (h : i < m) : fstV m (i + 1) = (fstV m i).set i (-1, -1) := by
  unfold fstV
  rw [List.replicate_succ', List.append_assoc, show m - i = (m - (i + 1)) + 1 by omega, List.replicate_succ, List.set_append_right _ _ (by simp)]
  simp

set_option maxHeartbeats 2000000 in
set_option maxRecDepth 100000 in
theorem first_any (m : Nat) (w : World) (hm : m ≤ 200) :
    Calls Try.prog 45 #[.int .i64 m] w (StoP w (beginS m)) := by
  obtain ⟨bf, hbf⟩ : ∃ b, decide (0 < m) = b := ⟨_, rfl⟩
  obtain ⟨bd, hbd⟩ : ∃ b, decide (m = 0) = b := ⟨_, rfl⟩
  have td : ((m : Int) == 0) = bd := by
    rw [← hbd, Bool.eq_iff_iff]
    simp
  have HP : Hid (∀ (w' : World) vv vm, w'.ownsRow w.heap.size 59 2 vv m ((List.replicate m ((-1, -1) : Ml)).flatMap encM) → OwnLi w' w.heap.size vm (List.replicate m []) → Below w.heap.size w w' → StoP w (beginS m) (.returned (.agg #[.int .i64 0, .int .i64 0, .bool bf, .bool bd, vv, vm])) w') := fun w' vv vm h1 h2 h3 => by
    rw [← hbf, ← hbd]
    exact ⟨vv, vm, rfl, by simpa [beginS] using h1, h2, h3⟩
  generalize StoP w (beginS m) = P at *
  obtain ⟨W0, hW0⟩ : ∃ W0, W0 = (w.alloc (.cells #[.int .i64 0, .int .i64 0, .bool false, .bool false, .slice none 0 0, .slice none 0 0] 30)).alloc (.cells #[.int .i64 0, .int .i64 0, .bool bf, .bool bd, .slice none 0 0, .slice none 0 0] 30) := ⟨_, rfl⟩
  obtain ⟨Q0, T0, B0, s1, s2⟩ := boxes2 w #[.int .i64 0, .int .i64 0, .bool false, .bool false, .slice none 0 0, .slice none 0 0] #[.int .i64 0, .int .i64 0, .bool bf, .bool bd, .slice none 0 0, .slice none 0 0] 30 30 W0 hW0
  have BH : Hid (Below w.heap.size w W0) := B0
  have X0 : Hid (BX 30 W0 (w.heap.size + 1) #[.int .i64 0, .int .i64 0, .bool bf, .bool bd, .slice none 0 0, .slice none 0 0]) := T0
  have R0 : Hid (BX 30 W0 w.heap.size #[.int .i64 0, .int .i64 0, .bool false, .bool false, .slice none 0 0, .slice none 0 0]) := Q0
  clear Q0 T0 B0 hbd
  go_enter Try.func45, Try.ntmps45
  go_upto_region 2 with fail
  rw [← hW0]
  clear hW0
  apply Hid.cut
  case h =>
    intro HG
    refine region_lastF (S := fun _ => True) (by kernel_rfl) rfl (by kernel_rfl) (by kernel_rfl) ?_
    simp only [List.pop_toArray, List.dropLast_cons_cons, List.dropLast_singleton, List.size_toArray, List.length_cons, List.length_nil, Nat.reduceAdd]
    refine takeH (i := 0) (v := .int .i64 (m : Int)) (d := 10) rfl rfl (by kernel_rfl) (by kernel_rfl) (by kernel_rfl) (fun _ _ _ h => h) (by rfl) (fun V hV => by clear hV; go_simp) trivial ?_
    simp only [Act.put, List.setIfInBounds_toArray, List.set_cons_zero, List.set_cons_succ]
    refine takeH (i := 2) (v := .int .i64 (m : Int)) (d := 12) rfl rfl (by kernel_rfl) (by kernel_rfl) (by kernel_rfl) (fun _ _ _ h => h) (by rfl) (fun V hV => by clear hV; go_simp) trivial ?_
    simp only [Act.put, List.setIfInBounds_toArray, List.set_cons_zero, List.set_cons_succ]
    refine twoH (i := 1) (j := 3) rfl rfl (by kernel_rfl) rfl rfl ?wA ?wB
    case wA =>
      obtain ⟨X1, mk1, ov1, hb1⟩ := make_vals W0.drew m (by omega)
      have z1 : W0.drew.heap.size = W0.heap.size := rfl
      have k1 : Kept (fun k => k = (w.heap.size + 1)) W0 X1 := (Kept.refl _ W0).drew.trans (.of hb1)
      have x1 : BX 30 X1 (w.heap.size + 1) #[.int .i64 0, .int .i64 0, .bool bf, .bool bd, .slice none 0 0, .slice none 0 0] := X0.out.below ((Below.refl _ W0).drew.trans hb1) (by omega)
      refine op_run (d := 11) (v' := .slice (some ⟨W0.drew.heap.size, 0, none⟩) m m) (w' := X1) rfl (by go_simp) ⟨trivial, ?_⟩
      simp only [Act.put, List.setIfInBounds_toArray, List.set_cons_zero, List.set_cons_succ]
      refine takeH (i := 4) (v := .pointer (some ⟨(w.heap.size + 1), 4, none⟩)) (d := 14) rfl rfl (by kernel_rfl) (by kernel_rfl) (by kernel_rfl) (fun _ _ _ h => h) (by rfl) (fun V hV => by clear hV; go_simp) trivial ?_
      simp only [Act.put, List.setIfInBounds_toArray, List.set_cons_zero, List.set_cons_succ]
      refine twoH (i := 3) (j := 5) rfl rfl (by kernel_rfl) rfl rfl ?wA1 ?wA2
      case wA1 =>
        obtain ⟨X2, mk2, ot2, hb2⟩ := make_tbi X1 m (by omega)
        have k2 : Kept (fun k => k = (w.heap.size + 1)) W0 X2 := k1.trans (.of hb2)
        have x2 : BX 30 X2 (w.heap.size + 1) #[.int .i64 0, .int .i64 0, .bool bf, .bool bd, .slice none 0 0, .slice none 0 0] := x1.below hb2 x1.lt
        have v2 : X2.ownsRow W0.heap.size 59 2 (.slice (some ⟨W0.drew.heap.size, 0, none⟩) m m) m ((List.replicate m ((0, 0) : Ml)).flatMap encM) := own_below ov1 hb2 (Nat.le_refl _)
        refine op_run (d := 13) (v' := .slice (some ⟨X1.heap.size, 0, none⟩) m m) (w' := X2) rfl (by go_simp) ⟨trivial, ?_⟩
        simp only [Act.put, List.setIfInBounds_toArray, List.set_cons_zero, List.set_cons_succ]
        obtain ⟨⟨c0, c1, c2, c3, c4, c5⟩, e0, e1, e2, e3, e4, e5⟩ := x2.all6
        refine oneH (i := 5) rfl (by kernel_rfl) rfl (op_skip (w' := X2.setCell ⟨(w.heap.size + 1), 4, none⟩ (.slice (some ⟨W0.drew.heap.size, 0, none⟩) m m)) rfl (by go_simp) ⟨trivial, ?_⟩)
        clear c0 c1 c2 c3 c4 c5 e0 e1 e2 e3 e4 e5
        have x3 : BX 30 (X2.setCell ⟨(w.heap.size + 1), 4, none⟩ (.slice (some ⟨W0.drew.heap.size, 0, none⟩) m m)) (w.heap.size + 1) #[.int .i64 0, .int .i64 0, .bool bf, .bool bd, .slice (some ⟨W0.drew.heap.size, 0, none⟩) m m, .slice none 0 0] := x2.set 4 _
        have k3 : Kept (fun k => k = (w.heap.size + 1)) W0 (X2.setCell ⟨(w.heap.size + 1), 4, none⟩ (.slice (some ⟨W0.drew.heap.size, 0, none⟩) m m)) := k2.trans (Kept.box _ _ _ _)
        have v3 : (X2.setCell ⟨(w.heap.size + 1), 4, none⟩ (.slice (some ⟨W0.drew.heap.size, 0, none⟩) m m)).ownsRow W0.heap.size 59 2 (.slice (some ⟨W0.drew.heap.size, 0, none⟩) m m) m ((List.replicate m ((0, 0) : Ml)).flatMap encM) := own_off v2 x2 (by decide) (Kept.box _ _ _ _)
        have t3 : TbI (X2.setCell ⟨(w.heap.size + 1), 4, none⟩ (.slice (some ⟨W0.drew.heap.size, 0, none⟩) m m)) W0.heap.size X1.heap.size m (List.replicate m (.slice none 0 0)) (List.replicate m []) := (ot2.lower k1.size).off (Kept.box _ _ _ _) (fun k hk => by subst hk; exact ⟨_, _, _, x2, by decide, by decide⟩)
        generalize X2.setCell ⟨(w.heap.size + 1), 4, none⟩ (.slice (some ⟨W0.drew.heap.size, 0, none⟩) m m) = X3 at *
        refine takeH (i := 6) (v := .pointer (some ⟨(w.heap.size + 1), 5, none⟩)) (d := 15) rfl rfl (by kernel_rfl) (by kernel_rfl) (by kernel_rfl) (fun _ _ _ h => h) (by rfl) (fun V hV => by clear hV; go_simp) trivial ?_
        simp only [Act.put, List.setIfInBounds_toArray, List.set_cons_zero, List.set_cons_succ]
        refine wpAnyH_done (by kernel_rfl) ?_ _
        show Oper.wp _ _ _ _ _ _
        obtain ⟨⟨c0, c1, c2, c3, c4, c5⟩, e0, e1, e2, e3, e4, e5⟩ := x3.all6
        refine op_skip (w' := X3.setCell ⟨(w.heap.size + 1), 5, none⟩ (.slice (some ⟨X1.heap.size, 0, none⟩) m m)) rfl (by go_simp) ?_
        clear c0 c1 c2 c3 c4 c5 e0 e1 e2 e3 e4 e5
        have FX : Hid (BX 30 (X3.setCell ⟨(w.heap.size + 1), 5, none⟩ (.slice (some ⟨X1.heap.size, 0, none⟩) m m)) (w.heap.size + 1) #[.int .i64 0, .int .i64 0, .bool bf, .bool bd, .slice (some ⟨W0.drew.heap.size, 0, none⟩) m m, .slice (some ⟨X1.heap.size, 0, none⟩) m m]) := x3.set 5 _
        have FK : Hid (Kept (fun k => k = (w.heap.size + 1)) W0 (X3.setCell ⟨(w.heap.size + 1), 5, none⟩ (.slice (some ⟨X1.heap.size, 0, none⟩) m m))) := k3.trans (Kept.box _ _ _ _)
        have FV : Hid ((X3.setCell ⟨(w.heap.size + 1), 5, none⟩ (.slice (some ⟨X1.heap.size, 0, none⟩) m m)).ownsRow W0.heap.size 59 2 (.slice (some ⟨W0.drew.heap.size, 0, none⟩) m m) m ((List.replicate m ((0, 0) : Ml)).flatMap encM)) := own_off v3 x3 (by decide) (Kept.box _ _ _ _)
        have FT : Hid (TbI (X3.setCell ⟨(w.heap.size + 1), 5, none⟩ (.slice (some ⟨X1.heap.size, 0, none⟩) m m)) W0.heap.size X1.heap.size m (List.replicate m (.slice none 0 0)) (List.replicate m [])) := t3.off (Kept.box _ _ _ _) (fun k hk => by subst hk; exact ⟨_, _, _, x3, by decide, by decide⟩)
        clear x3 k3 v3 t3
        clear mk1 mk2 ov1 hb1 z1 k1 x1 ot2 hb2 k2 x2 v2
        generalize X3.setCell ⟨(w.heap.size + 1), 5, none⟩ (.slice (some ⟨X1.heap.size, 0, none⟩) m m) = XX at *
        generalize W0.drew.heap.size = g1 at *
        generalize X1.heap.size = g2 at *
        revert FT
        revert FV
        revert FK
        revert FX
        revert XX
        revert g2
        revert g1
        exact HG.out
      case wA2 =>
        obtain ⟨⟨c0, c1, c2, c3, c4, c5⟩, e0, e1, e2, e3, e4, e5⟩ := x1.all6
        refine op_skip (w' := X1.setCell ⟨(w.heap.size + 1), 4, none⟩ (.slice (some ⟨W0.drew.heap.size, 0, none⟩) m m)) rfl (by go_simp) ⟨trivial, ?_⟩
        clear c0 c1 c2 c3 c4 c5 e0 e1 e2 e3 e4 e5
        have x2 : BX 30 (X1.setCell ⟨(w.heap.size + 1), 4, none⟩ (.slice (some ⟨W0.drew.heap.size, 0, none⟩) m m)) (w.heap.size + 1) #[.int .i64 0, .int .i64 0, .bool bf, .bool bd, .slice (some ⟨W0.drew.heap.size, 0, none⟩) m m, .slice none 0 0] := x1.set 4 _
        have k2 : Kept (fun k => k = (w.heap.size + 1)) W0 (X1.setCell ⟨(w.heap.size + 1), 4, none⟩ (.slice (some ⟨W0.drew.heap.size, 0, none⟩) m m)) := k1.trans (Kept.box _ _ _ _)
        have v2 : (X1.setCell ⟨(w.heap.size + 1), 4, none⟩ (.slice (some ⟨W0.drew.heap.size, 0, none⟩) m m)).ownsRow W0.heap.size 59 2 (.slice (some ⟨W0.drew.heap.size, 0, none⟩) m m) m ((List.replicate m ((0, 0) : Ml)).flatMap encM) := own_off ov1 x1 (by decide) (Kept.box _ _ _ _)
        generalize X1.setCell ⟨(w.heap.size + 1), 4, none⟩ (.slice (some ⟨W0.drew.heap.size, 0, none⟩) m m) = X2 at *
        obtain ⟨X3, mk3, ot3, hb3⟩ := make_tbi X2 m (by omega)
        have x3 : BX 30 X3 (w.heap.size + 1) #[.int .i64 0, .int .i64 0, .bool bf, .bool bd, .slice (some ⟨W0.drew.heap.size, 0, none⟩) m m, .slice none 0 0] := x2.below hb3 x2.lt
        have k3 : Kept (fun k => k = (w.heap.size + 1)) W0 X3 := k2.trans (.of hb3)
        have v3 : X3.ownsRow W0.heap.size 59 2 (.slice (some ⟨W0.drew.heap.size, 0, none⟩) m m) m ((List.replicate m ((0, 0) : Ml)).flatMap encM) := own_below v2 hb3 (Nat.le_refl _)
        have t3 : TbI X3 W0.heap.size X2.heap.size m (List.replicate m (.slice none 0 0)) (List.replicate m []) := ot3.lower k2.size
        refine oneH (i := 3) rfl (by kernel_rfl) rfl (op_run (d := 13) (v' := .slice (some ⟨X2.heap.size, 0, none⟩) m m) (w' := X3) rfl (by go_simp) ⟨trivial, ?_⟩)
        simp only [Act.put, List.setIfInBounds_toArray, List.set_cons_zero, List.set_cons_succ]
        refine takeH (i := 6) (v := .pointer (some ⟨(w.heap.size + 1), 5, none⟩)) (d := 15) rfl rfl (by kernel_rfl) (by kernel_rfl) (by kernel_rfl) (fun _ _ _ h => h) (by rfl) (fun V hV => by clear hV; go_simp) trivial ?_
        simp only [Act.put, List.setIfInBounds_toArray, List.set_cons_zero, List.set_cons_succ]
        refine wpAnyH_done (by kernel_rfl) ?_ _
        show Oper.wp _ _ _ _ _ _
        obtain ⟨⟨c0, c1, c2, c3, c4, c5⟩, e0, e1, e2, e3, e4, e5⟩ := x3.all6
        refine op_skip (w' := X3.setCell ⟨(w.heap.size + 1), 5, none⟩ (.slice (some ⟨X2.heap.size, 0, none⟩) m m)) rfl (by go_simp) ?_
        clear c0 c1 c2 c3 c4 c5 e0 e1 e2 e3 e4 e5
        have FX : Hid (BX 30 (X3.setCell ⟨(w.heap.size + 1), 5, none⟩ (.slice (some ⟨X2.heap.size, 0, none⟩) m m)) (w.heap.size + 1) #[.int .i64 0, .int .i64 0, .bool bf, .bool bd, .slice (some ⟨W0.drew.heap.size, 0, none⟩) m m, .slice (some ⟨X2.heap.size, 0, none⟩) m m]) := x3.set 5 _
        have FK : Hid (Kept (fun k => k = (w.heap.size + 1)) W0 (X3.setCell ⟨(w.heap.size + 1), 5, none⟩ (.slice (some ⟨X2.heap.size, 0, none⟩) m m))) := k3.trans (Kept.box _ _ _ _)
        have FV : Hid ((X3.setCell ⟨(w.heap.size + 1), 5, none⟩ (.slice (some ⟨X2.heap.size, 0, none⟩) m m)).ownsRow W0.heap.size 59 2 (.slice (some ⟨W0.drew.heap.size, 0, none⟩) m m) m ((List.replicate m ((0, 0) : Ml)).flatMap encM)) := own_off v3 x3 (by decide) (Kept.box _ _ _ _)
        have FT : Hid (TbI (X3.setCell ⟨(w.heap.size + 1), 5, none⟩ (.slice (some ⟨X2.heap.size, 0, none⟩) m m)) W0.heap.size X2.heap.size m (List.replicate m (.slice none 0 0)) (List.replicate m [])) := t3.off (Kept.box _ _ _ _) (fun k hk => by subst hk; exact ⟨_, _, _, x3, by decide, by decide⟩)
        exact HG.out _ _ _ FX FK FV FT
    case wB =>
      obtain ⟨X1, mk1, ot1, hb1⟩ := make_tbi W0.drew m (by omega)
      have z1 : W0.drew.heap.size = W0.heap.size := rfl
      have k1 : Kept (fun k => k = (w.heap.size + 1)) W0 X1 := (Kept.refl _ W0).drew.trans (.of hb1)
      have x1 : BX 30 X1 (w.heap.size + 1) #[.int .i64 0, .int .i64 0, .bool bf, .bool bd, .slice none 0 0, .slice none 0 0] := X0.out.below ((Below.refl _ W0).drew.trans hb1) (by omega)
      refine op_run (d := 13) (v' := .slice (some ⟨W0.drew.heap.size, 0, none⟩) m m) (w' := X1) rfl (by go_simp) ⟨trivial, ?_⟩
      simp only [Act.put, List.setIfInBounds_toArray, List.set_cons_zero, List.set_cons_succ]
      obtain ⟨X2, mk2, ov2, hb2⟩ := make_vals X1 m (by omega)
      have k2 : Kept (fun k => k = (w.heap.size + 1)) W0 X2 := k1.trans (.of hb2)
      have x2 : BX 30 X2 (w.heap.size + 1) #[.int .i64 0, .int .i64 0, .bool bf, .bool bd, .slice none 0 0, .slice none 0 0] := x1.below hb2 x1.lt
      have t2 : TbI X2 W0.heap.size W0.drew.heap.size m (List.replicate m (.slice none 0 0)) (List.replicate m []) := ot1.kept (.of hb2)
      refine oneH (i := 1) rfl (by kernel_rfl) rfl (op_run (d := 11) (v' := .slice (some ⟨X1.heap.size, 0, none⟩) m m) (w' := X2) rfl (by go_simp) ⟨trivial, ?_⟩)
      simp only [Act.put, List.setIfInBounds_toArray, List.set_cons_zero, List.set_cons_succ]
      refine takeH (i := 4) (v := .pointer (some ⟨(w.heap.size + 1), 4, none⟩)) (d := 14) rfl rfl (by kernel_rfl) (by kernel_rfl) (by kernel_rfl) (fun _ _ _ h => h) (by rfl) (fun V hV => by clear hV; go_simp) trivial ?_
      simp only [Act.put, List.setIfInBounds_toArray, List.set_cons_zero, List.set_cons_succ]
      obtain ⟨⟨c0, c1, c2, c3, c4, c5⟩, e0, e1, e2, e3, e4, e5⟩ := x2.all6
      refine oneH (i := 5) rfl (by kernel_rfl) rfl (op_skip (w' := X2.setCell ⟨(w.heap.size + 1), 4, none⟩ (.slice (some ⟨X1.heap.size, 0, none⟩) m m)) rfl (by go_simp) ⟨trivial, ?_⟩)
      clear c0 c1 c2 c3 c4 c5 e0 e1 e2 e3 e4 e5
      have x3 : BX 30 (X2.setCell ⟨(w.heap.size + 1), 4, none⟩ (.slice (some ⟨X1.heap.size, 0, none⟩) m m)) (w.heap.size + 1) #[.int .i64 0, .int .i64 0, .bool bf, .bool bd, .slice (some ⟨X1.heap.size, 0, none⟩) m m, .slice none 0 0] := x2.set 4 _
      have k3 : Kept (fun k => k = (w.heap.size + 1)) W0 (X2.setCell ⟨(w.heap.size + 1), 4, none⟩ (.slice (some ⟨X1.heap.size, 0, none⟩) m m)) := k2.trans (Kept.box _ _ _ _)
      have v3 : (X2.setCell ⟨(w.heap.size + 1), 4, none⟩ (.slice (some ⟨X1.heap.size, 0, none⟩) m m)).ownsRow W0.heap.size 59 2 (.slice (some ⟨X1.heap.size, 0, none⟩) m m) m ((List.replicate m ((0, 0) : Ml)).flatMap encM) := own_off (own_lower ov2 k1.size) x2 (by decide) (Kept.box _ _ _ _)
      have t3 : TbI (X2.setCell ⟨(w.heap.size + 1), 4, none⟩ (.slice (some ⟨X1.heap.size, 0, none⟩) m m)) W0.heap.size W0.drew.heap.size m (List.replicate m (.slice none 0 0)) (List.replicate m []) := t2.off (Kept.box _ _ _ _) (fun k hk => by subst hk; exact ⟨_, _, _, x2, by decide, by decide⟩)
      generalize X2.setCell ⟨(w.heap.size + 1), 4, none⟩ (.slice (some ⟨X1.heap.size, 0, none⟩) m m) = X3 at *
      refine takeH (i := 6) (v := .pointer (some ⟨(w.heap.size + 1), 5, none⟩)) (d := 15) rfl rfl (by kernel_rfl) (by kernel_rfl) (by kernel_rfl) (fun _ _ _ h => h) (by rfl) (fun V hV => by clear hV; go_simp) trivial ?_
      simp only [Act.put, List.setIfInBounds_toArray, List.set_cons_zero, List.set_cons_succ]
      refine wpAnyH_done (by kernel_rfl) ?_ _
      show Oper.wp _ _ _ _ _ _
      obtain ⟨⟨c0, c1, c2, c3, c4, c5⟩, e0, e1, e2, e3, e4, e5⟩ := x3.all6
      refine op_skip (w' := X3.setCell ⟨(w.heap.size + 1), 5, none⟩ (.slice (some ⟨W0.drew.heap.size, 0, none⟩) m m)) rfl (by go_simp) ?_
      clear c0 c1 c2 c3 c4 c5 e0 e1 e2 e3 e4 e5
      have FX : Hid (BX 30 (X3.setCell ⟨(w.heap.size + 1), 5, none⟩ (.slice (some ⟨W0.drew.heap.size, 0, none⟩) m m)) (w.heap.size + 1) #[.int .i64 0, .int .i64 0, .bool bf, .bool bd, .slice (some ⟨X1.heap.size, 0, none⟩) m m, .slice (some ⟨W0.drew.heap.size, 0, none⟩) m m]) := x3.set 5 _
      have FK : Hid (Kept (fun k => k = (w.heap.size + 1)) W0 (X3.setCell ⟨(w.heap.size + 1), 5, none⟩ (.slice (some ⟨W0.drew.heap.size, 0, none⟩) m m))) := k3.trans (Kept.box _ _ _ _)
      have FV : Hid ((X3.setCell ⟨(w.heap.size + 1), 5, none⟩ (.slice (some ⟨W0.drew.heap.size, 0, none⟩) m m)).ownsRow W0.heap.size 59 2 (.slice (some ⟨X1.heap.size, 0, none⟩) m m) m ((List.replicate m ((0, 0) : Ml)).flatMap encM)) := own_off v3 x3 (by decide) (Kept.box _ _ _ _)
      have FT : Hid (TbI (X3.setCell ⟨(w.heap.size + 1), 5, none⟩ (.slice (some ⟨W0.drew.heap.size, 0, none⟩) m m)) W0.heap.size W0.drew.heap.size m (List.replicate m (.slice none 0 0)) (List.replicate m [])) := t3.off (Kept.box _ _ _ _) (fun k hk => by subst hk; exact ⟨_, _, _, x3, by decide, by decide⟩)
      exact HG.out _ _ _ FX FK FV FT
  case g =>
    intro g1 g2 X FX FK FV FT
    have hx := FX.out
    obtain ⟨⟨c0, c1, c2, c3, c4, c5⟩, e0, e1, e2, e3, e4, e5⟩ := hx.all6
    have hbt : Hid (Below w.heap.size w X) := BH.out.trans (FK.out.below (by omega) (fun k hk => by omega))
    have hg1 := FV.out.lt g1 rfl
    have FV0 : Hid (X.ownsRow W0.heap.size 59 2 (.slice (some ⟨g1, 0, none⟩) m m) m ((fstV m 0).flatMap encM)) := by
      show World.ownsRow _ _ _ _ _ _ _
      rw [fstV_zero]; exact FV.out
    clear FV hx
    go_wp2_with fail
    clear c0 c1 c2 c3 c4 c5 e0 e1 e2 e3 e4 e5
    go_loopw [19] (fun i wr => ∃ j : Nat, j ≤ m ∧ i = .int .i64 j ∧ Kept (fun k => k = w.heap.size + 1 ∨ k = g1) W0 wr ∧ BX 30 wr (w.heap.size + 1) #[.int .i64 0, .int .i64 0, .bool bf, .bool bd, .slice (some ⟨g1, 0, none⟩) m m, .slice (some ⟨g2, 0, none⟩) m m] ∧ wr.ownsRow W0.heap.size 59 2 (.slice (some ⟨g1, 0, none⟩) m m) m ((fstV m j).flatMap encM) ∧ TbI wr W0.heap.size g2 m (List.replicate m (.slice none 0 0)) (List.replicate m [])) (fun i _ => m - (intOf i).toNat)
    case atStart => exact ⟨0, by omega, rfl, FK.out.mono (fun k hk => .inl hk), FX.out, FV0.out, FT.out⟩
    case round =>
      obtain ⟨j, hj, rfl, hk, hx, hv, ht⟩ := hrel
      have KB : Hid (Kept (fun k => k = w.heap.size + 1 ∨ k = g1) W0 wr) := hk
      have XB : Hid (BX 30 wr (w.heap.size + 1) #[.int .i64 0, .int .i64 0, .bool bf, .bool bd, .slice (some ⟨g1, 0, none⟩) m m, .slice (some ⟨g2, 0, none⟩) m m]) := hx
      have VB : Hid (wr.ownsRow W0.heap.size 59 2 (.slice (some ⟨g1, 0, none⟩) m m) m ((fstV m j).flatMap encM)) := hv
      have TB : Hid (TbI wr W0.heap.size g2 m (List.replicate m (.slice none 0 0)) (List.replicate m [])) := ht
      obtain ⟨⟨c0, c1, c2, c3, c4, c5⟩, _⟩ := hx.all6
      clear hk hx hv ht
      by_cases hlt : j < m
      · have p0 : (0 : Int) ≤ (j : Int) := by omega
        have p1 : (j : Int) < (m : Int) := by omega
        obtain ⟨cur, hcur⟩ : ∃ cur, wr.heap[g1]? = some (.cells cur 59 (0, 0)) := by
          rcases VB.out.2 with ⟨hv, _⟩ | ⟨g3, c3, cur, hv, _, hgg, _⟩
          · cases hv
          · injection hv with hv
            injection hv with hv
            injection hv with hv
            subst hv
            exact ⟨cur, hgg⟩
        obtain ⟨x, hx⟩ := getX (show j < (fstV m j).length by rw [fstV_len hj]; exact hlt)
        obtain ⟨d0, d1⟩ := own_atV VB.out hx
        have f0 := frozenK VB.out (j * 2)
        have f1 := frozenK VB.out (j * 2 + 1)
        have VN : Hid ((putV wr g1 (j * 2) (-1, -1)).ownsRow W0.heap.size 59 2 (.slice (some ⟨g1, 0, none⟩) m m) m ((fstV m (j + 1)).flatMap encM)) := by
          show World.ownsRow _ _ _ _ _ _ _
          rw [fstV_set hlt]; exact own_putV VB.out (by rw [fstV_len hj]; exact hlt) _
        have KN : Hid (Kept (fun k => k = w.heap.size + 1 ∨ k = g1) W0 (putV wr g1 (j * 2) (-1, -1))) := KB.out.trans ((kept_putV wr g1 (j * 2) (-1, -1)).mono fun k hk => .inr hk)
        have XN : Hid (BX 30 (putV wr g1 (j * 2) (-1, -1)) (w.heap.size + 1) #[.int .i64 0, .int .i64 0, .bool bf, .bool bd, .slice (some ⟨g1, 0, none⟩) m m, .slice (some ⟨g2, 0, none⟩) m m]) := XB.out.kept (kept_putV wr g1 (j * 2) (-1, -1)) (by omega)
        have TN : Hid (TbI (putV wr g1 (j * 2) (-1, -1)) W0.heap.size g2 m (List.replicate m (.slice none 0 0)) (List.replicate m [])) := TB.out.off (kept_putV wr g1 (j * 2) (-1, -1)) (fun k hk => by subst hk; exact ⟨_, _, _, hcur, by decide, by decide⟩)
        clear hx hcur cur
        unfold putV at VN KN XN TN
        go_wp2_with fail
        go_roundw
        case rel => exact ⟨j + 1, by omega, by go_num, KN.out, XN.out, VN.out, TN.out⟩
        case measure => simp [intOf]; omega
      · have ej : j = m := by omega
        have VE : Hid (wr.ownsRow W0.heap.size 59 2 (.slice (some ⟨g1, 0, none⟩) m m) m ((List.replicate m ((-1, -1) : Ml)).flatMap encM)) := by
          have := VB.out
          rw [ej, fstV_all] at this
          exact this
        have Z0 : BX 30 wr w.heap.size #[.int .i64 0, .int .i64 0, .bool false, .bool false, .slice none 0 0, .slice none 0 0] := R0.out.kept KB.out (by omega)
        have RX : Hid (BX 30 (put6 wr w.heap.size (.int .i64 0) (.int .i64 0) (.bool bf) (.bool bd) (.slice (some ⟨g1, 0, none⟩) m m) (.slice (some ⟨g2, 0, none⟩) m m)) w.heap.size #[.int .i64 0, .int .i64 0, .bool bf, .bool bd, .slice (some ⟨g1, 0, none⟩) m m, .slice (some ⟨g2, 0, none⟩) m m]) := Z0.put6
        have HE : Hid (P (.returned (.agg #[.int .i64 0, .int .i64 0, .bool bf, .bool bd, .slice (some ⟨g1, 0, none⟩) m m, .slice (some ⟨g2, 0, none⟩) m m])) (put6 wr w.heap.size (.int .i64 0) (.int .i64 0) (.bool bf) (.bool bd) (.slice (some ⟨g1, 0, none⟩) m m) (.slice (some ⟨g2, 0, none⟩) m m))) := by
          refine HP.out _ _ _ ?_ ?_ ?_
          · exact own_lower (own_off VE.out Z0 (by decide) (kept_put6 wr w.heap.size _ _ _ _ _ _)) (by omega)
          · exact (TB.out.own.off Z0 (by decide) (by decide) (kept_put6 wr w.heap.size _ _ _ _ _ _)).lower (by omega)
          · exact below_put6 (BH.out.trans (KB.out.below (by omega) (fun k hk => by omega))) (Nat.le_refl _) Z0.lt _ _ _ _ _ _
        obtain ⟨⟨d0, d1, d2, d3, d4, d5⟩, e0, e1, e2, e3, e4, e5⟩ := Z0.all6
        clear Z0 ej
        go_wp2_with fail
        obtain ⟨⟨r0, r1, r2, r3, r4, r5⟩, _⟩ := RX.out.all6
        unfold put6 at r0 r1 r2 r3 r4 r5
        exact bodyPost_ret (v := .agg #[.int .i64 0, .int .i64 0, .bool bf, .bool bd, .slice (some ⟨g1, 0, none⟩) m m, .slice (some ⟨g2, 0, none⟩) m m]) (by simp [results, Try.results45, go_sem, r0, r1, r2, r3, r4, r5]) rfl HE.out
end Go.Proofs.Ytbmkgnlfccigpaa

namespace Go.Proofs.Ytbmkgnlfccigpaa
set_option maxRecDepth 100000
open Go.ChangeShapes Go.WideShapes Go.ChangeAt Go.RowKit

set_option maxHeartbeats 2000000 in
set_option maxRecDepth 100000 in
theorem again_any (step phase : Int) (vs : List Ml) (vv vm : Value) (w : World) (hvm : ∃ a b c, vm = .slice a b c) (hv : MlR w vv vs) (hl : vs.length ≤ 200) :
    Calls Try.prog 47 #[.agg #[.int .i64 step, .int .i64 phase, .bool false, .bool true, vv, vm]] w (StoP w ⟨step, phase, false, true, vs, List.replicate vs.length []⟩) := by
  obtain ⟨ga, gb, gc, rfl⟩ := hvm
  generalize hvmx : Value.slice ga gb gc = vm
  have hone : vm.oneCell' = true := by rw [← hvmx]; rfl
  have HV : Hid (MlR w vv vs) := hv
  obtain ⟨va, vc, rfl, hvc, hvm, _, _⟩ := hv
  unfold maxLen at hvm
  have HP : Hid (∀ (w' : World) u1 u2, w'.ownsRow w.heap.size 59 2 u1 vs.length (vs.flatMap encM) → OwnLi w' w.heap.size u2 (List.replicate vs.length []) → Below w.heap.size w w' → StoP w ⟨step, phase, false, true, vs, List.replicate vs.length []⟩ (.returned (.agg #[.int .i64 step, .int .i64 phase, .bool false, .bool true, u1, u2])) w') := fun w' u1 u2 h1 h2 h3 => ⟨u1, u2, rfl, h1, h2, h3⟩
  generalize StoP w ⟨step, phase, false, true, vs, List.replicate vs.length []⟩ = P at *
  obtain ⟨W0, hW0⟩ : ∃ W0, W0 = (w.alloc (.cells #[.int .i64 step, .int .i64 phase, .bool false, .bool true, .slice va vs.length vc, vm] 30)).alloc (.cells #[.int .i64 0, .int .i64 0, .bool false, .bool false, .slice none 0 0, .slice none 0 0] 30) := ⟨_, rfl⟩
  obtain ⟨Q0, T0, B0, s1, s2⟩ := boxes2 w #[.int .i64 step, .int .i64 phase, .bool false, .bool true, .slice va vs.length vc, vm] #[.int .i64 0, .int .i64 0, .bool false, .bool false, .slice none 0 0, .slice none 0 0] 30 30 W0 hW0
  have BH : Hid (Below w.heap.size w W0) := B0
  have Z0 : Hid (BX 30 W0 (w.heap.size + 1) #[.int .i64 0, .int .i64 0, .bool false, .bool false, .slice none 0 0, .slice none 0 0]) := T0
  have X0 : Hid (BX 30 W0 w.heap.size #[.int .i64 step, .int .i64 phase, .bool false, .bool true, .slice va vs.length vc, vm]) := Q0
  obtain ⟨⟨c0, c1, c2, c3, c4, c5⟩, _⟩ := Q0.all6
  obtain ⟨w1, mk, ov, hb1⟩ := make_vals W0 vs.length (by omega)
  have x1 : BX 30 w1 w.heap.size #[.int .i64 step, .int .i64 phase, .bool false, .bool true, .slice va vs.length vc, vm] := Q0.below hb1 (by omega)
  have hr1 : MlR w1 (.slice va vs.length vc) vs := HV.out.below (B0.trans (hb1.mono (by omega))) (Nat.le_refl _)
  obtain ⟨w2, hcp, ov2, kp2⟩ := copy_vals 3 ov hr1 rfl
  obtain ⟨g1, hg1⟩ : ∃ g1, W0.heap.size = g1 := ⟨_, rfl⟩
  have hgl : w.heap.size + 2 ≤ g1 := by omega
  have K2 : Hid (Kept (fun k => k = g1) W0 w2) := (Kept.of hb1).trans (kp2.mono fun k hk => hk.trans hg1)
  have V2 : Hid (w2.ownsRow W0.heap.size 59 2 (.slice (some ⟨g1, 0, none⟩) vs.length vs.length) vs.length (vs.flatMap encM)) := by
    have := ov2
    rw [hg1] at this ⊢
    exact this
  have KEEP : Hid (∀ V, Kept (fun k => k = g1) W0 V → (V.cell? ⟨w.heap.size, 0, none⟩ = some (.int .i64 step) ∧ V.cell? ⟨w.heap.size, 1, none⟩ = some (.int .i64 phase))) := fun V hV => by
    obtain ⟨⟨c0, c1, c2, c3, c4, c5⟩, _⟩ := (X0.out.kept hV (by omega)).all6
    exact ⟨c0, c1⟩
  obtain ⟨⟨d0, d1, d2, d3, d4, d5⟩, _⟩ := x1.all6
  clear Q0 T0 B0 ov hb1 x1 hr1 ov2 kp2
  rw [hg1] at mk hcp
  go_enter Try.func47, Try.ntmps47
  go_upto_region 1 with fail
  rw [← hW0]
  clear hW0
  go_upto_region 2 with fail
  go_upto_region 3 with (at_builtin; refine Lib.wpList_copy_run _ rfl _ _ 27 27 rfl _ _ rfl rfl hcp ?_)
  clear c0 c1 c2 c3 c4 c5 d0 d1 d2 d3 d4 d5 mk hcp
  have HS0 : Hid (w2.drew.cell? ⟨w.heap.size, 0, none⟩ = some (.int .i64 step) ∧ w2.drew.cell? ⟨w.heap.size, 1, none⟩ = some (.int .i64 phase)) := KEEP.out w2.drew (K2.out.trans (Kept.refl _ w2).drew)
  refine region_lastF (S := fun V => (V.cell? ⟨w.heap.size, 0, none⟩ = some (.int .i64 step) ∧ V.cell? ⟨w.heap.size, 1, none⟩ = some (.int .i64 phase))) (by kernel_rfl) rfl (by kernel_rfl) (by kernel_rfl) ?_
  simp only [List.pop_toArray, List.dropLast_cons_cons, List.dropLast_singleton, List.size_toArray, List.length_cons, List.length_nil, Nat.reduceAdd]
  refine takeH (i := 0) (v := .pointer (some ⟨w.heap.size, 0, none⟩)) (d := 12) rfl rfl (by kernel_rfl) (by kernel_rfl) (by kernel_rfl) (fun _ _ _ h => h) (by rfl) (fun V hV => by obtain ⟨v1, v2⟩ := hV; go_simp) HS0.out ?_
  simp only [Act.put, List.setIfInBounds_toArray, List.set_cons_zero, List.set_cons_succ]
  refine takeH (i := 1) (v := .int .i64 step) (d := 13) rfl rfl (by kernel_rfl) (by kernel_rfl) (by kernel_rfl) (fun _ _ _ h => h) (by rfl) (fun V hV => by obtain ⟨v1, v2⟩ := hV; go_simp) HS0.out ?_
  simp only [Act.put, List.setIfInBounds_toArray, List.set_cons_zero, List.set_cons_succ]
  refine takeH (i := 2) (v := .pointer (some ⟨w.heap.size, 1, none⟩)) (d := 14) rfl rfl (by kernel_rfl) (by kernel_rfl) (by kernel_rfl) (fun _ _ _ h => h) (by rfl) (fun V hV => by obtain ⟨v1, v2⟩ := hV; go_simp) HS0.out ?_
  simp only [Act.put, List.setIfInBounds_toArray, List.set_cons_zero, List.set_cons_succ]
  refine takeH (i := 3) (v := .int .i64 phase) (d := 15) rfl rfl (by kernel_rfl) (by kernel_rfl) (by kernel_rfl) (fun _ _ _ h => h) (by rfl) (fun V hV => by obtain ⟨v1, v2⟩ := hV; go_simp) HS0.out ?_
  simp only [Act.put, List.setIfInBounds_toArray, List.set_cons_zero, List.set_cons_succ]
  refine takeH (i := 4) (v := .slice (some ⟨g1, 0, none⟩) vs.length vs.length) (d := 16) rfl rfl (by kernel_rfl) (by kernel_rfl) (by kernel_rfl) (fun _ _ _ h => h) (by rfl) (fun V hV => by obtain ⟨v1, v2⟩ := hV; go_simp) HS0.out ?_
  simp only [Act.put, List.setIfInBounds_toArray, List.set_cons_zero, List.set_cons_succ]
  refine takeH (i := 5) (v := .slice (some ⟨g1, 0, none⟩) vs.length vs.length) (d := 17) rfl rfl (by kernel_rfl) (by kernel_rfl) (by kernel_rfl) (fun _ _ _ h => h) (by rfl) (fun V hV => by obtain ⟨v1, v2⟩ := hV; go_simp) HS0.out ?_
  simp only [Act.put, List.setIfInBounds_toArray, List.set_cons_zero, List.set_cons_succ]
  refine takeH (i := 6) (v := .int .i64 (vs.length : Int)) (d := 18) rfl rfl (by kernel_rfl) (by kernel_rfl) (by kernel_rfl) (fun _ _ _ h => h) (by rfl) (fun V hV => by obtain ⟨v1, v2⟩ := hV; go_simp) HS0.out ?_
  simp only [Act.put, List.setIfInBounds_toArray, List.set_cons_zero, List.set_cons_succ]
  obtain ⟨X1, mk1, ot1, hb1⟩ := make_tbi w2.drew vs.length (by omega)
  have k1 : Kept (fun k => k = g1) W0 X1 := K2.out.trans ((Kept.refl _ w2).drew.trans (.of hb1))
  have HS1 : Hid (X1.cell? ⟨w.heap.size, 0, none⟩ = some (.int .i64 step) ∧ X1.cell? ⟨w.heap.size, 1, none⟩ = some (.int .i64 phase)) := KEEP.out X1 k1
  refine oneH (i := 7) rfl (by kernel_rfl) rfl (op_run (d := 19) (v' := .slice (some ⟨w2.drew.heap.size, 0, none⟩) vs.length vs.length) (w' := X1) rfl (by go_simp) ⟨HS1.out, ?_⟩)
  simp only [Act.put, List.setIfInBounds_toArray, List.set_cons_zero, List.set_cons_succ]
  refine takeH (i := 8) (v := .agg #[.int .i64 step, .int .i64 phase, .bool false, .bool true, .slice (some ⟨g1, 0, none⟩) vs.length vs.length, .slice (some ⟨w2.drew.heap.size, 0, none⟩) vs.length vs.length]) (d := 20) rfl rfl (by kernel_rfl) (by kernel_rfl) (by kernel_rfl) (fun _ _ _ h => h) (by rfl) (fun V hV => by obtain ⟨v1, v2⟩ := hV; go_simp) HS1.out ?_
  simp only [Act.put, List.setIfInBounds_toArray, List.set_cons_zero, List.set_cons_succ]
  refine wpAnyH_done (by kernel_rfl) ?_ _
  show Oper.wp _ _ _ _ _ _
  have z1 : BX 30 X1 (w.heap.size + 1) #[.int .i64 0, .int .i64 0, .bool false, .bool false, .slice none 0 0, .slice none 0 0] := Z0.out.kept k1 (by omega)
  have o1 : X1.ownsRow W0.heap.size 59 2 (.slice (some ⟨g1, 0, none⟩) vs.length vs.length) vs.length (vs.flatMap encM) := own_below V2.out ((Below.refl _ w2).drew.trans hb1) (Nat.le_refl _)
  obtain ⟨⟨d0, d1, d2, d3, d4, d5⟩, e0, e1, e2, e3, e4, e5⟩ := z1.all6
  refine op_skip (w' := put6 X1 (w.heap.size + 1) (.int .i64 step) (.int .i64 phase) (.bool false) (.bool true) (.slice (some ⟨g1, 0, none⟩) vs.length vs.length) (.slice (some ⟨w2.drew.heap.size, 0, none⟩) vs.length vs.length)) rfl (by unfold put6; go_simp) ?_
  have RX : Hid (BX 30 (put6 X1 (w.heap.size + 1) (.int .i64 step) (.int .i64 phase) (.bool false) (.bool true) (.slice (some ⟨g1, 0, none⟩) vs.length vs.length) (.slice (some ⟨w2.drew.heap.size, 0, none⟩) vs.length vs.length)) (w.heap.size + 1) #[.int .i64 step, .int .i64 phase, .bool false, .bool true, .slice (some ⟨g1, 0, none⟩) vs.length vs.length, .slice (some ⟨w2.drew.heap.size, 0, none⟩) vs.length vs.length]) := z1.put6
  have HE : Hid (P (.returned (.agg #[.int .i64 step, .int .i64 phase, .bool false, .bool true, .slice (some ⟨g1, 0, none⟩) vs.length vs.length, .slice (some ⟨w2.drew.heap.size, 0, none⟩) vs.length vs.length])) (put6 X1 (w.heap.size + 1) (.int .i64 step) (.int .i64 phase) (.bool false) (.bool true) (.slice (some ⟨g1, 0, none⟩) vs.length vs.length) (.slice (some ⟨w2.drew.heap.size, 0, none⟩) vs.length vs.length))) := by
    refine HP.out _ _ _ ?_ ?_ ?_
    · exact own_lower (own_off o1 z1 (by decide) (kept_put6 X1 (w.heap.size + 1) _ _ _ _ _ _)) (by omega)
    · have hz : w2.drew.heap.size = w2.heap.size := rfl
      have hz2 := K2.out.size
      exact (ot1.own.off z1 (by decide) (by decide) (kept_put6 X1 (w.heap.size + 1) _ _ _ _ _ _)).lower (by omega)
    · exact below_put6 (BH.out.trans (k1.below (by omega) (fun k hk => by omega))) (by omega) z1.lt _ _ _ _ _ _
  clear d0 d1 d2 d3 d4 d5 e0 e1 e2 e3 e4 e5 z1 o1 k1 HS1 ot1 hb1 mk1
  generalize put6 X1 (w.heap.size + 1) (.int .i64 step) (.int .i64 phase) (.bool false) (.bool true) (.slice (some ⟨g1, 0, none⟩) vs.length vs.length) (.slice (some ⟨w2.drew.heap.size, 0, none⟩) vs.length vs.length) = X at *
  go_wp2_with fail
  obtain ⟨⟨r0, r1, r2, r3, r4, r5⟩, _⟩ := RX.out.all6
  exact bodyPost_ret (v := .agg #[.int .i64 step, .int .i64 phase, .bool false, .bool true, .slice (some ⟨g1, 0, none⟩) vs.length vs.length, .slice (some ⟨w2.drew.heap.size, 0, none⟩) vs.length vs.length]) (by simp [results, Try.results47, go_sem, r0, r1, r2, r3, r4, r5]) rfl HE.out
end Go.Proofs.Ytbmkgnlfccigpaa

namespace Go.Proofs.Ytbmkgnlfccigpaa
set_option maxRecDepth 100000
open Go.ChangeShapes Go.WideShapes Go.ChangeAt Go.RowKit

/-- No mail: lists of nothing. -/
theorem mail_none {ms : List (List Int)} (h : ¬ 0 < manyL ms) : ms = List.replicate ms.length [] := by
  refine List.ext_getElem? fun i => ?_
  rcases Nat.lt_or_ge i ms.length with hi | hi
  · rw [List.getElem?_eq_getElem hi, List.getElem?_replicate, if_pos hi]
    congr 1
    exact manyL_zero.1 (by omega) _ (List.getElem_mem hi)
  · rw [List.getElem?_eq_none hi, List.getElem?_eq_none (by simpa using hi)]
theorem job_of {k p : Int} {j : Jb} (h : jobF k p = some j) : k = Jb.k j ∧ p = Jb.p j := by
  rcases jobF_cases k p with hn | ⟨j', h1, h2⟩
  · rw [hn.1] at h; cases h
  · have h3 := jobF_of j'
    rw [← h1, ← h2, h] at h3
    injection h3 with h3
    subst h3
    exact ⟨h1, h2⟩

set_option maxHeartbeats 4000000 in
set_option maxRecDepth 100000 in
theorem after_any (v : Value) (es : List Ed) (n k s : Int) (T : StS) (vv vm : Value) (w : World) (h : EdR w v es) (hv : MlR w vv T.vals) (hm : LiR w vm T.mail) (hje : jobE n es k s = 0) (hmay : mayR n.toNat k T = true) :
    Calls Try.prog 26 #[.agg #[.int .i64 n, v, .int .i64 k, .int .i64 s], .agg #[.int .i64 T.step, .int .i64 T.phase, .bool T.fresh, .bool T.done, vv, vm]] w (StaP w (folE n es k s T)) := by
  have HR : Hid (EdR w v es) := h
  obtain ⟨a, cap, rfl, _, _, _, _⟩ := h
  have HV : Hid (MlR w vv T.vals) := hv
  have HM : Hid (LiR w vm T.mail) := hm
  obtain ⟨va, vc, rfl, hvc, hvm, _, _⟩ := hv
  obtain ⟨ma, mc, rfl, hmc, hmm, _⟩ := hm
  obtain ⟨hf, hk3, _⟩ := jobE_zero hje
  obtain ⟨hn0, hn1, hel, hed⟩ := fault_ok hf
  obtain ⟨m, rfl⟩ : ∃ m : Nat, n = m := ⟨n.toNat, by omega⟩
  rw [Int.toNat_natCast] at hmay
  obtain ⟨j, hj, hI⟩ := mayR_iff.1 hmay
  obtain ⟨hkj, hpj⟩ := job_of hj
  have HG : InG m es := fun e he => by have := in_of_out (hed e he); exact ⟨this.1, this.2.1, this.2.2.1, this.2.2.2.1, this.2.2.2.2.1⟩
  have HDN : Hid (T.done = true → folE m es k s T = (0, T) ∧ T.fresh = false ∧ T.mail = List.replicate T.vals.length []) := fun hd => by
    refine ⟨folE_done hje (by rw [Int.toNat_natCast]; exact hmay) hd, ?_, ?_⟩
    · cases hfr : T.fresh
      · rfl
      · exact absurd ⟨hfr, hd⟩ hI.fd
    · have h0 : ¬ 0 < manyL T.mail := fun g => by have := (hI.no g).2; rw [hd] at this; cases this
      have := mail_none h0
      rw [hI.lm] at this
      rw [hI.lv]
      exact this
  have HFU : Hid (T.done = false → 100000 ≤ T.step → folE m es k s T = (10, st0)) := fun h1 h2 => folE_full hje (by rw [Int.toNat_natCast]; exact hmay) h1 h2
  have HOV : Hid (T.done = false → ¬ 100000 ≤ T.step → overR j (rndV j s T) es = true → folE m es k s T = (6, st0)) := fun h1 h2 h3 => folE_over hje (by rw [Int.toNat_natCast]; exact hmay) h1 h2 hj h3
  have HGO : Hid (T.done = false → ¬ 100000 ≤ T.step → overR j (rndV j s T) es = false → folE m es k s T = (0, nextS m es j s T)) := fun h1 h2 h3 => by
    have := folE_go hje (by rw [Int.toNat_natCast]; exact hmay) h1 h2 hj h3
    rw [Int.toNat_natCast] at this
    exact this
  have CWK : Hid (∀ X, MlR X (.slice va T.vals.length vc) T.vals → LiR X (.slice ma T.mail.length mc) T.mail → Calls Try.prog 48 #[.agg #[.int .i64 (m : Int), .slice a es.length cap, .int .i64 k, .int .i64 s], .agg #[.int .i64 T.step, .int .i64 T.phase, .bool T.fresh, .bool T.done, .slice va T.vals.length vc, .slice ma T.mail.length mc]] X (WknP X m (rndV j s T))) := fun X h1 h2 => rWoken_any a es.length cap m (m : Int) k s j T _ _ X h1 h2 hj hI (by omega)
  have CAG : Hid (T.done = true → ∀ X, MlR X (.slice va T.vals.length vc) T.vals → Calls Try.prog 47 #[.agg #[.int .i64 T.step, .int .i64 T.phase, .bool false, .bool true, .slice va T.vals.length vc, .slice ma T.mail.length mc]] X (StoP X ⟨T.step, T.phase, false, true, T.vals, List.replicate T.vals.length []⟩)) := fun _ X h1 => again_any T.step T.phase T.vals _ _ X ⟨_, _, _, rfl⟩ h1 (by have := hI.lv; omega)
  have hrr : ∀ u : Int, 0 ≤ u ∧ u < (m : Int) → valB j (rndV j s T u).1 = true ∧ ((rndV j s T u).2 = true → 0 ≤ (rndV j s T u).1.1) := fun u hu => hI.rnd (by omega) hu
  have CSN : Hid (∀ X v1 v2, EdR X (.slice a es.length cap) es → MlR X v1 (valsR m (rndV j s T)) → BlR X v2 (sdR m (rndV j s T) m) → Calls Try.prog 49 #[.agg #[.int .i64 (m : Int), .slice a es.length cap, .int .i64 k, .int .i64 s], .int .i64 T.phase, v1, v2] X (SntP X m j (rndV j s T) es)) := fun X v1 v2 h0 h1 h2 => sent_any _ es m k s T.phase j (rndV j s T) v1 v2 X h0 HG (fun e he => (in_of_out (hed e he)).2.2.2.2) hkj hpj (by omega) (by omega) hrr h1 h2
  have CST : Hid (∀ X v1 v2, MlR X v1 (valsR m (rndV j s T)) → LiR X v2 (mailR m j (rndV j s T) es) → Calls Try.prog 50 #[.int .i64 k, .agg #[.int .i64 (T.step + 1), .int .i64 T.phase, .bool false, .bool false, v1, v2]] X (SetP X (nextS m es j s T) v1 v2)) := fun X v1 v2 h1 h2 => settled_any j k T.step (T.step + 1) T.phase (valsR m (rndV j s T)) (mailR m j (rndV j s T) es) v1 v2 X hkj hpj rfl h1 h2 (fun x hx => by
    obtain ⟨i, hi, rfl⟩ := List.getElem_of_mem hx
    have hi' : i < m := by rw [valsR_len] at hi; exact hi
    have h3 := valsR_at (r := rndV j s T) hi'
    rw [List.getElem?_eq_getElem hi] at h3
    injection h3 with h3
    rw [h3]
    exact (valB_iff.1 (hrr (i : Int) (by omega)).1).2.1)
  have HNV : Hid ((nextS m es j s T).vals = valsR m (rndV j s T) ∧ (nextS m es j s T).mail = mailR m j (rndV j s T) es) := (behR_step j T.step T.phase _ _).2
  have HST : Hid (0 ≤ T.step ∧ T.step ≤ 100000) := hI.stp
  have HLN : Hid ((valsR m (rndV j s T)).length = m) := valsR_len _ _
  have HLS : Hid ((sdR m (rndV j s T) m).length = m) := sdR_len _ _ _
  clear hf hk3 hel hed hmay hj hI hkj hpj HG hrr hje
  generalize nextS m es j s T = NX at *
  generalize folE m es k s T = R at *
  generalize rndV j s T = r at *
  obtain ⟨step, phase, fr, dn, vs, ms⟩ := T
  simp only at HV HM hvc hvm hmc hmm HDN HFU HOV HGO CWK CAG CSN CST HST ⊢
  have hst := HST.out
  obtain ⟨W0, hW0⟩ : ∃ W0, W0 = ((w.alloc (.cells #[.int .i64 (m : Int), .slice a es.length cap, .int .i64 k, .int .i64 s] 26)).alloc (.cells #[.int .i64 step, .int .i64 phase, .bool fr, .bool dn, .slice va vs.length vc, .slice ma ms.length mc] 30)).alloc (.cells #[.int .i64 0, .int .i64 0, .bool false, .bool false, .slice none 0 0, .slice none 0 0] 30) := ⟨_, rfl⟩
  obtain ⟨Q0, T0, Z0, B0, s1, s2⟩ := boxes3 w #[.int .i64 (m : Int), .slice a es.length cap, .int .i64 k, .int .i64 s] #[.int .i64 step, .int .i64 phase, .bool fr, .bool dn, .slice va vs.length vc, .slice ma ms.length mc] #[.int .i64 0, .int .i64 0, .bool false, .bool false, .slice none 0 0, .slice none 0 0] 26 30 30 W0 hW0
  have BH : Hid (Below w.heap.size w W0) := B0
  have HK : Hid (∀ X, Below W0.heap.size W0 X → BX 26 X w.heap.size #[.int .i64 (m : Int), .slice a es.length cap, .int .i64 k, .int .i64 s] ∧ BX 30 X (w.heap.size + 1) #[.int .i64 step, .int .i64 phase, .bool fr, .bool dn, .slice va vs.length vc, .slice ma ms.length mc] ∧ BX 30 X (w.heap.size + 2) #[.int .i64 0, .int .i64 0, .bool false, .bool false, .slice none 0 0, .slice none 0 0] ∧ Below w.heap.size w X) := fun X hX => ⟨Q0.below hX (by omega), T0.below hX (by omega), Z0.below hX (by omega), BH.out.trans (hX.mono (by omega))⟩
  have HNO : Hid (∀ X f, Below W0.heap.size W0 X → R = (f, st0) → BX 30 (put6 X (w.heap.size + 2) (.int .i64 0) (.int .i64 0) (.bool false) (.bool false) (.slice none 0 0) (.slice none 0 0)) (w.heap.size + 2) #[.int .i64 0, .int .i64 0, .bool false, .bool false, .slice none 0 0, .slice none 0 0] ∧ StaP w R (.returned (.tuple #[.agg #[.int .i64 0, .int .i64 0, .bool false, .bool false, .slice none 0 0, .slice none 0 0], .int .i64 f])) (put6 X (w.heap.size + 2) (.int .i64 0) (.int .i64 0) (.bool false) (.bool false) (.slice none 0 0) (.slice none 0 0))) := fun X f hX hR => by
    obtain ⟨_, _, Z1, b1⟩ := HK.out X hX
    refine ⟨Z1.put6, ?_⟩
    rw [hR]
    exact StaP.no (below_put6 b1 (by omega) Z1.lt _ _ _ _ _ _)
  have HYE : Hid (∀ X (t : StS) v1 v2, Below W0.heap.size W0 X → R = (0, t) → X.ownsRow W0.heap.size 59 2 v1 t.vals.length (t.vals.flatMap encM) → OwnLi X W0.heap.size v2 t.mail → BX 30 (put6 X (w.heap.size + 2) (.int .i64 t.step) (.int .i64 t.phase) (.bool t.fresh) (.bool t.done) v1 v2) (w.heap.size + 2) #[.int .i64 t.step, .int .i64 t.phase, .bool t.fresh, .bool t.done, v1, v2] ∧ StaP w R (.returned (.tuple #[.agg #[.int .i64 t.step, .int .i64 t.phase, .bool t.fresh, .bool t.done, v1, v2], .int .i64 0])) (put6 X (w.heap.size + 2) (.int .i64 t.step) (.int .i64 t.phase) (.bool t.fresh) (.bool t.done) v1 v2)) := fun X t v1 v2 hX hR h1 h2 => by
    obtain ⟨_, _, Z1, b1⟩ := HK.out X hX
    refine ⟨Z1.put6, ?_⟩
    rw [hR]
    exact StaP.yes (t := t) (own_lower (own_off h1 Z1 (by decide) (kept_put6 X (w.heap.size + 2) _ _ _ _ _ _)) (by omega)) ((h2.off Z1 (by decide) (by decide) (kept_put6 X (w.heap.size + 2) _ _ _ _ _ _)).lower (by omega)) (below_put6 b1 (by omega) Z1.lt _ _ _ _ _ _)
  have R0 : Hid (∀ X, Below W0.heap.size W0 X → EdR X (.slice a es.length cap) es ∧ MlR X (.slice va vs.length vc) vs ∧ LiR X (.slice ma ms.length mc) ms) := fun X hX => ⟨HR.out.below (HK.out _ hX).2.2.2 (Nat.le_refl _), HV.out.below (HK.out _ hX).2.2.2 (Nat.le_refl _), HM.out.below (HK.out _ hX).2.2.2 (Nat.le_refl _)⟩
  obtain ⟨q0, q1, q2, q3⟩ := Q0.all4
  obtain ⟨⟨c0, c1, c2, c3, c4, c5⟩, _⟩ := T0.all6
  obtain ⟨⟨d0, d1, d2, d3, d4, d5⟩, e0, e1, e2, e3, e4, e5⟩ := Z0.all6
  have A0 : Hid (Below W0.heap.size W0 W0) := Below.refl _ _
  have ML0 : Hid (MlR W0 (.slice va vs.length vc) vs) := (R0.out _ A0.out).2.1
  have LI0 : Hid (LiR W0 (.slice ma ms.length mc) ms) := (R0.out _ A0.out).2.2
  clear Q0 T0 Z0 B0
  cases dn
  · by_cases h5 : step = 100000
    · obtain ⟨rx, hp⟩ := HNO.out _ 10 A0.out (HFU.out rfl (by omega))
      have HP : Hid (StaP w R (.returned (.tuple #[.agg #[.int .i64 0, .int .i64 0, .bool false, .bool false, .slice none 0 0, .slice none 0 0], .int .i64 10])) (put6 W0 (w.heap.size + 2) (.int .i64 0) (.int .i64 0) (.bool false) (.bool false) (.slice none 0 0) (.slice none 0 0))) := hp
      have RX : Hid (BX 30 (put6 W0 (w.heap.size + 2) (.int .i64 0) (.int .i64 0) (.bool false) (.bool false) (.slice none 0 0) (.slice none 0 0)) (w.heap.size + 2) #[.int .i64 0, .int .i64 0, .bool false, .bool false, .slice none 0 0, .slice none 0 0]) := rx
      have t5 : (step == 100000) = true := by simpa using h5
      clear hp rx h5
      go_enter Try.func26, Try.ntmps26
      go_upto_region 1 with fail
      rw [← hW0]
      clear hW0
      go_wp2_with fail
      obtain ⟨⟨r0, r1, r2, r3, r4, r5⟩, _⟩ := RX.out.all6
      unfold put6 at r0 r1 r2 r3 r4 r5
      exact bodyPost_ret (v := .tuple #[.agg #[.int .i64 0, .int .i64 0, .bool false, .bool false, .slice none 0 0, .slice none 0 0], .int .i64 10]) (by simp [results, Try.results26, go_sem, r0, r1, r2, r3, r4, r5]) rfl HP.out
    · have t5 : (step == 100000) = false := by simpa using h5
      have wn : IntKind.i64.wrap (step + 1) = step + 1 := wrap_id64 (by omega) (by omega)
      have h6 : ¬ 100000 ≤ step := by omega
      have HO2 : Hid (overR j r es = true → R = (6, st0)) := HOV.out rfl h6
      have HG2 : Hid (overR j r es = false → R = (0, NX)) := HGO.out rfl h6
      clear h5 HFU HOV HGO HDN CAG h6
      go_enter Try.func26, Try.ntmps26
      go_upto_region 1 with fail
      rw [← hW0]
      clear hW0
      go_wp2_with fail
      refine (CWK.out _ ML0.out LI0.out).mono ?_
      rintro e w1 ⟨v1, v2, rfl, hv1, hv2, hb1⟩
      have A1 : Hid (Below W0.heap.size W0 w1) := hb1
      have V1 : Hid (w1.ownsRow W0.heap.size 59 2 v1 m ((valsR m r).flatMap encM)) := hv1
      have V2 : Hid (w1.ownsRow W0.heap.size 4 1 v2 m ((sdR m r m).flatMap encT)) := hv2
      obtain ⟨Q1, T1, Z1, _⟩ := HK.out _ hb1
      clear q0 q1 q2 q3 c0 c1 c2 c3 c4 c5 d0 d1 d2 d3 d4 d5 e0 e1 e2 e3 e4 e5
      obtain ⟨q0, q1, q2, q3⟩ := Q1.all4
      obtain ⟨⟨c0, c1, c2, c3, c4, c5⟩, _⟩ := T1.all6
      obtain ⟨a1, n1, k1, rfl⟩ : ∃ a n c, v1 = .slice a n c := by
        rcases own_shapeK hv1 with ⟨e, _⟩ | ⟨g', c', e, _⟩
        · exact ⟨_, _, _, e⟩
        · exact ⟨_, _, _, e⟩
      obtain ⟨a2, n2, k2, rfl⟩ : ∃ a n c, v2 = .slice a n c := by
        rcases own_shapeK hv2 with ⟨e, _⟩ | ⟨g', c', e, _⟩
        · exact ⟨_, _, _, e⟩
        · exact ⟨_, _, _, e⟩
      have M1 : Hid (MlR w1 (.slice a1 n1 k1) (valsR m r)) := RowK.own encM_len (by rw [HLN.out]; exact hv1)
      have M2 : Hid (BlR w1 (.slice a2 n2 k2) (sdR m r m)) := RowK.own encT_len (by rw [HLS.out]; exact hv2)
      clear Q1 T1 Z1 hv1 hv2 hb1 CWK ML0 LI0
      go_wp2_with fail
      refine (CSN.out _ _ _ (R0.out _ A1.out).1 M1.out M2.out).mono ?_
      rintro e w2 ⟨hor, hb2⟩
      have A2 : Hid (Below W0.heap.size W0 w2) := A1.out.trans (hb2.mono A1.out.size)
      have V3 : Hid (w2.ownsRow W0.heap.size 59 2 (.slice a1 n1 k1) m ((valsR m r).flatMap encM)) := own_below V1.out hb2 (Nat.le_refl _)
      obtain ⟨Q2, T2, Z2, _⟩ := HK.out _ A2.out
      clear q0 q1 q2 q3 c0 c1 c2 c3 c4 c5
      obtain ⟨q0, q1, q2, q3⟩ := Q2.all4
      obtain ⟨⟨c0, c1, c2, c3, c4, c5⟩, _⟩ := T2.all6
      obtain ⟨⟨d0, d1, d2, d3, d4, d5⟩, e0, e1, e2, e3, e4, e5⟩ := Z2.all6
      clear Q2 T2 Z2 CSN
      rcases hor with ⟨ho, rfl⟩ | ⟨ho, v3, rfl, hv3⟩
      · obtain ⟨rx, hp⟩ := HNO.out _ 6 A2.out (HO2.out ho)
        have HP : Hid (StaP w R (.returned (.tuple #[.agg #[.int .i64 0, .int .i64 0, .bool false, .bool false, .slice none 0 0, .slice none 0 0], .int .i64 6])) (put6 w2 (w.heap.size + 2) (.int .i64 0) (.int .i64 0) (.bool false) (.bool false) (.slice none 0 0) (.slice none 0 0))) := hp
        have RX : Hid (BX 30 (put6 w2 (w.heap.size + 2) (.int .i64 0) (.int .i64 0) (.bool false) (.bool false) (.slice none 0 0) (.slice none 0 0)) (w.heap.size + 2) #[.int .i64 0, .int .i64 0, .bool false, .bool false, .slice none 0 0, .slice none 0 0]) := rx
        clear ho hp rx hb2
        go_wp2_with fail
        obtain ⟨⟨r0, r1, r2, r3, r4, r5⟩, _⟩ := RX.out.all6
        unfold put6 at r0 r1 r2 r3 r4 r5
        exact bodyPost_ret (v := .tuple #[.agg #[.int .i64 0, .int .i64 0, .bool false, .bool false, .slice none 0 0, .slice none 0 0], .int .i64 6]) (by simp [results, Try.results26, go_sem, r0, r1, r2, r3, r4, r5]) rfl HP.out
      · have HRR : Hid (R = (0, NX)) := HG2.out ho
        have V4 : Hid (OwnLi w2 W0.heap.size v3 (mailR m j r es)) := hv3.lower A1.out.size
        have L3 : Hid (LiR w2 v3 (mailR m j r es)) := hv3.reads
        have M3 : Hid (MlR w2 (.slice a1 n1 k1) (valsR m r)) := M1.out.below hb2 (Nat.le_refl _)
        obtain ⟨a3, k3, rfl⟩ := hv3.shape
        clear ho hv3 hb2 HO2 HG2
        go_wp2_with fail
        refine (CST.out _ _ _ M3.out L3.out).mono ?_
        rintro e w3 ⟨rfl, hb3⟩
        have A3 : Hid (Below W0.heap.size W0 w3) := A2.out.trans (hb3.mono A2.out.size)
        have V5 : Hid (w3.ownsRow W0.heap.size 59 2 (.slice a1 n1 k1) NX.vals.length (NX.vals.flatMap encM)) := by
          show World.ownsRow _ _ _ _ _ _ _
          rw [HNV.out.1, HLN.out]; exact own_below V3.out hb3 (Nat.le_refl _)
        have V6 : Hid (OwnLi w3 W0.heap.size (.slice a3 (mailR m j r es).length k3) NX.mail) := by
          show OwnLi _ _ _ _
          rw [HNV.out.2]; exact V4.out.below hb3 (Nat.le_refl _)
        obtain ⟨rx, hp⟩ := HYE.out _ NX _ _ A3.out HRR.out V5.out V6.out
        obtain ⟨Q3, T3, Z3, _⟩ := HK.out _ A3.out
        clear q0 q1 q2 q3 c0 c1 c2 c3 c4 c5 d0 d1 d2 d3 d4 d5 e0 e1 e2 e3 e4 e5
        obtain ⟨⟨d0, d1, d2, d3, d4, d5⟩, e0, e1, e2, e3, e4, e5⟩ := Z3.all6
        obtain ⟨nst, nph, nfr, ndn, nvs, nms⟩ := NX
        simp only at rx hp ⊢
        have HP : Hid (StaP w R (.returned (.tuple #[.agg #[.int .i64 nst, .int .i64 nph, .bool nfr, .bool ndn, .slice a1 n1 k1, .slice a3 (mailR m j r es).length k3], .int .i64 0])) (put6 w3 (w.heap.size + 2) (.int .i64 nst) (.int .i64 nph) (.bool nfr) (.bool ndn) (.slice a1 n1 k1) (.slice a3 (mailR m j r es).length k3))) := hp
        have RX : Hid (BX 30 (put6 w3 (w.heap.size + 2) (.int .i64 nst) (.int .i64 nph) (.bool nfr) (.bool ndn) (.slice a1 n1 k1) (.slice a3 (mailR m j r es).length k3)) (w.heap.size + 2) #[.int .i64 nst, .int .i64 nph, .bool nfr, .bool ndn, .slice a1 n1 k1, .slice a3 (mailR m j r es).length k3]) := rx
        clear hp rx hb3 Q3 T3 Z3
        go_wp2_with fail
        obtain ⟨⟨r0, r1, r2, r3, r4, r5⟩, _⟩ := RX.out.all6
        unfold put6 at r0 r1 r2 r3 r4 r5
        exact bodyPost_ret (v := .tuple #[.agg #[.int .i64 nst, .int .i64 nph, .bool nfr, .bool ndn, .slice a1 n1 k1, .slice a3 (mailR m j r es).length k3], .int .i64 0]) (by simp [results, Try.results26, go_sem, r0, r1, r2, r3, r4, r5]) rfl HP.out
  · obtain ⟨hR, hfr, hms⟩ := HDN.out rfl
    subst hfr
    have HRR : Hid (R = (0, ⟨step, phase, false, true, vs, ms⟩)) := hR
    have HMS : Hid (ms = List.replicate vs.length []) := hms
    have CA2 : Hid (∀ X, MlR X (.slice va vs.length vc) vs → Calls Try.prog 47 #[.agg #[.int .i64 step, .int .i64 phase, .bool false, .bool true, .slice va vs.length vc, .slice ma ms.length mc]] X (StoP X ⟨step, phase, false, true, vs, List.replicate vs.length []⟩)) := CAG.out rfl
    clear hR hms HDN HFU HOV HGO CAG
    go_enter Try.func26, Try.ntmps26
    go_upto_region 1 with fail
    rw [← hW0]
    clear hW0
    go_wp2_with fail
    refine (CA2.out _ ML0.out).mono ?_
    rintro e w1 ⟨v1, v2, rfl, hv1, hv2, hb1⟩
    simp only at hv1 hv2 ⊢
    replace hv2 : OwnLi w1 W0.heap.size v2 ms := by rw [HMS.out]; exact hv2
    clear HMS
    obtain ⟨rx, hp⟩ := HYE.out w1 ⟨step, phase, false, true, vs, ms⟩ v1 v2 hb1 HRR.out hv1 hv2
    obtain ⟨Q3, T3, Z3, _⟩ := HK.out _ hb1
    clear q0 q1 q2 q3 c0 c1 c2 c3 c4 c5 d0 d1 d2 d3 d4 d5 e0 e1 e2 e3 e4 e5
    obtain ⟨⟨d0, d1, d2, d3, d4, d5⟩, e0, e1, e2, e3, e4, e5⟩ := Z3.all6
    obtain ⟨a1, n1, k1, rfl⟩ : ∃ a n c, v1 = .slice a n c := by
      rcases own_shapeK hv1 with ⟨e, _⟩ | ⟨g', c', e, _⟩
      · exact ⟨_, _, _, e⟩
      · exact ⟨_, _, _, e⟩
    obtain ⟨a2, k2, rfl⟩ := hv2.shape
    simp only at rx hp
    have HP : Hid (StaP w R (.returned (.tuple #[.agg #[.int .i64 step, .int .i64 phase, .bool false, .bool true, .slice a1 n1 k1, .slice a2 ms.length k2], .int .i64 0])) (put6 w1 (w.heap.size + 2) (.int .i64 step) (.int .i64 phase) (.bool false) (.bool true) (.slice a1 n1 k1) (.slice a2 ms.length k2))) := hp
    have RX : Hid (BX 30 (put6 w1 (w.heap.size + 2) (.int .i64 step) (.int .i64 phase) (.bool false) (.bool true) (.slice a1 n1 k1) (.slice a2 ms.length k2)) (w.heap.size + 2) #[.int .i64 step, .int .i64 phase, .bool false, .bool true, .slice a1 n1 k1, .slice a2 ms.length k2]) := rx
    clear hp rx hb1 Q3 T3 Z3 hv1 hv2
    go_wp2_with fail
    obtain ⟨⟨r0, r1, r2, r3, r4, r5⟩, _⟩ := RX.out.all6
    unfold put6 at r0 r1 r2 r3 r4 r5
    exact bodyPost_ret (v := .tuple #[.agg #[.int .i64 step, .int .i64 phase, .bool false, .bool true, .slice a1 n1 k1, .slice a2 ms.length k2], .int .i64 0]) (by simp [results, Try.results26, go_sem, r0, r1, r2, r3, r4, r5]) rfl HP.out
end Go.Proofs.Ytbmkgnlfccigpaa

namespace Go.Proofs.Ytbmkgnlfccigpaa
set_option maxRecDepth 100000
open Go.ChangeShapes Go.WideShapes Go.ChangeAt Go.RowKit

set_option maxHeartbeats 1000000 in
set_option maxRecDepth 100000 in
theorem rCheck_any (v : Value) (es : List Ed) (n k s : Int) (w : World) (h : EdR w v es) :
    Calls Try.prog 44 #[.agg #[.int .i64 n, v, .int .i64 k, .int .i64 s]] w fun e w' => e = .returned (.int .i64 (jobE n es k s)) ∧ Below w.heap.size w w' := by
  have HR : Hid (EdR w v es) := h
  obtain ⟨a, cap, rfl, _, _, _, _⟩ := h
  have HCK : Hid (∀ X, EdR X (.slice a es.length cap) es → Calls Try.prog 41 #[.agg #[.int .i64 n, .slice a es.length cap]] X fun e w' => e = .returned (.int .i64 (faultE n es)) ∧ Below X.heap.size X w') := fun X hX => check_any _ es n X hX
  obtain ⟨W0, hW0⟩ : ∃ W0, W0 = w.alloc (.cells #[.int .i64 n, .slice a es.length cap, .int .i64 k, .int .i64 s] 26) := ⟨_, rfl⟩
  have Q0 : BX 26 W0 w.heap.size #[.int .i64 n, .slice a es.length cap, .int .i64 k, .int .i64 s] := by rw [hW0]; exact BX.new _ _ _
  have BH : Hid (Below w.heap.size w W0) := by show Below _ _ _; rw [hW0]; exact below_alloc _ _
  have s1 : w.heap.size + 1 ≤ W0.heap.size := by rw [hW0]; simp
  have HK : Hid (∀ X, Below W0.heap.size W0 X → BX 26 X w.heap.size #[.int .i64 n, .slice a es.length cap, .int .i64 k, .int .i64 s] ∧ Below w.heap.size w X) := fun X hX => ⟨Q0.below hX (by omega), BH.out.trans (hX.mono (by omega))⟩
  have R0 : Hid (EdR W0 (.slice a es.length cap) es) := HR.out.below BH.out (Nat.le_refl _)
  obtain ⟨q0, q1, q2, q3⟩ := Q0.all4
  clear Q0
  by_cases hf : faultE n es = 0
  · rw [hf] at HCK
    by_cases hk : 1 ≤ k ∧ k ≤ 3
    · have CW : Hid (∀ X, ∃ x y, Calls Try.prog 65 #[.int .i64 k, .int .i64 0] X fun e w' => e = .returned (.tuple #[.bool x, .bool y, .int .i64 0]) ∧ Below X.heap.size X w') := fun X => by
        rcases (show k = 1 ∨ k = 2 ∨ k = 3 by omega) with rfl | rfl | rfl
        · exact ⟨_, _, waysP_any (false, false) X⟩
        · exact ⟨_, _, waysP_any (false, true) X⟩
        · exact ⟨_, _, waysP_any (true, false) X⟩
      by_cases h1 : k = 1
      · by_cases hs : s < 0
        · have HE : Hid (jobE n es k s = 2) := jobE_src hf h1 (by omega)
          have t1 : (k == 1) = true := by simpa using h1
          clear hk h1
          generalize jobE n es k s = je at *
          clear hf
          go_enter Try.func44, Try.ntmps44
          go_upto_region 1 with fail
          rw [← hW0]
          clear hW0
          go_wp2_with fail
          refine (HCK.out _ R0.out).mono ?_
          rintro e w1 ⟨rfl, hb1⟩
          obtain ⟨Q1, b1⟩ := HK.out _ hb1
          clear q0 q1 q2 q3 HCK
          obtain ⟨q0, q1, q2, q3⟩ := Q1.all4
          have A1 : Hid (Below W0.heap.size W0 w1) := hb1
          clear hb1 Q1 b1
          go_wp2_with fail
          obtain ⟨x, y, cw⟩ := CW.out w1
          refine cw.mono ?_
          rintro e w2 ⟨rfl, hb2⟩
          clear cw
          have A2 : Hid (Below W0.heap.size W0 w2) := A1.out.trans (hb2.mono A1.out.size)
          obtain ⟨Q2, b2⟩ := HK.out _ A2.out
          have B2 : Hid (Below w.heap.size w w2) := b2
          clear q0 q1 q2 q3
          obtain ⟨q0, q1, q2, q3⟩ := Q2.all4
          clear hb2 Q2 b2
          go_wp2_with fail
          go_ret
          exact ⟨by rw [HE.out]; rfl, B2.out⟩
        · by_cases hs2 : s ≥ n
          · have HE : Hid (jobE n es k s = 2) := jobE_src hf h1 (by omega)
            have t1 : (k == 1) = true := by simpa using h1
            clear hk h1
            generalize jobE n es k s = je at *
            clear hf
            go_enter Try.func44, Try.ntmps44
            go_upto_region 1 with fail
            rw [← hW0]
            clear hW0
            go_wp2_with fail
            refine (HCK.out _ R0.out).mono ?_
            rintro e w1 ⟨rfl, hb1⟩
            obtain ⟨Q1, b1⟩ := HK.out _ hb1
            clear q0 q1 q2 q3 HCK
            obtain ⟨q0, q1, q2, q3⟩ := Q1.all4
            have A1 : Hid (Below W0.heap.size W0 w1) := hb1
            clear hb1 Q1 b1
            go_wp2_with fail
            obtain ⟨x, y, cw⟩ := CW.out w1
            refine cw.mono ?_
            rintro e w2 ⟨rfl, hb2⟩
            clear cw
            have A2 : Hid (Below W0.heap.size W0 w2) := A1.out.trans (hb2.mono A1.out.size)
            obtain ⟨Q2, b2⟩ := HK.out _ A2.out
            have B2 : Hid (Below w.heap.size w w2) := b2
            clear q0 q1 q2 q3
            obtain ⟨q0, q1, q2, q3⟩ := Q2.all4
            clear hb2 Q2 b2
            go_wp2_with fail
            go_ret
            exact ⟨by rw [HE.out]; rfl, B2.out⟩
          · have HE : Hid (jobE n es k s = 0) := jobE_ok hf hk fun _ => ⟨by omega, by omega⟩
            have t1 : (k == 1) = true := by simpa using h1
            clear hk h1
            generalize jobE n es k s = je at *
            clear hf
            go_enter Try.func44, Try.ntmps44
            go_upto_region 1 with fail
            rw [← hW0]
            clear hW0
            go_wp2_with fail
            refine (HCK.out _ R0.out).mono ?_
            rintro e w1 ⟨rfl, hb1⟩
            obtain ⟨Q1, b1⟩ := HK.out _ hb1
            clear q0 q1 q2 q3 HCK
            obtain ⟨q0, q1, q2, q3⟩ := Q1.all4
            have A1 : Hid (Below W0.heap.size W0 w1) := hb1
            clear hb1 Q1 b1
            go_wp2_with fail
            obtain ⟨x, y, cw⟩ := CW.out w1
            refine cw.mono ?_
            rintro e w2 ⟨rfl, hb2⟩
            clear cw
            have A2 : Hid (Below W0.heap.size W0 w2) := A1.out.trans (hb2.mono A1.out.size)
            obtain ⟨Q2, b2⟩ := HK.out _ A2.out
            have B2 : Hid (Below w.heap.size w w2) := b2
            clear q0 q1 q2 q3
            obtain ⟨q0, q1, q2, q3⟩ := Q2.all4
            clear hb2 Q2 b2
            go_wp2_with fail
            go_ret
            exact ⟨by rw [HE.out]; rfl, B2.out⟩
      · have HE : Hid (jobE n es k s = 0) := jobE_ok hf hk fun g => absurd g h1
        have t1 : (k == 1) = false := by simpa using h1
        clear hk h1
        generalize jobE n es k s = je at *
        clear hf
        go_enter Try.func44, Try.ntmps44
        go_upto_region 1 with fail
        rw [← hW0]
        clear hW0
        go_wp2_with fail
        refine (HCK.out _ R0.out).mono ?_
        rintro e w1 ⟨rfl, hb1⟩
        obtain ⟨Q1, b1⟩ := HK.out _ hb1
        clear q0 q1 q2 q3 HCK
        obtain ⟨q0, q1, q2, q3⟩ := Q1.all4
        have A1 : Hid (Below W0.heap.size W0 w1) := hb1
        clear hb1 Q1 b1
        go_wp2_with fail
        obtain ⟨x, y, cw⟩ := CW.out w1
        refine cw.mono ?_
        rintro e w2 ⟨rfl, hb2⟩
        clear cw
        have A2 : Hid (Below W0.heap.size W0 w2) := A1.out.trans (hb2.mono A1.out.size)
        obtain ⟨Q2, b2⟩ := HK.out _ A2.out
        have B2 : Hid (Below w.heap.size w w2) := b2
        clear q0 q1 q2 q3
        obtain ⟨q0, q1, q2, q3⟩ := Q2.all4
        clear hb2 Q2 b2
        go_wp2_with fail
        go_ret
        exact ⟨by rw [HE.out]; rfl, B2.out⟩
    · have HE : Hid (jobE n es k s = 3) := jobE_kind hf hk
      have CW : Hid (∀ X, Calls Try.prog 65 #[.int .i64 k, .int .i64 0] X fun e w' => e = .returned (.tuple #[.bool false, .bool false, .int .i64 3]) ∧ Below X.heap.size X w') := fun X => waysP_none ⟨by omega, by omega, by omega, by omega⟩ X
      clear hk
      generalize jobE n es k s = je at *
      clear hf
      go_enter Try.func44, Try.ntmps44
      go_upto_region 1 with fail
      rw [← hW0]
      clear hW0
      go_wp2_with fail
      refine (HCK.out _ R0.out).mono ?_
      rintro e w1 ⟨rfl, hb1⟩
      obtain ⟨Q1, b1⟩ := HK.out _ hb1
      clear q0 q1 q2 q3 HCK
      obtain ⟨q0, q1, q2, q3⟩ := Q1.all4
      have A1 : Hid (Below W0.heap.size W0 w1) := hb1
      clear hb1 Q1 b1
      go_wp2_with fail
      refine (CW.out w1).mono ?_
      rintro e w2 ⟨rfl, hb2⟩
      have A2 : Hid (Below W0.heap.size W0 w2) := A1.out.trans (hb2.mono A1.out.size)
      obtain ⟨Q2, b2⟩ := HK.out _ A2.out
      have B2 : Hid (Below w.heap.size w w2) := b2
      clear q0 q1 q2 q3
      obtain ⟨q0, q1, q2, q3⟩ := Q2.all4
      clear hb2 Q2 b2
      go_wp2_with fail
      go_ret
      exact ⟨by rw [HE.out]; rfl, B2.out⟩
  · have HE : Hid (jobE n es k s = faultE n es) := jobE_bad hf
    generalize jobE n es k s = je at *
    generalize faultE n es = fe at *
    have t0 : (fe != 0) = true := by simpa using hf
    clear hf
    go_enter Try.func44, Try.ntmps44
    go_upto_region 1 with fail
    rw [← hW0]
    clear hW0
    go_wp2_with fail
    refine (HCK.out _ R0.out).mono ?_
    rintro e w1 ⟨rfl, hb1⟩
    have B1 : Hid (Below w.heap.size w w1) := (HK.out _ hb1).2
    clear hb1 q0 q1 q2 q3 HCK
    go_wp2_with fail
    go_ret
    exact ⟨by rw [HE.out]; rfl, B1.out⟩
end Go.Proofs.Ytbmkgnlfccigpaa

namespace Go.Proofs.Ytbmkgnlfccigpaa
set_option maxRecDepth 100000
open Go.ChangeShapes Go.WideShapes Go.ChangeAt Go.RowKit

set_option maxHeartbeats 2000000 in
set_option maxRecDepth 100000 in
theorem rBegin_any (v : Value) (es : List Ed) (n k s : Int) (w : World) (h : EdR w v es) :
    Calls Try.prog 22 #[.agg #[.int .i64 n, v, .int .i64 k, .int .i64 s]] w (StaP w (begE n es k s)) := by
  have HR : Hid (EdR w v es) := h
  obtain ⟨a, cap, rfl, _, _, _, _⟩ := h
  have HCK : Hid (∀ X, EdR X (.slice a es.length cap) es → Calls Try.prog 44 #[.agg #[.int .i64 n, .slice a es.length cap, .int .i64 k, .int .i64 s]] X fun e w' => e = .returned (.int .i64 (jobE n es k s)) ∧ Below X.heap.size X w') := fun X hX => rCheck_any _ es n k s X hX
  obtain ⟨W0, hW0⟩ : ∃ W0, W0 = (w.alloc (.cells #[.int .i64 n, .slice a es.length cap, .int .i64 k, .int .i64 s] 26)).alloc (.cells #[.int .i64 0, .int .i64 0, .bool false, .bool false, .slice none 0 0, .slice none 0 0] 30) := ⟨_, rfl⟩
  obtain ⟨Q0, T0, B0, s1, s2⟩ := boxes2 w #[.int .i64 n, .slice a es.length cap, .int .i64 k, .int .i64 s] #[.int .i64 0, .int .i64 0, .bool false, .bool false, .slice none 0 0, .slice none 0 0] 26 30 W0 hW0
  have BH : Hid (Below w.heap.size w W0) := B0
  have HK : Hid (∀ X, Below W0.heap.size W0 X → BX 26 X w.heap.size #[.int .i64 n, .slice a es.length cap, .int .i64 k, .int .i64 s] ∧ BX 30 X (w.heap.size + 1) #[.int .i64 0, .int .i64 0, .bool false, .bool false, .slice none 0 0, .slice none 0 0] ∧ Below w.heap.size w X) := fun X hX => ⟨Q0.below hX (by omega), T0.below hX (by omega), BH.out.trans (hX.mono (by omega))⟩
  have R0 : Hid (EdR W0 (.slice a es.length cap) es) := HR.out.below BH.out (Nat.le_refl _)
  obtain ⟨q0, q1, q2, q3⟩ := Q0.all4
  clear Q0 T0 B0
  by_cases hj : jobE n es k s = 0
  · obtain ⟨hf, _, _⟩ := jobE_zero hj
    obtain ⟨hn0, hn1, _, _⟩ := fault_ok hf
    obtain ⟨m, rfl⟩ : ∃ m : Nat, n = m := ⟨n.toNat, by omega⟩
    have HCF : Hid (∀ X, Calls Try.prog 45 #[.int .i64 m] X (StoP X (beginS m))) := fun X => first_any m X (by omega)
    have HE : Hid (begE m es k s = (0, beginS m)) := by show begE m es k s = _; unfold begE; rw [if_pos hj, Int.toNat_natCast]
    rw [hj] at HCK
    generalize begE m es k s = R at *
    generalize beginS m = T at *
    obtain ⟨step, phase, fr, dn, vs, ms⟩ := T
    clear hf hj
    go_enter Try.func22, Try.ntmps22
    go_upto_region 1 with fail
    rw [← hW0]
    clear hW0
    go_wp2_with fail
    refine (HCK.out _ R0.out).mono ?_
    rintro e w1 ⟨rfl, hb1⟩
    have A1 : Hid (Below W0.heap.size W0 w1) := hb1
    clear q0 q1 q2 q3 HCK hb1
    obtain ⟨Q1, _, _⟩ := HK.out _ A1.out
    obtain ⟨q0, q1, q2, q3⟩ := Q1.all4
    have hs1 := A1.out.size
    clear Q1
    go_wp2_with fail
    refine (HCF.out _).mono ?_
    rintro e w2 ⟨v1, v2, rfl, hv1, hv2, hb2⟩
    simp only at hv1 hv2 ⊢
    have A2 : Hid (Below W0.heap.size W0 w2) := A1.out.trans (hb2.mono hs1)
    obtain ⟨_, Z2, hbw⟩ := HK.out _ A2.out
    have HP : Hid (StaP w R (.returned (.tuple #[.agg #[.int .i64 step, .int .i64 phase, .bool fr, .bool dn, v1, v2], .int .i64 0])) (put6 w2 (w.heap.size + 1) (.int .i64 step) (.int .i64 phase) (.bool fr) (.bool dn) v1 v2)) := by
      show StaP _ _ _ _
      rw [HE.out]
      exact StaP.yes (t := ⟨step, phase, fr, dn, vs, ms⟩) (own_lower (own_off hv1 Z2 (by decide) (kept_put6 w2 (w.heap.size + 1) _ _ _ _ _ _)) (by omega)) ((hv2.off Z2 (by decide) (by decide) (kept_put6 w2 (w.heap.size + 1) _ _ _ _ _ _)).lower (by omega)) (below_put6 hbw (by omega) Z2.lt _ _ _ _ _ _)
    have RX : Hid (BX 30 (put6 w2 (w.heap.size + 1) (.int .i64 step) (.int .i64 phase) (.bool fr) (.bool dn) v1 v2) (w.heap.size + 1) #[.int .i64 step, .int .i64 phase, .bool fr, .bool dn, v1, v2]) := Z2.put6
    obtain ⟨a1, n1, k1, rfl⟩ : ∃ a n c, v1 = .slice a n c := by
      rcases own_shapeK hv1 with ⟨e, _⟩ | ⟨g', c', e, _⟩
      · exact ⟨_, _, _, e⟩
      · exact ⟨_, _, _, e⟩
    obtain ⟨a2, k2, rfl⟩ := hv2.shape
    obtain ⟨⟨d0, d1, d2, d3, d4, d5⟩, e0, e1, e2, e3, e4, e5⟩ := Z2.all6
    clear q0 q1 q2 q3 hv1 hv2 hb2 Z2 hbw
    go_wp2_with fail
    obtain ⟨⟨r0, r1, r2, r3, r4, r5⟩, _⟩ := RX.out.all6
    unfold put6 at r0 r1 r2 r3 r4 r5
    exact bodyPost_ret (v := .tuple #[.agg #[.int .i64 step, .int .i64 phase, .bool fr, .bool dn, .slice a1 n1 k1, .slice a2 ms.length k2], .int .i64 0]) (by simp [results, Try.results22, go_sem, r0, r1, r2, r3, r4, r5]) rfl HP.out
  · have HE : Hid (begE n es k s = (jobE n es k s, st0)) := by show begE n es k s = _; unfold begE; rw [if_neg hj]
    generalize begE n es k s = R at *
    generalize jobE n es k s = je at *
    have t0 : (je != 0) = true := by simpa using hj
    clear hj
    go_enter Try.func22, Try.ntmps22
    go_upto_region 1 with fail
    rw [← hW0]
    clear hW0
    go_wp2_with fail
    refine (HCK.out _ R0.out).mono ?_
    rintro e w1 ⟨rfl, hb1⟩
    obtain ⟨_, Z2, hbw⟩ := HK.out _ hb1
    have HP : Hid (StaP w R (.returned (.tuple #[.agg #[.int .i64 0, .int .i64 0, .bool false, .bool false, .slice none 0 0, .slice none 0 0], .int .i64 je])) (put6 w1 (w.heap.size + 1) (.int .i64 0) (.int .i64 0) (.bool false) (.bool false) (.slice none 0 0) (.slice none 0 0))) := by
      show StaP _ _ _ _
      rw [HE.out]
      exact StaP.no (below_put6 hbw (by omega) Z2.lt _ _ _ _ _ _)
    have RX : Hid (BX 30 (put6 w1 (w.heap.size + 1) (.int .i64 0) (.int .i64 0) (.bool false) (.bool false) (.slice none 0 0) (.slice none 0 0)) (w.heap.size + 1) #[.int .i64 0, .int .i64 0, .bool false, .bool false, .slice none 0 0, .slice none 0 0]) := Z2.put6
    obtain ⟨⟨d0, d1, d2, d3, d4, d5⟩, e0, e1, e2, e3, e4, e5⟩ := Z2.all6
    clear hb1 q0 q1 q2 q3 HCK Z2 hbw
    go_wp2_with fail
    obtain ⟨⟨r0, r1, r2, r3, r4, r5⟩, _⟩ := RX.out.all6
    unfold put6 at r0 r1 r2 r3 r4 r5
    exact bodyPost_ret (v := .tuple #[.agg #[.int .i64 0, .int .i64 0, .bool false, .bool false, .slice none 0 0, .slice none 0 0], .int .i64 je]) (by simp [results, Try.results22, go_sem, r0, r1, r2, r3, r4, r5]) rfl HP.out
end Go.Proofs.Ytbmkgnlfccigpaa

namespace Go.Proofs.Ytbmkgnlfccigpaa
set_option maxRecDepth 100000

/-- P13.6. -/
def ranE (n : Int) (es : List Ed) (k s : Int) : Int × StS := if jobE n es k s = 0 then runE n.toNat es k s 100001 (0, beginS n.toNat) else (jobE n es k s, st0)
section
variable {n : Nat} {es : List Ed} {k s : Int} {t : StS}
theorem begin_may (hk : 1 ≤ k ∧ k ≤ 3) (n : Nat) : mayR n k (beginS n) = true := by
  rcases (show k = 1 ∨ k = 2 ∨ k = 3 by omega) with rfl | rfl | rfl
  · exact mayR_iff.2 ⟨_, rfl, MayI.begin n (false, false)⟩
  · exact mayR_iff.2 ⟨_, rfl, MayI.begin n (false, true)⟩
  · exact mayR_iff.2 ⟨_, rfl, MayI.begin n (true, false)⟩
theorem next_may (hn : n ≤ 200) (hg : InG n es) (hl : es.length ≤ 600) (hm : mayR n k t = true) (hd : t.done = false) (h0 : (nextE n es k s t).1 = 0) : mayR n k (nextE n es k s t).2 = true ∧ (nextE n es k s t).2.step = t.step + 1 := by
  obtain ⟨j, hj, hI⟩ := mayR_iff.1 hm
  unfold nextE at h0 ⊢
  rw [if_pos hm, if_neg (by simp [hd])] at h0 ⊢
  by_cases hs : 100000 ≤ t.step
  · rw [if_pos hs] at h0; cases h0
  · rw [if_neg hs, hj] at h0 ⊢
    simp only at h0 ⊢
    by_cases ho : overR j (rndV j s t) es = true
    · rw [if_pos ho] at h0; cases h0
    · rw [if_neg ho]
      refine ⟨?_, (behR_step j t.step t.phase _ _).1⟩
      have h2 := MayI.next hI hj hn hg hl (by omega) (by simpa using ho)
      exact mayR_iff.2 h2
theorem next_step (hm : mayR n k t = true) (hd : t.done = false) (h0 : (nextE n es k s t).1 = 0) : t.step < 100000 := by
  unfold nextE at h0
  rw [if_pos hm, if_neg (by simp [hd])] at h0
  by_cases hs : 100000 ≤ t.step
  · rw [if_pos hs] at h0; cases h0
  · omega
theorem may_step (hm : mayR n k t = true) : t.step ≤ 100000 := by
  obtain ⟨j, hj, hI⟩ := mayR_iff.1 hm
  exact hI.stp.2
theorem run_go (f : Nat) {r : Int × StS} (h : r.1 = 0) (hd : r.2.done = false) : runE n es k s (f + 1) r = runE n es k s f (nextE n es k s r.2) := by
  show (if r.1 = 0 ∧ r.2.done = false then _ else _) = _
  rw [if_pos ⟨h, hd⟩]
theorem run_end (f : Nat) {r : Int × StS} (h : ¬ (r.1 = 0 ∧ r.2.done = false)) : runE n es k s f r = r := by
  cases f with
  | zero => rfl
  | succ f => show (if r.1 = 0 ∧ r.2.done = false then _ else _) = _; rw [if_neg h]
/-- What holds all along: so many rounds are left. -/
def RanI (n : Nat) (es : List Ed) (k s : Int) (R : Int × StS) (f : Nat) (r : Int × StS) : Prop := runE n es k s f r = R ∧ (r.1 = 0 → mayR n k r.2 = true ∧ 100001 ≤ (f : Int) + r.2.step)
theorem RanI.pos {R r : Int × StS} {f : Nat} (h : RanI n es k s R f r) (h0 : r.1 = 0) : ∃ f', f = f' + 1 := by
  obtain ⟨h1, h2⟩ := h.2 h0
  have := may_step h1
  exact ⟨f - 1, by omega⟩
theorem RanI.go (hn : n ≤ 200) (hg : InG n es) (hl : es.length ≤ 600) {R r : Int × StS} {f : Nat} (h : RanI n es k s R (f + 1) r) (h0 : r.1 = 0) (hd : r.2.done = false) : RanI n es k s R f (nextE n es k s r.2) := by
  obtain ⟨h1, h2⟩ := h.2 h0
  refine ⟨by rw [← run_go f h0 hd]; exact h.1, fun h3 => ?_⟩
  obtain ⟨h4, h5⟩ := next_may hn hg hl h1 hd h3
  exact ⟨h4, by rw [h5]; omega⟩
theorem RanI.out {R r : Int × StS} {f : Nat} (h : RanI n es k s R f r) (h0 : ¬ (r.1 = 0 ∧ r.2.done = false)) : R = r := by
  rw [← h.1]; exact run_end f h0
end
theorem RanI.start {n k s : Int} {es : List Ed} {m : Nat} (hm : n = m) (h : jobE n es k s = 0) : RanI m es k s (ranE n es k s) 100001 (0, beginS m) := by
  subst hm
  refine ⟨?_, fun _ => ⟨begin_may (jobE_zero h).2.1 m, by show (100001 : Int) ≤ ((100001 : Nat) : Int) + 0; omega⟩⟩
  unfold ranE
  rw [if_pos h, Int.toNat_natCast]
end Go.Proofs.Ytbmkgnlfccigpaa

namespace Go.Proofs.Ytbmkgnlfccigpaa
set_option maxRecDepth 100000
open Go.ChangeShapes Go.WideShapes Go.ChangeAt Go.RowKit

set_option maxHeartbeats 4000000 in
set_option maxRecDepth 100000 in
theorem rRun_any (v : Value) (es : List Ed) (n k s : Int) (w : World) (h : EdR w v es) :
    Calls Try.prog 13 #[.agg #[.int .i64 n, v, .int .i64 k, .int .i64 s]] w (StaP w (ranE n es k s)) := by
  have HR : Hid (EdR w v es) := h
  obtain ⟨a, cap, rfl, _, _, _, _⟩ := h
  have CB : Hid (∀ X, EdR X (.slice a es.length cap) es → Calls Try.prog 22 #[.agg #[.int .i64 n, .slice a es.length cap, .int .i64 k, .int .i64 s]] X (StaP X (begE n es k s))) := fun X hX => rBegin_any _ es n k s X hX
  have CA : Hid (∀ X (T : StS) vv vm, jobE n es k s = 0 → mayR n.toNat k T = true → EdR X (.slice a es.length cap) es → MlR X vv T.vals → LiR X vm T.mail → Calls Try.prog 26 #[.agg #[.int .i64 n, .slice a es.length cap, .int .i64 k, .int .i64 s], .agg #[.int .i64 T.step, .int .i64 T.phase, .bool T.fresh, .bool T.done, vv, vm]] X (StaP X (nextE n.toNat es k s T))) := fun X T vv vm hj hm h1 h2 h3 => by
    have := after_any _ es n k s T vv vm X h1 h2 h3 hj hm
    unfold folE at this
    rw [if_neg (by simp [hj])] at this
    exact this
  have HST : Hid (jobE n es k s = 0 → RanI n.toNat es k s (ranE n es k s) 100001 (0, beginS n.toNat) ∧ begE n es k s = (0, beginS n.toNat)) := fun hj => ⟨RanI.start (by have := fault_ok (jobE_zero hj).1; omega) hj, by unfold begE; rw [if_pos hj]⟩
  have HNO : Hid (jobE n es k s ≠ 0 → ranE n es k s = begE n es k s ∧ begE n es k s = (jobE n es k s, st0)) := fun hj => ⟨by unfold begE ranE; rw [if_neg hj, if_neg hj], by unfold begE; rw [if_neg hj]⟩
  have HGO : Hid (jobE n es k s = 0 → ∀ (R r : Int × StS) (f : Nat), RanI n.toNat es k s R (f + 1) r → r.1 = 0 → r.2.done = false → RanI n.toNat es k s R f (nextE n.toNat es k s r.2)) := fun hj R r f h1 h2 h3 => by
    have h5 := fault_ok (jobE_zero hj).1
    refine RanI.go (by omega) (fun e he => ?_) h5.2.2.1 h1 h2 h3
    have := in_of_out (h5.2.2.2 e he)
    omega
  generalize ranE n es k s = R at *
  obtain ⟨W0, hW0⟩ : ∃ W0, W0 = (w.alloc (.cells #[.int .i64 n, .slice a es.length cap, .int .i64 k, .int .i64 s] 26)).alloc (.cells #[.int .i64 0, .int .i64 0, .bool false, .bool false, .slice none 0 0, .slice none 0 0] 30) := ⟨_, rfl⟩
  obtain ⟨Q0, T0, B0, s1, s2⟩ := boxes2 w #[.int .i64 n, .slice a es.length cap, .int .i64 k, .int .i64 s] #[.int .i64 0, .int .i64 0, .bool false, .bool false, .slice none 0 0, .slice none 0 0] 26 30 W0 hW0
  have BH : Hid (Below w.heap.size w W0) := B0
  have HK : Hid (∀ X, Below W0.heap.size W0 X → BX 26 X w.heap.size #[.int .i64 n, .slice a es.length cap, .int .i64 k, .int .i64 s] ∧ BX 30 X (w.heap.size + 1) #[.int .i64 0, .int .i64 0, .bool false, .bool false, .slice none 0 0, .slice none 0 0] ∧ Below w.heap.size w X) := fun X hX => ⟨Q0.below hX (by omega), T0.below hX (by omega), BH.out.trans (hX.mono (by omega))⟩
  have R0 : Hid (∀ X, Below W0.heap.size W0 X → EdR X (.slice a es.length cap) es) := fun X hX => HR.out.below (HK.out _ hX).2.2 (Nat.le_refl _)
  have A0 : Hid (Below W0.heap.size W0 W0) := Below.refl _ _
  obtain ⟨q0, q1, q2, q3⟩ := Q0.all4
  have HS1 : Hid (RanI n.toNat es k s R 100001 (begE n es k s)) := by
    by_cases hj : jobE n es k s = 0
    · obtain ⟨h1, h2⟩ := HST.out hj
      show RanI _ _ _ _ _ _ _
      rw [h2]; exact h1
    · obtain ⟨h1, h2⟩ := HNO.out hj
      exact ⟨by rw [h1]; exact run_end _ (fun g => by rw [h2] at g; exact hj g.1), fun h3 => by rw [h2] at h3; exact absurd h3 hj⟩
  have HJ0 : Hid ((begE n es k s).1 = 0 → jobE n es k s = 0) := fun h => by
    by_cases hj : jobE n es k s = 0
    · exact hj
    · rw [(HNO.out hj).2] at h; exact h
  clear Q0 T0 B0 HST HNO
  obtain ⟨RB, hRB⟩ : ∃ RB, begE n es k s = RB := ⟨_, rfl⟩
  rw [hRB] at CB HS1 HJ0
  clear hRB
  go_enter Try.func13, Try.ntmps13
  go_upto_region 1 with fail
  rw [← hW0]
  clear hW0
  go_wp2_with fail
  refine (CB.out _ (R0.out _ A0.out)).mono ?_
  rintro e w1 ⟨v1, v2, rfl, hv1, hv2, hb1⟩
  obtain ⟨a1, n1, k1, rfl⟩ : ∃ a n c, v1 = .slice a n c := by
    rcases own_shapeK hv1 with ⟨e, _⟩ | ⟨g', c', e, _⟩
    · exact ⟨_, _, _, e⟩
    · exact ⟨_, _, _, e⟩
  obtain ⟨a2, k2, rfl⟩ := hv2.shape
  generalize hn2 : RB.2.mail.length = n2 at *
  have W1 : Hid (Below W0.heap.size W0 (w1.alloc (.cells #[.int .i64 RB.2.step, .int .i64 RB.2.phase, .bool RB.2.fresh, .bool RB.2.done, .slice a1 n1 k1, .slice a2 n2 k2] 30)) ∧ BX 30 (w1.alloc (.cells #[.int .i64 RB.2.step, .int .i64 RB.2.phase, .bool RB.2.fresh, .bool RB.2.done, .slice a1 n1 k1, .slice a2 n2 k2] 30)) w1.heap.size #[.int .i64 RB.2.step, .int .i64 RB.2.phase, .bool RB.2.fresh, .bool RB.2.done, .slice a1 n1 k1, .slice a2 n2 k2] ∧ (w1.alloc (.cells #[.int .i64 RB.2.step, .int .i64 RB.2.phase, .bool RB.2.fresh, .bool RB.2.done, .slice a1 n1 k1, .slice a2 n2 k2] 30)).ownsRow W0.heap.size 59 2 (.slice a1 n1 k1) RB.2.vals.length (RB.2.vals.flatMap encM) ∧ OwnLi (w1.alloc (.cells #[.int .i64 RB.2.step, .int .i64 RB.2.phase, .bool RB.2.fresh, .bool RB.2.done, .slice a1 n1 k1, .slice a2 n2 k2] 30)) W0.heap.size (.slice a2 n2 k2) RB.2.mail ∧ W0.heap.size ≤ w1.heap.size) := ⟨hb1.alloc hb1.size _, BX.new _ _ _, hv1.alloc _, hv2.below (below_alloc _ _) (Nat.le_refl _), hb1.size⟩
  clear q0 q1 q2 q3 hv1 hv2 hb1 CB hn2
  go_upto_region 2 with fail
  generalize w1.alloc (.cells #[.int .i64 RB.2.step, .int .i64 RB.2.phase, .bool RB.2.fresh, .bool RB.2.done, .slice a1 n1 k1, .slice a2 n2 k2] 30) = w2 at *
  generalize w1.heap.size = b4 at *
  obtain ⟨A2', X2', V2', M2', hb4⟩ := W1.out
  have W2 : Hid (Below W0.heap.size W0 w2 ∧ BX 30 w2 b4 #[.int .i64 RB.2.step, .int .i64 RB.2.phase, .bool RB.2.fresh, .bool RB.2.done, .slice a1 n1 k1, .slice a2 n2 k2] ∧ w2.ownsRow W0.heap.size 59 2 (.slice a1 n1 k1) RB.2.vals.length (RB.2.vals.flatMap encM) ∧ OwnLi w2 W0.heap.size (.slice a2 n2 k2) RB.2.mail) := ⟨A2', X2', V2', M2'⟩
  clear A2' X2' V2' M2' W1
  go_wp2_with fail
  go_loopg [5] 100001 (fun gk t wr => ∃ (r : Int × StS) (vv vm : Value), t = .int .i64 r.1 ∧ (∃ a n c, vv = .slice a n c) ∧ (∃ a n c, vm = .slice a n c) ∧ gk ≤ 100001 ∧ RanI n.toNat es k s R gk r ∧ (r.1 = 0 → jobE n es k s = 0) ∧ BX 30 wr b4 #[.int .i64 r.2.step, .int .i64 r.2.phase, .bool r.2.fresh, .bool r.2.done, vv, vm] ∧ wr.ownsRow W0.heap.size 59 2 vv r.2.vals.length (r.2.vals.flatMap encM) ∧ OwnLi wr W0.heap.size vm r.2.mail ∧ Below W0.heap.size W0 wr)
  case atStart =>
    obtain ⟨A2, X2, V2, M2⟩ := W2.out
    refine ⟨RB, _, _, rfl, ⟨_, _, _, rfl⟩, ⟨_, _, _, rfl⟩, Nat.le_refl _, ?_, HJ0.out, X2, V2, M2, A2⟩
    exact HS1.out
  case round =>
    obtain ⟨r, vv, vm, rfl, ⟨x1, x2, x3, rfl⟩, ⟨y1, y2, y3, rfl⟩, hgk, hri, hj0, hx, hov, hom, hbel⟩ := hrel
    have RI : Hid (RanI n.toNat es k s R gk r) := hri
    have J0 : Hid (r.1 = 0 → jobE n es k s = 0) := hj0
    have AB : Hid (Below W0.heap.size W0 wr) := hbel
    have XB : Hid (BX 30 wr b4 #[.int .i64 r.2.step, .int .i64 r.2.phase, .bool r.2.fresh, .bool r.2.done, .slice x1 x2 x3, .slice y1 y2 y3]) := hx
    have OV : Hid (wr.ownsRow W0.heap.size 59 2 (.slice x1 x2 x3) r.2.vals.length (r.2.vals.flatMap encM)) := hov
    have OM : Hid (OwnLi wr W0.heap.size (.slice y1 y2 y3) r.2.mail) := hom
    obtain ⟨Q1, Z1, hbw⟩ := HK.out _ hbel
    obtain ⟨q0, q1, q2, q3⟩ := Q1.all4
    obtain ⟨⟨c0, c1, c2, c3, c4, c5⟩, f0, f1, f2, f3, f4, f5⟩ := hx.all6
    obtain ⟨⟨d0, d1, d2, d3, d4, d5⟩, e0, e1, e2, e3, e4, e5⟩ := Z1.all6
    have BW : Hid (Below w.heap.size w wr) := hbw
    have ZZ : Hid (BX 30 wr (w.heap.size + 1) #[.int .i64 0, .int .i64 0, .bool false, .bool false, .slice none 0 0, .slice none 0 0]) := Z1
    have hsr := hbel.size
    clear hri hj0 hx hov hom hbel Q1 Z1 hbw
    by_cases hgo : r.1 = 0 ∧ r.2.done = false
    · have hj := J0.out hgo.1
      obtain ⟨f, rfl⟩ := RI.out.pos hgo.1
      have RI2 : Hid (RanI n.toNat es k s R f (nextE n.toNat es k s r.2)) := HGO.out hj R r f RI.out hgo.1 hgo.2
      have HMY := (RI.out.2 hgo.1).1
      have CA1 : Hid (∀ X, EdR X (.slice a es.length cap) es → MlR X (.slice x1 x2 x3) r.2.vals → LiR X (.slice y1 y2 y3) r.2.mail → _) := fun X h1 h2 h3 => CA.out X r.2 _ _ hj HMY h1 h2 h3
      have MV : Hid (MlR wr (.slice x1 x2 x3) r.2.vals) := RowK.own encM_len OV.out
      have MM : Hid (LiR wr (.slice y1 y2 y3) r.2.mail) := OM.out.reads
      have HJX : Hid (jobE n es k s = 0) := hj
      generalize nextE n.toNat es k s r.2 = N at *
      have t0 : (r.1 == 0) = true := by simpa using hgo.1
      rw [hgo.2] at c3 CA1
      clear hj HMY hgo RI OV OM CA HGO
      go_wp2_with fail
      refine (CA1.out _ (R0.out _ AB.out) MV.out MM.out).mono ?_
      rintro e w3 ⟨v1, v2, rfl, hv1, hv2, hb3⟩
      obtain ⟨a5, n5, k5, rfl⟩ : ∃ a n c, v1 = .slice a n c := by
        rcases own_shapeK hv1 with ⟨e, _⟩ | ⟨g', c', e, _⟩
        · exact ⟨_, _, _, e⟩
        · exact ⟨_, _, _, e⟩
      obtain ⟨a6, k6, rfl⟩ := hv2.shape
      generalize hn6 : N.2.mail.length = n6 at *
      have A3 : Below W0.heap.size W0 w3 := AB.out.trans (hb3.mono hsr)
      have X3 := XB.out.below hb3 XB.out.lt
      have XN : Hid (BX 30 (put6 w3 b4 (.int .i64 N.2.step) (.int .i64 N.2.phase) (.bool N.2.fresh) (.bool N.2.done) (.slice a5 n5 k5) (.slice a6 n6 k6)) b4 #[.int .i64 N.2.step, .int .i64 N.2.phase, .bool N.2.fresh, .bool N.2.done, .slice a5 n5 k5, .slice a6 n6 k6]) := X3.put6
      have VN : Hid ((put6 w3 b4 (.int .i64 N.2.step) (.int .i64 N.2.phase) (.bool N.2.fresh) (.bool N.2.done) (.slice a5 n5 k5) (.slice a6 n6 k6)).ownsRow W0.heap.size 59 2 (.slice a5 n5 k5) N.2.vals.length (N.2.vals.flatMap encM)) := own_lower (own_off hv1 X3 (by decide) (kept_put6 w3 b4 _ _ _ _ _ _)) hsr
      have MN : Hid (OwnLi (put6 w3 b4 (.int .i64 N.2.step) (.int .i64 N.2.phase) (.bool N.2.fresh) (.bool N.2.done) (.slice a5 n5 k5) (.slice a6 n6 k6)) W0.heap.size (.slice a6 n6 k6) N.2.mail) := (hv2.off X3 (by decide) (by decide) (kept_put6 w3 b4 _ _ _ _ _ _)).lower hsr
      have AN : Hid (Below W0.heap.size W0 (put6 w3 b4 (.int .i64 N.2.step) (.int .i64 N.2.phase) (.bool N.2.fresh) (.bool N.2.done) (.slice a5 n5 k5) (.slice a6 n6 k6))) := below_put6 A3 hb4 X3.lt _ _ _ _ _ _
      clear q0 q1 q2 q3 c0 c1 c2 c3 c4 c5 f0 f1 f2 f3 f4 f5 d0 d1 d2 d3 d4 d5 e0 e1 e2 e3 e4 e5 hn6 hv1 hv2
      obtain ⟨⟨c0, c1, c2, c3, c4, c5⟩, f0, f1, f2, f3, f4, f5⟩ := X3.all6
      clear X3 A3 hb3
      unfold put6 at XN VN MN AN
      go_wp2_with fail
      go_roundg f
      case measure => omega
      case rel => exact ⟨N, _, _, rfl, ⟨_, _, _, rfl⟩, ⟨_, _, _, rfl⟩, by omega, RI2.out, fun _ => HJX.out, XN.out, VN.out, MN.out, AN.out⟩
    · have HRE : Hid (R = r) := RI.out.out hgo
      have z2 := ZZ.out
      have RX : Hid (BX 30 (put6 wr (w.heap.size + 1) (.int .i64 r.2.step) (.int .i64 r.2.phase) (.bool r.2.fresh) (.bool r.2.done) (.slice x1 x2 x3) (.slice y1 y2 y3)) (w.heap.size + 1) #[.int .i64 r.2.step, .int .i64 r.2.phase, .bool r.2.fresh, .bool r.2.done, .slice x1 x2 x3, .slice y1 y2 y3]) := z2.put6
      have HP : Hid (StaP w R (.returned (.tuple #[.agg #[.int .i64 r.2.step, .int .i64 r.2.phase, .bool r.2.fresh, .bool r.2.done, .slice x1 x2 x3, .slice y1 y2 y3], .int .i64 r.1])) (put6 wr (w.heap.size + 1) (.int .i64 r.2.step) (.int .i64 r.2.phase) (.bool r.2.fresh) (.bool r.2.done) (.slice x1 x2 x3) (.slice y1 y2 y3))) := by
        show StaP _ _ _ _
        rw [HRE.out]
        exact ⟨_, _, rfl, own_lower (own_off OV.out z2 (by decide) (kept_put6 wr (w.heap.size + 1) _ _ _ _ _ _)) (by omega), (OM.out.off z2 (by decide) (by decide) (kept_put6 wr (w.heap.size + 1) _ _ _ _ _ _)).lower (by omega), below_put6 BW.out (by omega) z2.lt _ _ _ _ _ _⟩
      clear z2
      by_cases h1 : r.1 = 0
      · have t0 : (r.1 == 0) = true := by simpa using h1
        have hd : r.2.done = true := by
          cases hdn : r.2.done
          · exact absurd ⟨h1, hdn⟩ hgo
          · rfl
        rw [hd] at c3 RX HP
        clear hgo h1 hd CA HGO
        go_wp2_with fail
        obtain ⟨⟨r0, r1, r2, r3, r4, r5⟩, _⟩ := RX.out.all6
        unfold put6 at r0 r1 r2 r3 r4 r5
        exact bodyPost_ret (v := .tuple #[.agg #[.int .i64 r.2.step, .int .i64 r.2.phase, .bool r.2.fresh, .bool true, .slice x1 x2 x3, .slice y1 y2 y3], .int .i64 r.1]) (by simp [results, Try.results13, go_sem, r0, r1, r2, r3, r4, r5]) rfl HP.out
      · have t0 : (r.1 == 0) = false := by simpa using h1
        clear hgo h1 CA HGO
        go_wp2_with fail
        obtain ⟨⟨r0, r1, r2, r3, r4, r5⟩, _⟩ := RX.out.all6
        unfold put6 at r0 r1 r2 r3 r4 r5
        exact bodyPost_ret (v := .tuple #[.agg #[.int .i64 r.2.step, .int .i64 r.2.phase, .bool r.2.fresh, .bool r.2.done, .slice x1 x2 x3, .slice y1 y2 y3], .int .i64 r.1]) (by simp [results, Try.results13, go_sem, r0, r1, r2, r3, r4, r5]) rfl HP.out
end Go.Proofs.Ytbmkgnlfccigpaa

namespace Go.Proofs.Ytbmkgnlfccigpaa
set_option maxRecDepth 100000
open Go.ChangeShapes Go.WideShapes Go.ChangeAt Go.RowKit

set_option maxHeartbeats 2000000 in
set_option maxRecDepth 100000 in
theorem begun_any (v : Value) (es : List Ed) (n k s : Int) (w : World) (h : EdR w v es) :
    Calls Try.prog 36 #[.agg #[.int .i64 n, v, .int .i64 k, .int .i64 s]] w (StaP w (begE n es k s)) := by
  have HR : Hid (EdR w v es) := h
  obtain ⟨a, cap, rfl, _, _, _, _⟩ := h
  have HCK : Hid (∀ X, EdR X (.slice a es.length cap) es → Calls Try.prog 28 #[.agg #[.int .i64 n, .slice a es.length cap, .int .i64 k, .int .i64 s]] X fun e w' => e = .returned (.int .i64 (jobE n es k s)) ∧ Below X.heap.size X w') := fun X hX => jobFault_any _ es n k s X hX
  obtain ⟨W0, hW0⟩ : ∃ W0, W0 = (w.alloc (.cells #[.int .i64 n, .slice a es.length cap, .int .i64 k, .int .i64 s] 26)).alloc (.cells #[.int .i64 0, .int .i64 0, .bool false, .bool false, .slice none 0 0, .slice none 0 0] 30) := ⟨_, rfl⟩
  obtain ⟨Q0, T0, B0, s1, s2⟩ := boxes2 w #[.int .i64 n, .slice a es.length cap, .int .i64 k, .int .i64 s] #[.int .i64 0, .int .i64 0, .bool false, .bool false, .slice none 0 0, .slice none 0 0] 26 30 W0 hW0
  have BH : Hid (Below w.heap.size w W0) := B0
  have HK : Hid (∀ X, Below W0.heap.size W0 X → BX 26 X w.heap.size #[.int .i64 n, .slice a es.length cap, .int .i64 k, .int .i64 s] ∧ BX 30 X (w.heap.size + 1) #[.int .i64 0, .int .i64 0, .bool false, .bool false, .slice none 0 0, .slice none 0 0] ∧ Below w.heap.size w X) := fun X hX => ⟨Q0.below hX (by omega), T0.below hX (by omega), BH.out.trans (hX.mono (by omega))⟩
  have R0 : Hid (EdR W0 (.slice a es.length cap) es) := HR.out.below BH.out (Nat.le_refl _)
  obtain ⟨q0, q1, q2, q3⟩ := Q0.all4
  clear Q0 T0 B0
  by_cases hj : jobE n es k s = 0
  · obtain ⟨hf, _, _⟩ := jobE_zero hj
    obtain ⟨hn0, hn1, _, _⟩ := fault_ok hf
    obtain ⟨m, rfl⟩ : ∃ m : Nat, n = m := ⟨n.toNat, by omega⟩
    have HP : Hid (∀ (w' : World) vv vm, w'.ownsRow w.heap.size 59 2 vv m ((List.replicate m ((-1, -1) : Ml)).flatMap encM) → OwnLi w' w.heap.size vm (List.replicate m []) → Below w.heap.size w w' → StaP w (begE m es k s) (.returned (.tuple #[.agg #[.int .i64 0, .int .i64 0, .bool (decide (0 < m)), .bool (decide (m = 0)), vv, vm], .int .i64 0])) w') := fun w' vv vm h1 h2 h3 => by
      unfold begE
      rw [if_pos hj, Int.toNat_natCast]
      exact StaP.yes (t := beginS m) (by simpa [beginS] using h1) h2 h3
    rw [hj] at HCK
    generalize StaP w (begE m es k s) = P at *
    obtain ⟨bf, hbf⟩ : ∃ b, decide (0 < m) = b := ⟨_, rfl⟩
    obtain ⟨bd, hbd⟩ : ∃ b, decide (m = 0) = b := ⟨_, rfl⟩
    rw [hbf, hbd] at HP
    have td : ((m : Int) == 0) = bd := by
      rw [← hbd, Bool.eq_iff_iff]
      simp
    clear hf hj hbd
    go_enter Try.func36, Try.ntmps36
    go_upto_region 1 with fail
    rw [← hW0]
    clear hW0
    go_wp2_with fail
    refine (HCK.out _ R0.out).mono ?_
    rintro e w1 ⟨rfl, hb1⟩
    have A1 : Hid (Below W0.heap.size W0 w1) := hb1
    clear q0 q1 q2 q3 HCK hb1
    obtain ⟨Q1, _, _⟩ := HK.out _ A1.out
    obtain ⟨q0, q1, q2, q3⟩ := Q1.all4
    have hs1 := A1.out.size
    clear Q1
    go_upto_region 5 with fail
    have W2 : Hid (Below W0.heap.size W0 (w1.alloc (.cells #[.int .i64 0, .int .i64 0, .bool bf, .bool bd, .slice none 0 0, .slice none 0 0] 30)) ∧ BX 30 (w1.alloc (.cells #[.int .i64 0, .int .i64 0, .bool bf, .bool bd, .slice none 0 0, .slice none 0 0] 30)) w1.heap.size #[.int .i64 0, .int .i64 0, .bool bf, .bool bd, .slice none 0 0, .slice none 0 0]) := ⟨A1.out.alloc hs1 _, BX.new _ _ _⟩
    generalize w1.alloc (.cells #[.int .i64 0, .int .i64 0, .bool bf, .bool bd, .slice none 0 0, .slice none 0 0] 30) = w2 at *
    generalize w1.heap.size = b5 at *
    obtain ⟨A2', X2'⟩ := W2.out
    have A2 : Hid (Below W0.heap.size W0 w2) := A2'
    have X2 : Hid (BX 30 w2 b5 #[.int .i64 0, .int .i64 0, .bool bf, .bool bd, .slice none 0 0, .slice none 0 0]) := X2'
    clear A2' X2' W2 q0 q1 q2 q3 hbf
    go_wp2_with fail
    go_loopw [6] (fun i wr => ∃ (j : Nat) (vv vm : Value), j ≤ m ∧ i = .int .i64 j ∧ BX 30 wr b5 #[.int .i64 0, .int .i64 0, .bool bf, .bool bd, vv, vm] ∧ wr.ownsRow W0.heap.size 59 2 vv (List.replicate j ((-1, -1) : Ml)).length ((List.replicate j ((-1, -1) : Ml)).flatMap encM) ∧ OwnLi wr W0.heap.size vm (List.replicate j []) ∧ Below W0.heap.size W0 wr) (fun i _ => m - (intOf i).toNat)
    case atStart => exact ⟨0, _, _, by omega, rfl, X2.out, World.ownsRow_nil _ _ _ _, OwnLi.nil _ _, A2.out⟩
    case round =>
      obtain ⟨j, vv, vm, hj, rfl, hbx, hvo, hmo, hbel⟩ := hrel
      have XB : Hid (BX 30 wr b5 #[.int .i64 0, .int .i64 0, .bool bf, .bool bd, vv, vm]) := hbx
      have VO : Hid (wr.ownsRow W0.heap.size 59 2 vv (List.replicate j ((-1, -1) : Ml)).length ((List.replicate j ((-1, -1) : Ml)).flatMap encM)) := hvo
      have MO : Hid (OwnLi wr W0.heap.size vm (List.replicate j [])) := hmo
      have AB : Hid (Below W0.heap.size W0 wr) := hbel
      obtain ⟨Q3, T3, _⟩ := HK.out _ hbel
      obtain ⟨q0, q1, q2, q3⟩ := Q3.all4
      have TT : Hid (BX 30 wr (w.heap.size + 1) #[.int .i64 0, .int .i64 0, .bool false, .bool false, .slice none 0 0, .slice none 0 0]) := T3
      have hsr := hbel.size
      obtain ⟨va, vn, vc, rfl⟩ : ∃ a n c, vv = .slice a n c := by
        rcases own_shapeK hvo with ⟨e, _⟩ | ⟨g', c', e, _⟩
        · exact ⟨_, _, _, e⟩
        · exact ⟨_, _, _, e⟩
      obtain ⟨ma, mc, rfl⟩ := hmo.shape
      clear hbx hvo hmo hbel Q3 T3
      by_cases hlt : j < m
      · have HNV : Hid (List.replicate (j + 1) ((-1, -1) : Ml) = List.replicate j (-1, -1) ++ [(-1, -1)]) := List.replicate_succ'
        have HNM : Hid (List.replicate (j + 1) ([] : List Int) = List.replicate j [] ++ [[]]) := List.replicate_succ'
        have hlv : (List.replicate j ((-1, -1) : Ml)).length ≤ 200 := by simp; omega
        have hlm : (List.replicate j ([] : List Int)).length ≤ 200 := by simp; omega
        generalize List.replicate j ((-1, -1) : Ml) = f at *
        generalize List.replicate j ([] : List Int) = g at *
        obtain ⟨⟨c0, c1, c2, c3, c4, c5⟩, f0, f1, f2, f3, f4, f5⟩ := XB.out.all6
        have hb5 := XB.out.lt
        have n4 : ∀ X, (wr.alloc X).cell? ⟨b5, 4, none⟩ = some (.slice va vn vc) := fun X => ((below_alloc wr X).cell (p := ⟨b5, 4, none⟩) hb5).trans c4
        go_wp2_with (at_builtin; refine wpList_append_newK kV rfl _ _ rfl W0.heap.size _ f rfl (VO.out.alloc _) _ (-1, -1) rfl #[.int .i64 (-1), .int .i64 (-1)] rfl (0, 0) (heap_alloc_new _ _) (by simp [kV]; omega) (by unfold maxLen; omega) (by simp; omega) ?_)
        intro g1 k1 w3 ho3 hb3 hg3
        have VA := VO.out.alloc (.cells #[.int .i64 (-1), .int .i64 (-1)] 59)
        have X3 : BX 30 w3 b5 #[.int .i64 0, .int .i64 0, .bool bf, .bool bd, .slice va vn vc, .slice ma g.length mc] := (XB.out.below (below_alloc _ _) hb5).grown VA (by decide) hg3
        have T3 : BX 30 w3 (w.heap.size + 1) #[.int .i64 0, .int .i64 0, .bool false, .bool false, .slice none 0 0, .slice none 0 0] := (TT.out.below (below_alloc _ _) TT.out.lt).grown VA (by decide) hg3
        have M3 : OwnLi w3 W0.heap.size (.slice ma g.length mc) g := OwnLi.apart (MO.out.below (below_alloc _ _) (Nat.le_refl _)) VA hg3 (by decide) (by decide)
        have B3 : Below W0.heap.size W0 w3 := (AB.out.alloc hsr _).trans hb3
        have V3 : w3.ownsRow W0.heap.size 59 2 (.slice (some ⟨g1, 0, none⟩) (f.length + 1) k1) (f ++ [(-1, -1)]).length ((f ++ [(-1, -1)]).flatMap encM) := by rw [flat_snoc, List.length_append]; exact ho3
        have W4 : Hid (BX 30 (w3.setCell ⟨b5, 4, none⟩ (.slice (some ⟨g1, 0, none⟩) (f.length + 1) k1)) b5 #[.int .i64 0, .int .i64 0, .bool bf, .bool bd, .slice (some ⟨g1, 0, none⟩) (f.length + 1) k1, .slice ma g.length mc] ∧ OwnLi (w3.setCell ⟨b5, 4, none⟩ (.slice (some ⟨g1, 0, none⟩) (f.length + 1) k1)) W0.heap.size (.slice ma g.length mc) g ∧ (w3.setCell ⟨b5, 4, none⟩ (.slice (some ⟨g1, 0, none⟩) (f.length + 1) k1)).ownsRow W0.heap.size 59 2 (.slice (some ⟨g1, 0, none⟩) (f.length + 1) k1) (f ++ [(-1, -1)]).length ((f ++ [(-1, -1)]).flatMap encM) ∧ Below W0.heap.size W0 (w3.setCell ⟨b5, 4, none⟩ (.slice (some ⟨g1, 0, none⟩) (f.length + 1) k1))) :=
          ⟨X3.set 4 _, M3.off X3 (by decide) (by decide) (Kept.box _ _ _ _), own_off V3 X3 (by decide) (Kept.box _ _ _ _), B3.setCell (p := ⟨b5, 4, none⟩) (by show W0.heap.size ≤ b5; omega) _⟩
        clear n4 c0 c1 c2 c3 c4 c5 f0 f1 f2 f3 f4 f5
        obtain ⟨⟨c0, c1, c2, c3, c4, c5⟩, f0, f1, f2, f3, f4, f5⟩ := X3.all6
        clear ho3 hb3 hg3 VA X3 T3 M3 B3 V3 XB VO MO AB TT
        go_upto_region 9 with fail
        generalize w3.setCell ⟨b5, 4, none⟩ (.slice (some ⟨g1, 0, none⟩) (f.length + 1) k1) = w4 at *
        obtain ⟨X4', M4', V4', B4'⟩ := W4.out
        have X4 : Hid (BX 30 w4 b5 #[.int .i64 0, .int .i64 0, .bool bf, .bool bd, .slice (some ⟨g1, 0, none⟩) (f.length + 1) k1, .slice ma g.length mc]) := X4'
        have M4 : Hid (OwnLi w4 W0.heap.size (.slice ma g.length mc) g) := M4'
        have V4 : Hid (w4.ownsRow W0.heap.size 59 2 (.slice (some ⟨g1, 0, none⟩) (f.length + 1) k1) (f ++ [(-1, -1)]).length ((f ++ [(-1, -1)]).flatMap encM)) := V4'
        have B4 : Hid (Below W0.heap.size W0 w4) := B4'
        have hs4 := B4'.size
        clear c0 c1 c2 c3 c4 c5 f0 f1 f2 f3 f4 f5 X4' M4' V4' B4' W4
        obtain ⟨⟨c0, c1, c2, c3, c4, c5⟩, f0, f1, f2, f3, f4, f5⟩ := X4.out.all6
        have hb5' := X4.out.lt
        go_wp2_with (at_builtin; refine wpList_append_li rfl _ _ rfl W0.heap.size _ g rfl (M4.out.below (below_alloc _ _) (Nat.le_refl _)) _ (.slice none 0 0) [] rfl (0, 0) (heap_alloc_new _ _) (World.ownsRow_nil _ _ _ _) (by omega) (by simp; omega) ?_)
        intro g2 k2 w5 hm5 hg5 _
        obtain ⟨mr, hmr⟩ := (M4.out.below (below_alloc w4 (.cells #[.slice none 0 0] 43)) (Nat.le_refl _)).row
        have X5 : BX 30 w5 b5 #[.int .i64 0, .int .i64 0, .bool bf, .bool bd, .slice (some ⟨g1, 0, none⟩) (f.length + 1) k1, .slice ma g.length mc] := (X4.out.below (below_alloc _ _) hb5').grown hmr (by decide) hg5
        have V5 : w5.ownsRow W0.heap.size 59 2 (.slice (some ⟨g1, 0, none⟩) (f.length + 1) k1) (f ++ [(-1, -1)]).length ((f ++ [(-1, -1)]).flatMap encM) := (V4.out.alloc _).kept hg5 (own_apart (V4.out.alloc (.cells #[.slice none 0 0] 43)) hmr (by decide))
        have B5 : Below W0.heap.size W0 w5 := (B4.out.alloc hs4 _).trans ((Below.refl _ _).grown hg5 (by show W0.heap.size ≤ (w4.alloc _).heap.size; simp; omega) (fun q hq => (own_ge hmr hq).1))
        have W6 : Hid (BX 30 (w5.setCell ⟨b5, 5, none⟩ (.slice (some ⟨g2, 0, none⟩) (g.length + 1) k2)) b5 #[.int .i64 0, .int .i64 0, .bool bf, .bool bd, .slice (some ⟨g1, 0, none⟩) (f.length + 1) k1, .slice (some ⟨g2, 0, none⟩) (g.length + 1) k2] ∧ OwnLi (w5.setCell ⟨b5, 5, none⟩ (.slice (some ⟨g2, 0, none⟩) (g.length + 1) k2)) W0.heap.size (.slice (some ⟨g2, 0, none⟩) (g.length + 1) k2) (g ++ [[]]) ∧ (w5.setCell ⟨b5, 5, none⟩ (.slice (some ⟨g2, 0, none⟩) (g.length + 1) k2)).ownsRow W0.heap.size 59 2 (.slice (some ⟨g1, 0, none⟩) (f.length + 1) k1) (f ++ [(-1, -1)]).length ((f ++ [(-1, -1)]).flatMap encM) ∧ Below W0.heap.size W0 (w5.setCell ⟨b5, 5, none⟩ (.slice (some ⟨g2, 0, none⟩) (g.length + 1) k2))) :=
          ⟨X5.set 5 _, hm5.off X5 (by decide) (by decide) (Kept.box _ _ _ _), own_off V5 X5 (by decide) (Kept.box _ _ _ _), B5.setCell (p := ⟨b5, 5, none⟩) (by show W0.heap.size ≤ b5; omega) _⟩
        rw [← HNV.out, ← HNM.out] at W6
        clear c0 c1 c2 c3 c4 c5 f0 f1 f2 f3 f4 f5
        obtain ⟨⟨c0, c1, c2, c3, c4, c5⟩, f0, f1, f2, f3, f4, f5⟩ := X5.all6
        clear hm5 hg5 hmr X5 V5 B5 X4 M4 V4 B4
        go_wp2_with fail
        go_roundw
        case rel => exact ⟨j + 1, _, _, by omega, by go_num, W6.out.1, W6.out.2.2.1, W6.out.2.1, W6.out.2.2.2⟩
        case measure => simp [intOf]; omega
      · have ej : j = m := by omega
        subst ej
        have hvl : (List.replicate j ((-1, -1) : Ml)).length = j := by simp
        have VE : Hid ((put6 wr (w.heap.size + 1) (.int .i64 0) (.int .i64 0) (.bool bf) (.bool bd) (.slice va vn vc) (.slice ma (List.replicate j ([] : List Int)).length mc)).ownsRow w.heap.size 59 2 (.slice va vn vc) j ((List.replicate j ((-1, -1) : Ml)).flatMap encM)) := by
          have := own_off VO.out TT.out (by decide) (kept_put6 wr (w.heap.size + 1) (.int .i64 0) (.int .i64 0) (.bool bf) (.bool bd) (.slice va vn vc) (.slice ma (List.replicate j ([] : List Int)).length mc))
          rw [hvl] at this
          exact own_lower this (by omega)
        have ME : Hid (OwnLi (put6 wr (w.heap.size + 1) (.int .i64 0) (.int .i64 0) (.bool bf) (.bool bd) (.slice va vn vc) (.slice ma (List.replicate j ([] : List Int)).length mc)) w.heap.size (.slice ma (List.replicate j ([] : List Int)).length mc) (List.replicate j [])) := (MO.out.off TT.out (by decide) (by decide) (kept_put6 wr (w.heap.size + 1) _ _ _ _ _ _)).lower (by omega)
        have RX : Hid (BX 30 (put6 wr (w.heap.size + 1) (.int .i64 0) (.int .i64 0) (.bool bf) (.bool bd) (.slice va vn vc) (.slice ma (List.replicate j ([] : List Int)).length mc)) (w.heap.size + 1) #[.int .i64 0, .int .i64 0, .bool bf, .bool bd, .slice va vn vc, .slice ma (List.replicate j ([] : List Int)).length mc]) := TT.out.put6
        have BE : Hid (Below w.heap.size w (put6 wr (w.heap.size + 1) (.int .i64 0) (.int .i64 0) (.bool bf) (.bool bd) (.slice va vn vc) (.slice ma (List.replicate j ([] : List Int)).length mc))) := below_put6 (HK.out _ AB.out).2.2 (by omega) TT.out.lt _ _ _ _ _ _
        obtain ⟨⟨c0, c1, c2, c3, c4, c5⟩, f0, f1, f2, f3, f4, f5⟩ := XB.out.all6
        obtain ⟨⟨d0, d1, d2, d3, d4, d5⟩, e0, e1, e2, e3, e4, e5⟩ := TT.out.all6
        clear hvl
        generalize (List.replicate j ([] : List Int)).length = ml at *
        go_wp2_with fail
        obtain ⟨⟨r0, r1, r2, r3, r4, r5⟩, _⟩ := RX.out.all6
        unfold put6 at r0 r1 r2 r3 r4 r5
        refine bodyPost_ret (v := .tuple #[.agg #[.int .i64 0, .int .i64 0, .bool bf, .bool bd, .slice va vn vc, .slice ma ml mc], .int .i64 0]) (by simp [results, Try.results36, go_sem, r0, r1, r2, r3, r4, r5]) rfl ?_
        exact HP.out _ _ _ VE.out ME.out BE.out
  · have HP : Hid (∀ (w' : World), Below w.heap.size w w' → StaP w (begE n es k s) (.returned (.tuple #[.agg #[.int .i64 0, .int .i64 0, .bool false, .bool false, .slice none 0 0, .slice none 0 0], .int .i64 (jobE n es k s)])) w') := fun w' h => by
      unfold begE
      rw [if_neg hj]
      exact StaP.no h
    generalize StaP w (begE n es k s) = P at *
    generalize jobE n es k s = je at *
    have t0 : (je != 0) = true := by simpa using hj
    clear hj
    go_enter Try.func36, Try.ntmps36
    go_upto_region 1 with fail
    rw [← hW0]
    clear hW0
    go_wp2_with fail
    refine (HCK.out _ R0.out).mono ?_
    rintro e w1 ⟨rfl, hb1⟩
    obtain ⟨_, T1, b1⟩ := HK.out _ hb1
    have RX : Hid (BX 30 (put6 w1 (w.heap.size + 1) (.int .i64 0) (.int .i64 0) (.bool false) (.bool false) (.slice none 0 0) (.slice none 0 0)) (w.heap.size + 1) #[.int .i64 0, .int .i64 0, .bool false, .bool false, .slice none 0 0, .slice none 0 0]) := T1.put6
    have BE : Hid (Below w.heap.size w (put6 w1 (w.heap.size + 1) (.int .i64 0) (.int .i64 0) (.bool false) (.bool false) (.slice none 0 0) (.slice none 0 0))) := below_put6 b1 (by omega) T1.lt _ _ _ _ _ _
    obtain ⟨⟨c0, c1, c2, c3, c4, c5⟩, f0, f1, f2, f3, f4, f5⟩ := T1.all6
    clear hb1 q0 q1 q2 q3 HCK T1 b1
    go_wp2_with fail
    obtain ⟨⟨r0, r1, r2, r3, r4, r5⟩, _⟩ := RX.out.all6
    unfold put6 at r0 r1 r2 r3 r4 r5
    refine bodyPost_ret (v := .tuple #[.agg #[.int .i64 0, .int .i64 0, .bool false, .bool false, .slice none 0 0, .slice none 0 0], .int .i64 je]) (by simp [results, Try.results36, go_sem, r0, r1, r2, r3, r4, r5]) rfl ?_
    exact HP.out _ BE.out
end Go.Proofs.Ytbmkgnlfccigpaa
