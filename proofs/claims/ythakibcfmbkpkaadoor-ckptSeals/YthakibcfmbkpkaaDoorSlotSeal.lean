/-
  Contract of ckpt.Seal.
-/
import Derived.Test.YthakibcfmbkpkaaDoorSealMath
import Derived.Test.YthakibcfmbkpkaaDoorBoxMem
import Derived.Deep.CutRange
namespace Go.Proofs.YthakibcfmbkpkaaDoor
set_option maxRecDepth 100000
open Go.ChangeShapes Go.WideShapes Go.ChangeAt Go.RowKit

set_option maxHeartbeats 4000000 in
set_option maxRecDepth 100000 in
theorem ckSeal_any (v : Value) (fs : List FileL) (n : Int) (w : World) (h : DiskR w v fs) (hg : Good fs) :
    Calls Tryd.prog 7 #[.agg #[v], .int .i64 n] w (DskP w (sealE fs n)) := by
  have HD : Hid (DiskR w v fs) := h
  have HG : Hid (Good fs) := hg
  obtain ⟨a, cap, rfl⟩ : ∃ a c, v = .slice a fs.length c := by obtain ⟨a, c, e, _⟩ := h; exact ⟨a, c, e⟩
  clear h hg
  obtain ⟨W0, hW0⟩ : ∃ W0, W0 = (w.alloc (.cells #[.slice a fs.length cap] 24)).alloc (.cells #[.slice none 0 0] 24) := ⟨_, rfl⟩
  obtain ⟨Q0, M0, B0, s1, s2⟩ := boxes2 w #[.slice a fs.length cap] #[.slice none 0 0] 24 24 W0 hW0
  have HK : Hid (∀ X, Below W0.heap.size W0 X → BX 24 X w.heap.size #[.slice a fs.length cap] ∧ BX 24 X (w.heap.size + 1) #[.slice none 0 0] ∧ Below w.heap.size w X ∧ DiskR X (.slice a fs.length cap) fs) := fun X hX => by
    have hb := B0.trans (hX.mono (show w.heap.size ≤ W0.heap.size by omega))
    exact ⟨Q0.below hX (by omega), M0.below hX (by omega), hb, HD.out.below hb (Nat.le_refl _)⟩
  have A0 : Hid (Below W0.heap.size W0 W0) := Below.refl _ _
  obtain ⟨q0, _⟩ := Q0.all1
  obtain ⟨m0, m1⟩ := M0.all1
  clear Q0 M0 B0
  have HN : Hid (¬ (0 ≤ n ∧ n ≤ 1) → ∀ w', Below w.heap.size w w' → DskP w (sealE fs n) (.returned (.tuple #[.agg #[.slice none 0 0], .int .i64 2])) w') := fun h w' hb => by rw [sealE_no h]; exact DskP.none hb
  have HF : Hid (0 ≤ n ∧ n ≤ 1 → ¬ (chF fs (syncF fs nxt)).2 = 0 → ∀ w', Below w.heap.size w w' → DskP w (sealE fs n) (.returned (.tuple #[.agg #[.slice none 0 0], .int .i64 (chF fs (syncF fs nxt)).2])) w') := fun h h2 w' hb => by rw [sealE_err h h2]; exact DskP.none hb
  have HY : Hid (0 ≤ n ∧ n ≤ 1 → (chF fs (syncF fs nxt)).2 = 0 → ∀ v w', DiskR w' v (chF (chF fs (syncF fs nxt)).1 (renameF (chF fs (syncF fs nxt)).1 nxt (slotB n))).1 → Below w.heap.size w w' → DskP w (sealE fs n) (.returned (.tuple #[.agg #[v], .int .i64 (chF (chF fs (syncF fs nxt)).1 (renameF (chF fs (syncF fs nxt)).1 nxt (slotB n))).2])) w') := fun h h2 v w' hd hb => by rw [sealE_yes h h2]; exact ⟨_, rfl, hd, hb⟩
  generalize DskP w (sealE fs n) = P at *
  have CS : Hid (∀ X, DiskR X (.slice a fs.length cap) fs → Calls Tryd.prog 17 #[.agg #[.slice a fs.length cap], .string nxt] X fun e w' => ∃ v', e = .returned (.tuple #[.agg #[v'], .int .i64 (chF fs (syncF fs nxt)).2]) ∧ DiskR w' v' (chF fs (syncF fs nxt)).1 ∧ Below X.heap.size X w') := fun X h => diskSync_any _ fs nxt X h HG.out
  have HG1 : Hid (Good (chF fs (syncF fs nxt)).1) := good_ch HG.out (good_sync HG.out)
  by_cases hn : 0 ≤ n ∧ n ≤ 1
  case neg =>
    have HE : Hid (∀ w', Below w.heap.size w w' → P (.returned (.tuple #[.agg #[.slice none 0 0], .int .i64 2])) w') := HN.out hn
    have CN : Hid (∀ X, Calls Tryd.prog 16 #[.int .i64 n] X fun e w' => e = .returned (.tuple #[.string ByteArray.empty, .int .i64 2]) ∧ w' = X) := fun X => slotName_no n hn X
    clear HN HF HY CS hn m0 m1
    go_enter Tryd.func7, Tryd.ntmps7
    go_upto_region 1 with fail
    rw [← hW0]
    clear hW0
    go_wp2_with fail
    refine (CN.out _).mono ?_
    rintro e w1 ⟨rfl, e1⟩
    have e1' : W0 = w1 := e1.symm
    subst e1'
    clear e1
    obtain ⟨m0, m1⟩ := (HK.out _ A0.out).2.1.all1
    have HX : Hid (P (.returned (.tuple #[.agg #[.slice none 0 0], .int .i64 2])) (W0.setCell ⟨w.heap.size + 1, 0, none⟩ (.slice none 0 0))) := HE.out _ ((HK.out _ A0.out).2.2.1.setCell (Nat.le_succ _) _)
    have RX := ((HK.out _ A0.out).2.1.set 0 (.slice none 0 0)).all1.1
    go_wp2_with fail
    exact bodyPost_ret (v := .tuple #[.agg #[.slice none 0 0], .int .i64 2]) (by simp [results, Tryd.results7, go_sem, RX]) rfl HX.out
  have CN : Hid (∀ X, Calls Tryd.prog 16 #[.int .i64 n] X fun e w' => e = .returned (.tuple #[.string (slotB n), .int .i64 0]) ∧ w' = X) := fun X => slotName_yes n hn X
  replace HF : Hid (¬ (chF fs (syncF fs nxt)).2 = 0 → ∀ w', Below w.heap.size w w' → P (.returned (.tuple #[.agg #[.slice none 0 0], .int .i64 (chF fs (syncF fs nxt)).2])) w') := HF.out hn
  replace HY : Hid ((chF fs (syncF fs nxt)).2 = 0 → ∀ v w', DiskR w' v (chF (chF fs (syncF fs nxt)).1 (renameF (chF fs (syncF fs nxt)).1 nxt (slotB n))).1 → Below w.heap.size w w' → P (.returned (.tuple #[.agg #[v], .int .i64 (chF (chF fs (syncF fs nxt)).1 (renameF (chF fs (syncF fs nxt)).1 nxt (slotB n))).2])) w') := HY.out hn
  have HZ : Hid ((slotB n).size ≤ maxLen) := slotB_max n
  clear HN hn m0 m1
  generalize slotB n = sl at *
  generalize chF fs (syncF fs nxt) = R1 at *
  have hnx : nxt = ⟨#[110, 101, 120, 116]⟩ := rfl
  have CR : Hid (∀ X u, DiskR X u R1.1 → Calls Tryd.prog 18 #[.agg #[u], .string ⟨#[110, 101, 120, 116]⟩, .string sl] X fun e w' => ∃ v', e = .returned (.tuple #[.agg #[v'], .int .i64 (chF R1.1 (renameF R1.1 nxt sl)).2]) ∧ DiskR w' v' (chF R1.1 (renameF R1.1 nxt sl)).1 ∧ Below X.heap.size X w') := fun X u h => diskRename_any u R1.1 nxt sl X h HG1.out nxt_size HZ.out
  generalize chF R1.1 (renameF R1.1 nxt sl) = R2 at *
  obtain ⟨f1, t1⟩ := R1
  obtain ⟨f2, t2⟩ := R2
  simp only at CR CS HF HY HG1
  rw [hnx] at CS
  clear hnx
  have hw3 : Hid (∀ w2 v2, DiskR w2 v2 f1 → Below W0.heap.size W0 w2 → ∃ xa xc, v2 = .slice xa f1.length xc ∧ Below W0.heap.size W0 (w2.alloc (.cells #[v2] 24)) ∧ BX 24 (w2.alloc (.cells #[v2] 24)) w2.heap.size #[v2] ∧ DiskR (w2.alloc (.cells #[v2] 24)) v2 f1) := fun w2 v2 hd hb => by
    obtain ⟨xa, xc, e⟩ : ∃ a c, v2 = .slice a f1.length c := by obtain ⟨a, c, e, _⟩ := hd; exact ⟨a, c, e⟩
    exact ⟨xa, xc, e, hb.alloc hb.size _, BX.new _ _ _, hd.below (below_alloc _ _) (Nat.le_refl _)⟩
  by_cases ht : t1 = 0
  case neg =>
    have HE : Hid (∀ w', Below w.heap.size w w' → P (.returned (.tuple #[.agg #[.slice none 0 0], .int .i64 t1])) w') := HF.out ht
    have tn : (t1 != 0) = true := by simp [ht]
    clear HF HY ht CR
    go_enter Tryd.func7, Tryd.ntmps7
    go_upto_region 1 with fail
    rw [← hW0]
    clear hW0
    go_wp2_with fail
    refine (CN.out _).mono ?_
    rintro e w1 ⟨rfl, e1⟩
    have e1' : W0 = w1 := e1.symm
    subst e1'
    clear e1
    go_wp2_with fail
    refine (CS.out _ (HK.out _ A0.out).2.2.2).mono ?_
    rintro e w2 ⟨v2, rfl, hd2, hb2⟩
    obtain ⟨xa, xc, rfl, k1, k2, k3⟩ := hw3.out w2 v2 hd2 hb2
    have A3 : Hid (Below W0.heap.size W0 (w2.alloc (.cells #[.slice xa f1.length xc] 24))) := k1
    clear hd2 hb2 k1 k2 k3 q0 CS CN
    go_upto_region 5 with fail
    generalize w2.alloc (.cells #[.slice xa f1.length xc] 24) = w3 at *
    obtain ⟨m0, m1⟩ := (HK.out _ A3.out).2.1.all1
    have HX : Hid (P (.returned (.tuple #[.agg #[.slice none 0 0], .int .i64 t1])) (w3.setCell ⟨w.heap.size + 1, 0, none⟩ (.slice none 0 0))) := HE.out _ ((HK.out _ A3.out).2.2.1.setCell (Nat.le_succ _) _)
    have RX := ((HK.out _ A3.out).2.1.set 0 (.slice none 0 0)).all1.1
    go_wp2_with fail
    exact bodyPost_ret (v := .tuple #[.agg #[.slice none 0 0], .int .i64 t1]) (by simp [results, Tryd.results7, go_sem, RX]) rfl HX.out
  have HE : Hid (∀ v w', DiskR w' v f2 → Below w.heap.size w w' → P (.returned (.tuple #[.agg #[v], .int .i64 t2])) w') := HY.out ht
  subst ht
  clear HF HY
  go_enter Tryd.func7, Tryd.ntmps7
  go_upto_region 1 with fail
  rw [← hW0]
  clear hW0
  go_wp2_with fail
  refine (CN.out _).mono ?_
  rintro e w1 ⟨rfl, e1⟩
  have e1' : W0 = w1 := e1.symm
  subst e1'
  clear e1
  go_wp2_with fail
  refine (CS.out _ (HK.out _ A0.out).2.2.2).mono ?_
  rintro e w2 ⟨v2, rfl, hd2, hb2⟩
  obtain ⟨xa, xc, rfl, k1, k2, k3⟩ := hw3.out w2 v2 hd2 hb2
  have A3 : Hid (Below W0.heap.size W0 (w2.alloc (.cells #[.slice xa f1.length xc] 24))) := k1
  have X3 : Hid (BX 24 (w2.alloc (.cells #[.slice xa f1.length xc] 24)) w2.heap.size #[.slice xa f1.length xc] ∧ DiskR (w2.alloc (.cells #[.slice xa f1.length xc] 24)) (.slice xa f1.length xc) f1) := ⟨k2, k3⟩
  clear hd2 hb2 k1 k2 k3 q0 CS CN
  go_upto_region 5 with fail
  generalize w2.alloc (.cells #[.slice xa f1.length xc] 24) = w3 at *
  generalize w2.heap.size = b3 at *
  have x0 := X3.out.1.all1.1
  go_wp2_with fail
  refine (CR.out _ _ X3.out.2).mono ?_
  rintro e w4 ⟨v4, rfl, hd4, hb4⟩
  have A4 : Below W0.heap.size W0 w4 := A3.out.trans (hb4.mono A3.out.size)
  obtain ⟨ya, yc, rfl⟩ : ∃ a c, v4 = .slice a f2.length c := by obtain ⟨a, c, e, _⟩ := hd4; exact ⟨a, c, e⟩
  obtain ⟨m0, m1⟩ := (HK.out _ A4).2.1.all1
  have HX : Hid (P (.returned (.tuple #[.agg #[.slice ya f2.length yc], .int .i64 t2])) (w4.setCell ⟨w.heap.size + 1, 0, none⟩ (.slice ya f2.length yc))) := HE.out _ _ (hd4.setBox (HK.out _ A4).2.1) ((HK.out _ A4).2.2.1.setCell (Nat.le_succ _) _)
  have RX := ((HK.out _ A4).2.1.set 0 (.slice ya f2.length yc)).all1.1
  clear hd4 hb4 A4 x0
  go_wp2_with fail
  exact bodyPost_ret (v := .tuple #[.agg #[.slice ya f2.length yc], .int .i64 t2]) (by simp [results, Tryd.results7, go_sem, RX]) rfl HX.out
end Go.Proofs.YthakibcfmbkpkaaDoor
