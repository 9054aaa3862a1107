/-
  Contract of the document's Sealed.
-/
import Derived.Test.YthakibcfmbkpkaaDoorSealMath
import Derived.Test.YthakibcfmbkpkaaDoorRefSlot
import Derived.Test.YthakibcfmbkpkaaDoorSyncedWalk
import Derived.Test.YthakibcfmbkpkaaDoorRenamedWalk
import Derived.Test.YthakibcfmbkpkaaDoorBoxMem
import Derived.Test.YthakibcfmbkpkaaDoorRegionCall
import Derived.Shelf.Abstract
import Derived.Deep.CutRange
namespace Go.Proofs.YthakibcfmbkpkaaDoor
set_option maxRecDepth 100000
open Go.ChangeShapes Go.WideShapes Go.ChangeAt Go.RowKit

theorem in_isS {v a b : Int} {t : Bool} (h : inB v a b = t) (w : World) : Calls Tryd.prog 19 #[.int .i64 v, .int .i64 a, .int .i64 b] w fun e w' => e = .returned (.bool t) ∧ w' = w := by
  have := in_any v a b w
  rwa [h] at this
set_option maxHeartbeats 4000000 in
set_option maxRecDepth 100000 in
theorem sealed_any (v : Value) (fs : List FileL) (n : Int) (w : World) (h : DiskR w v fs) (hg : Good fs) (hl : fs.length * 48 ≤ 140737488351232) :
    Calls Tryd.prog 8 #[.agg #[v], .int .i64 n] w (DskP w (sealE fs n)) := by
  have HD : Hid (DiskR w v fs) := h
  have HG : Hid (Good fs) := hg
  obtain ⟨a, cap, rfl⟩ : ∃ a c, v = .slice a fs.length c := by obtain ⟨a, c, e, _⟩ := h; exact ⟨a, c, e⟩
  clear h hg
  obtain ⟨W0, hW0⟩ : ∃ W0, W0 = (w.alloc (.cells #[.slice a fs.length cap] 24)).alloc (.cells #[.slice none 0 0] 24) := ⟨_, rfl⟩
  obtain ⟨Q0, M0, B0, s1, s2⟩ := boxes2 w #[.slice a fs.length cap] #[.slice none 0 0] 24 24 W0 hW0
  have HK : Hid (∀ X, Below W0.heap.size W0 X → BX 24 X w.heap.size #[.slice a fs.length cap] ∧ BX 24 X (w.heap.size + 1) #[.slice none 0 0] ∧ Below w.heap.size w X ∧ DiskR X (.slice a fs.length cap) fs) := fun X hX => by
    have hb := B0.trans (hX.mono (show w.heap.size ≤ W0.heap.size by omega))
    exact ⟨Q0.below hX (by omega), M0.below hX (by omega), hb, HD.out.below hb (Nat.le_refl _)⟩
  have A0 : Hid (Below W0.heap.size W0 W0) := Below.refl _ _
  obtain ⟨q0, _⟩ := Q0.all1
  obtain ⟨m0, m1⟩ := M0.all1
  clear Q0 M0 B0
  have HN : Hid (¬ (0 ≤ n ∧ n ≤ 1) → ∀ w', Below w.heap.size w w' → DskP w (sealE fs n) (.returned (.tuple #[.agg #[.slice none 0 0], .int .i64 2])) w') := fun h w' hb => by rw [sealE_no h]; exact DskP.none hb
  have HF : Hid (0 ≤ n ∧ n ≤ 1 → ¬ (chF fs (syncF fs nxt)).2 = 0 → ∀ w', Below w.heap.size w w' → DskP w (sealE fs n) (.returned (.tuple #[.agg #[.slice none 0 0], .int .i64 (chF fs (syncF fs nxt)).2])) w') := fun h h2 w' hb => by rw [sealE_err h h2]; exact DskP.none hb
  have HY : Hid (0 ≤ n ∧ n ≤ 1 → (chF fs (syncF fs nxt)).2 = 0 → ∀ v w', DiskR w' v (chF (chF fs (syncF fs nxt)).1 (renameF (chF fs (syncF fs nxt)).1 nxt (slotB n))).1 → Below w.heap.size w w' → DskP w (sealE fs n) (.returned (.tuple #[.agg #[v], .int .i64 (chF (chF fs (syncF fs nxt)).1 (renameF (chF fs (syncF fs nxt)).1 nxt (slotB n))).2])) w') := fun h h2 v w' hd hb => by rw [sealE_yes h h2]; exact ⟨_, rfl, hd, hb⟩
  generalize DskP w (sealE fs n) = P at *
  have CS : Hid (∀ X, DiskR X (.slice a fs.length cap) fs → Calls Tryd.prog 20 #[.agg #[.slice a fs.length cap], .string nxt] X fun e w' => ∃ v', e = .returned (.tuple #[.agg #[v'], .int .i64 (chF fs (syncF fs nxt)).2]) ∧ DiskR w' v' (chF fs (syncF fs nxt)).1 ∧ Below X.heap.size X w') := fun X h => syncedTo_any _ fs nxt X h HG.out hl
  have HG1 : Hid (Good (chF fs (syncF fs nxt)).1) := good_ch HG.out (good_sync HG.out)
  have hl1 : (chF fs (syncF fs nxt)).1.length * 48 ≤ 140737488351232 := by have := sync_len (fs := fs) (n := nxt); omega
  by_cases hn : 0 ≤ n ∧ n ≤ 1
  case neg =>
    have HE : Hid (∀ w', Below w.heap.size w w' → P (.returned (.tuple #[.agg #[.slice none 0 0], .int .i64 2])) w') := HN.out hn
    have CN : Hid (∀ X, Calls Tryd.prog 19 #[.int .i64 n, .int .i64 0, .int .i64 1] X fun e w' => e = .returned (.bool false) ∧ w' = X) := fun X => in_isS (in_no hn) X
    clear HN HF HY CS hn m0 m1 hl1
    go_enter Tryd.func8, Tryd.ntmps8
    go_upto_region 1 with fail
    rw [← hW0]
    clear hW0
    go_wp2_with fail
    refine (CN.out _).mono ?_
    rintro e w1 ⟨rfl, e1⟩
    have e1' : W0 = w1 := e1.symm
    subst e1'
    clear e1
    obtain ⟨m0, m1⟩ := (HK.out _ A0.out).2.1.all1
    have HX : Hid (P (.returned (.tuple #[.agg #[.slice none 0 0], .int .i64 2])) (W0.setCell ⟨w.heap.size + 1, 0, none⟩ (.slice none 0 0))) := HE.out _ ((HK.out _ A0.out).2.2.1.setCell (Nat.le_succ _) _)
    have RX := ((HK.out _ A0.out).2.1.set 0 (.slice none 0 0)).all1.1
    go_wp2_with fail
    exact bodyPost_ret (v := .tuple #[.agg #[.slice none 0 0], .int .i64 2]) (by simp [results, Tryd.results8, go_sem, RX]) rfl HX.out
  have CN : Hid (∀ X, Calls Tryd.prog 19 #[.int .i64 n, .int .i64 0, .int .i64 1] X fun e w' => e = .returned (.bool true) ∧ w' = X) := fun X => in_isS (in_yes hn) X
  have CA : Hid (∀ X, Calls Tryd.prog 22 #[.int .i64 n] X fun e w' => ∃ v, e = .returned v ∧ (v = .string (slotB n) ∧ Below X.heap.size X w')) := fun X => (refSlot_yes n hn X).mono fun e w' h => ⟨_, h.1, rfl, h.2⟩
  replace HF : Hid (¬ (chF fs (syncF fs nxt)).2 = 0 → ∀ w', Below w.heap.size w w' → P (.returned (.tuple #[.agg #[.slice none 0 0], .int .i64 (chF fs (syncF fs nxt)).2])) w') := HF.out hn
  replace HY : Hid ((chF fs (syncF fs nxt)).2 = 0 → ∀ v w', DiskR w' v (chF (chF fs (syncF fs nxt)).1 (renameF (chF fs (syncF fs nxt)).1 nxt (slotB n))).1 → Below w.heap.size w w' → P (.returned (.tuple #[.agg #[v], .int .i64 (chF (chF fs (syncF fs nxt)).1 (renameF (chF fs (syncF fs nxt)).1 nxt (slotB n))).2])) w') := HY.out hn
  have HZ : Hid ((slotB n).size ≤ maxLen) := slotB_max n
  clear HN hn m0 m1
  generalize slotB n = sl at *
  generalize chF fs (syncF fs nxt) = R1 at *
  have hnx : nxt = ⟨#[110, 101, 120, 116]⟩ := rfl
  have CR : Hid (∀ X u, DiskR X u R1.1 → Calls Tryd.prog 21 #[.agg #[u], .string ⟨#[110, 101, 120, 116]⟩, .string sl] X fun e w' => ∃ v, e = .returned v ∧ (∃ u', v = .tuple #[.agg #[u'], .int .i64 (chF R1.1 (renameF R1.1 nxt sl)).2] ∧ DiskR w' u' (chF R1.1 (renameF R1.1 nxt sl)).1 ∧ Below X.heap.size X w')) := fun X u h => (renamed_any u R1.1 nxt sl X h HG1.out hl1 HZ.out).mono fun e w' ⟨v', h1, h2, h3⟩ => ⟨_, h1, v', rfl, h2, h3⟩
  generalize chF R1.1 (renameF R1.1 nxt sl) = R2 at *
  obtain ⟨f1, t1⟩ := R1
  obtain ⟨f2, t2⟩ := R2
  simp only at CR CS HF HY HG1 hl1
  rw [hnx] at CS
  clear hnx
  have hw3 : Hid (∀ w2 v2, DiskR w2 v2 f1 → Below W0.heap.size W0 w2 → ∃ xa xc, v2 = .slice xa f1.length xc ∧ Below W0.heap.size W0 (w2.alloc (.cells #[v2] 24)) ∧ BX 24 (w2.alloc (.cells #[v2] 24)) w2.heap.size #[v2] ∧ DiskR (w2.alloc (.cells #[v2] 24)) v2 f1) := fun w2 v2 hd hb => by
    obtain ⟨xa, xc, e⟩ : ∃ a c, v2 = .slice a f1.length c := by obtain ⟨a, c, e, _⟩ := hd; exact ⟨a, c, e⟩
    exact ⟨xa, xc, e, hb.alloc hb.size _, BX.new _ _ _, hd.below (below_alloc _ _) (Nat.le_refl _)⟩
  by_cases ht : t1 = 0
  case neg =>
    have HE : Hid (∀ w', Below w.heap.size w w' → P (.returned (.tuple #[.agg #[.slice none 0 0], .int .i64 t1])) w') := HF.out ht
    have tn : (t1 != 0) = true := by simp [ht]
    clear HF HY ht CR CA
    go_enter Tryd.func8, Tryd.ntmps8
    go_upto_region 1 with fail
    rw [← hW0]
    clear hW0
    go_wp2_with fail
    refine (CN.out _).mono ?_
    rintro e w1 ⟨rfl, e1⟩
    have e1' : W0 = w1 := e1.symm
    subst e1'
    clear e1
    go_wp2_with fail
    refine (CS.out _ (HK.out _ A0.out).2.2.2).mono ?_
    rintro e w2 ⟨v2, rfl, hd2, hb2⟩
    obtain ⟨xa, xc, rfl, k1, k2, k3⟩ := hw3.out w2 v2 hd2 hb2
    have A3 : Hid (Below W0.heap.size W0 (w2.alloc (.cells #[.slice xa f1.length xc] 24))) := k1
    clear hd2 hb2 k1 k2 k3 q0 CS CN
    go_upto_region 4 with fail
    generalize w2.alloc (.cells #[.slice xa f1.length xc] 24) = w3 at *
    obtain ⟨m0, m1⟩ := (HK.out _ A3.out).2.1.all1
    have HX : Hid (P (.returned (.tuple #[.agg #[.slice none 0 0], .int .i64 t1])) (w3.setCell ⟨w.heap.size + 1, 0, none⟩ (.slice none 0 0))) := HE.out _ ((HK.out _ A3.out).2.2.1.setCell (Nat.le_succ _) _)
    have RX := ((HK.out _ A3.out).2.1.set 0 (.slice none 0 0)).all1.1
    go_wp2_with fail
    exact bodyPost_ret (v := .tuple #[.agg #[.slice none 0 0], .int .i64 t1]) (by simp [results, Tryd.results8, go_sem, RX]) rfl HX.out
  have HE : Hid (∀ v w', DiskR w' v f2 → Below w.heap.size w w' → P (.returned (.tuple #[.agg #[v], .int .i64 t2])) w') := HY.out ht
  subst ht
  clear HF HY
  go_enter Tryd.func8, Tryd.ntmps8
  go_upto_region 1 with fail
  rw [← hW0]
  clear hW0
  go_wp2_with fail
  refine (CN.out _).mono ?_
  rintro e w1 ⟨rfl, e1⟩
  have e1' : W0 = w1 := e1.symm
  subst e1'
  clear e1
  go_wp2_with fail
  refine (CS.out _ (HK.out _ A0.out).2.2.2).mono ?_
  rintro e w2 ⟨v2, rfl, hd2, hb2⟩
  obtain ⟨xa, xc, rfl, k1, k2, k3⟩ := hw3.out w2 v2 hd2 hb2
  have A3 : Hid (Below W0.heap.size W0 (w2.alloc (.cells #[.slice xa f1.length xc] 24))) := k1
  have X3 : Hid (BX 24 (w2.alloc (.cells #[.slice xa f1.length xc] 24)) w2.heap.size #[.slice xa f1.length xc] ∧ DiskR (w2.alloc (.cells #[.slice xa f1.length xc] 24)) (.slice xa f1.length xc) f1) := ⟨k2, k3⟩
  clear hd2 hb2 k1 k2 k3 q0 CS CN hw3
  go_upto_region 6 with fail
  generalize w2.alloc (.cells #[.slice xa f1.length xc] 24) = w3 at *
  generalize w2.heap.size = b3 at *
  have hl3 := X3.out.1.lt
  have KEEP : Hid (∀ V, Below w3.heap.size w3 V → V.cell? ⟨b3, 0, none⟩ = some (.slice xa f1.length xc)) := fun V hV => (X3.out.1.below hV hl3).all1.1
  have KD : Hid (∀ V, Below w3.heap.size w3 V → DiskR V (.slice xa f1.length xc) f1) := fun V hV => X3.out.2.below hV (Nat.le_refl _)
  have b0 : Below w3.heap.size w3 w3.drew := (Below.refl _ _).drew
  have HS0 : Hid (w3.drew.cell? ⟨b3, 0, none⟩ = some (.slice xa f1.length xc)) := KEEP.out w3.drew b0
  have ea : ∀ args w, (callFunc 22 args).run Tryd.prog w = .ok (.enter 22 args) w := enters_of Tryd.func22 (by kernel_rfl) rfl
  have eb : ∀ args w, (callFunc 21 args).run Tryd.prog w = .ok (.enter 21 args) w := enters_of Tryd.func21 (by kernel_rfl) rfl
  apply Hid.cut
  case h =>
    intro HG
    refine wp_region_held (S := fun V => V.cell? ⟨b3, 0, none⟩ = some (.slice xa f1.length xc)) (by kernel_rfl) ?_
    simp only [List.size_toArray, List.length_cons, List.length_nil, Nat.reduceAdd]
    refine takeH (i := 0) (v := .agg #[.slice xa f1.length xc]) (d := 24) rfl rfl (by kernel_rfl) (by kernel_rfl) (by kernel_rfl) (fun _ _ _ h => h) (by rfl) (fun V hV => by have v1 := hV; go_simp) HS0.out ?_
    simp only [Act.put, List.setIfInBounds_toArray, List.set_cons_zero, List.set_cons_succ]
    refine takeH (i := 1) (v := .int .i64 n) (d := 25) rfl rfl (by kernel_rfl) (by kernel_rfl) (by kernel_rfl) (fun _ _ _ h => h) (by rfl) (fun V hV => by have v1 := hV; go_simp) HS0.out ?_
    simp only [Act.put, List.setIfInBounds_toArray, List.set_cons_zero, List.set_cons_succ]
    refine twoH (i := 2) (j := 7) rfl rfl (by kernel_rfl) rfl rfl ?w1j ?w1x
    case w1j =>
      refine call_gets (d := 26) (f := 22) (xs := #[.tmp 25]) (ats := #[3]) rfl rfl ea (vs := #[.int .i64 n]) (by simp [Act.eval]) (CA.out w3.drew) ?_
      rintro vr wj1 ⟨rfl, hb⟩
      have wj1_b : Below w3.heap.size w3 wj1 := (b0).trans (hb.mono (Below.size (b0)))
      refine ⟨KEEP.out _ wj1_b, ?_⟩
      simp only [Act.put, List.setIfInBounds_toArray, List.set_cons_zero, List.set_cons_succ]
      clear hb
      refine twoH (i := 3) (j := 7) rfl rfl (by kernel_rfl) rfl rfl ?w2n ?w2x
      case w2n =>
        refine call_gets (d := 27) (f := 21) (xs := #[.tmp 24, .const (.string ⟨#[110, 101, 120, 116]⟩), .tmp 26]) (ats := #[24, 9, 9]) rfl rfl eb (vs := #[.agg #[.slice xa f1.length xc], .string ⟨#[110, 101, 120, 116]⟩, .string sl]) (by simp [Act.eval]) (CR.out wj1 _ (KD.out _ (wj1_b))) ?_
        rintro vr wn2 ⟨u5, rfl, hu5, hb⟩
        have wn2_b : Below w3.heap.size w3 wn2 := (wj1_b).trans (hb.mono (Below.size (wj1_b)))
        obtain ⟨ya, yc, eu⟩ : ∃ a c, u5 = .slice a f2.length c := by obtain ⟨a, c, e, _⟩ := hu5; exact ⟨a, c, e⟩
        subst eu
        have OD : Hid (DiskR wn2 (.slice ya f2.length yc) f2) := hu5
        have HS_n : Hid (wn2.cell? ⟨b3, 0, none⟩ = some (.slice xa f1.length xc)) := KEEP.out _ wn2_b
        refine ⟨HS_n.out, ?_⟩
        simp only [Act.put, List.setIfInBounds_toArray, List.set_cons_zero, List.set_cons_succ]
        clear hu5 hb
        refine takeH (i := 4) (v := .tuple #[.agg #[.slice ya f2.length yc], .int .i64 t2]) (d := 23) rfl rfl (by kernel_rfl) (by kernel_rfl) (by kernel_rfl) (fun _ _ _ h => h) (by rfl) (fun V hV => by have v1 := hV; go_simp) HS_n.out ?_
        simp only [Act.put, List.setIfInBounds_toArray, List.set_cons_zero, List.set_cons_succ]
        refine takeH (i := 5) (v := .agg #[.slice ya f2.length yc]) (d := 28) rfl rfl (by kernel_rfl) (by kernel_rfl) (by kernel_rfl) (fun _ _ _ h => h) (by rfl) (fun V hV => by have v1 := hV; go_simp) HS_n.out ?_
        simp only [Act.put, List.setIfInBounds_toArray, List.set_cons_zero, List.set_cons_succ]
        refine takeH (i := 6) (v := .int .i64 t2) (d := 29) rfl rfl (by kernel_rfl) (by kernel_rfl) (by kernel_rfl) (fun _ _ _ h => h) (by rfl) (fun V hV => by have v1 := hV; go_simp) HS_n.out ?_
        simp only [Act.put, List.setIfInBounds_toArray, List.set_cons_zero, List.set_cons_succ]
        refine oneH (i := 7) rfl (by kernel_rfl) rfl (op_run (d := 8) (v' := .pointer (some ⟨wn2.heap.size, 0, none⟩)) (w' := wn2.alloc (.cells #[.slice none 0 0] 24)) rfl (by go_simp) ⟨KEEP.out _ (Below.alloc (wn2_b) (Below.size (wn2_b)) _), ?_⟩)
        simp only [Act.put, List.setIfInBounds_toArray, List.set_cons_zero, List.set_cons_succ]
        have wx3_b : Below w3.heap.size w3 (wn2.alloc (.cells #[.slice none 0 0] 24)) := Below.alloc (wn2_b) (Below.size (wn2_b)) _
        have NZ : Hid (BX 24 (wn2.alloc (.cells #[.slice none 0 0] 24)) (wn2.heap.size) #[.slice none 0 0]) := BX.new _ _ _
        have LB : Hid (w3.heap.size ≤ wn2.heap.size) := Below.size (wn2_b)
        replace OD : Hid (DiskR (wn2.alloc (.cells #[.slice none 0 0] 24)) (.slice ya f2.length yc) f2) := OD.out.below (below_alloc _ _) (Nat.le_refl _)
        generalize wn2.alloc (.cells #[.slice none 0 0] 24) = wx3 at *
        obtain ⟨bk0, hbk⟩ : ∃ b, b = wn2.heap.size := ⟨_, rfl⟩
        rw [← hbk] at NZ LB ⊢
        clear hbk
        obtain ⟨d0, e0⟩ := NZ.out.all1
        have FX : Hid (BX 24 (wx3.setCell ⟨bk0, 0, none⟩ (.slice ya f2.length yc)) bk0 #[.slice ya f2.length yc]) := NZ.out.set 0 _
        have FD : Hid (DiskR (wx3.setCell ⟨bk0, 0, none⟩ (.slice ya f2.length yc)) (.slice ya f2.length yc) f2) := OD.out.setBox NZ.out
        have FB : Hid (Below w3.heap.size w3 (wx3.setCell ⟨bk0, 0, none⟩ (.slice ya f2.length yc))) := wx3_b.setCell LB.out _
        have HSF : Hid ((wx3.setCell ⟨bk0, 0, none⟩ (.slice ya f2.length yc)).cell? ⟨b3, 0, none⟩ = some (.slice xa f1.length xc)) := KEEP.out _ FB.out
        refine oneH (i := 8) rfl (by kernel_rfl) rfl (op_skip (w' := (wx3.setCell ⟨bk0, 0, none⟩ (.slice ya f2.length yc))) rfl (by go_simp) ⟨HSF.out, ?_⟩)
        refine takeH (i := 9) (v := .int .i64 t2) (d := 9) rfl rfl (by kernel_rfl) (by kernel_rfl) (by kernel_rfl) (fun _ _ _ h => h) (by rfl) (fun V hV => by have v1 := hV; go_simp) HSF.out ?_
        simp only [Act.put, List.setIfInBounds_toArray, List.set_cons_zero, List.set_cons_succ]
        refine wpAnyH_done (by kernel_rfl) ?_ _
        clear HSF NZ OD d0 e0
        generalize (wx3.setCell ⟨bk0, 0, none⟩ (.slice ya f2.length yc)) = WF at *
        revert LB
        revert FB
        revert FD
        revert FX
        revert WF
        revert bk0
        revert yc
        revert ya
        exact HG.out
      case w2x =>
        refine op_run (d := 8) (v' := .pointer (some ⟨wj1.heap.size, 0, none⟩)) (w' := wj1.alloc (.cells #[.slice none 0 0] 24)) rfl (by go_simp) ⟨KEEP.out _ (Below.alloc (wj1_b) (Below.size (wj1_b)) _), ?_⟩
        simp only [Act.put, List.setIfInBounds_toArray, List.set_cons_zero, List.set_cons_succ]
        have wx2_b : Below w3.heap.size w3 (wj1.alloc (.cells #[.slice none 0 0] 24)) := Below.alloc (wj1_b) (Below.size (wj1_b)) _
        have NX : Hid (BX 24 (wj1.alloc (.cells #[.slice none 0 0] 24)) (wj1.heap.size) #[.slice none 0 0]) := BX.new _ _ _
        have LB : Hid (w3.heap.size ≤ wj1.heap.size) := Below.size (wj1_b)
        generalize wj1.alloc (.cells #[.slice none 0 0] 24) = wx2 at *
        obtain ⟨bk0, hbk⟩ : ∃ b, b = wj1.heap.size := ⟨_, rfl⟩
        rw [← hbk] at NX LB ⊢
        clear hbk
        refine oneH (i := 3) rfl (by kernel_rfl) rfl (call_gets (d := 27) (f := 21) (xs := #[.tmp 24, .const (.string ⟨#[110, 101, 120, 116]⟩), .tmp 26]) (ats := #[24, 9, 9]) rfl rfl eb (vs := #[.agg #[.slice xa f1.length xc], .string ⟨#[110, 101, 120, 116]⟩, .string sl]) (by simp [Act.eval]) (CR.out wx2 _ (KD.out _ (wx2_b))) ?_)
        rintro vr wn3 ⟨u5, rfl, hu5, hb⟩
        have wn3_b : Below w3.heap.size w3 wn3 := (wx2_b).trans (hb.mono (Below.size (wx2_b)))
        obtain ⟨ya, yc, eu⟩ : ∃ a c, u5 = .slice a f2.length c := by obtain ⟨a, c, e, _⟩ := hu5; exact ⟨a, c, e⟩
        subst eu
        have OD : Hid (DiskR wn3 (.slice ya f2.length yc) f2) := hu5
        have NZ : Hid (BX 24 wn3 bk0 #[.slice none 0 0]) := NX.out.below hb NX.out.lt
        have HS_n : Hid (wn3.cell? ⟨b3, 0, none⟩ = some (.slice xa f1.length xc)) := KEEP.out _ wn3_b
        refine ⟨HS_n.out, ?_⟩
        simp only [Act.put, List.setIfInBounds_toArray, List.set_cons_zero, List.set_cons_succ]
        clear hu5 hb
        refine takeH (i := 4) (v := .tuple #[.agg #[.slice ya f2.length yc], .int .i64 t2]) (d := 23) rfl rfl (by kernel_rfl) (by kernel_rfl) (by kernel_rfl) (fun _ _ _ h => h) (by rfl) (fun V hV => by have v1 := hV; go_simp) HS_n.out ?_
        simp only [Act.put, List.setIfInBounds_toArray, List.set_cons_zero, List.set_cons_succ]
        refine takeH (i := 5) (v := .agg #[.slice ya f2.length yc]) (d := 28) rfl rfl (by kernel_rfl) (by kernel_rfl) (by kernel_rfl) (fun _ _ _ h => h) (by rfl) (fun V hV => by have v1 := hV; go_simp) HS_n.out ?_
        simp only [Act.put, List.setIfInBounds_toArray, List.set_cons_zero, List.set_cons_succ]
        refine takeH (i := 6) (v := .int .i64 t2) (d := 29) rfl rfl (by kernel_rfl) (by kernel_rfl) (by kernel_rfl) (fun _ _ _ h => h) (by rfl) (fun V hV => by have v1 := hV; go_simp) HS_n.out ?_
        simp only [Act.put, List.setIfInBounds_toArray, List.set_cons_zero, List.set_cons_succ]
        obtain ⟨d0, e0⟩ := NZ.out.all1
        have FX : Hid (BX 24 (wn3.setCell ⟨bk0, 0, none⟩ (.slice ya f2.length yc)) bk0 #[.slice ya f2.length yc]) := NZ.out.set 0 _
        have FD : Hid (DiskR (wn3.setCell ⟨bk0, 0, none⟩ (.slice ya f2.length yc)) (.slice ya f2.length yc) f2) := OD.out.setBox NZ.out
        have FB : Hid (Below w3.heap.size w3 (wn3.setCell ⟨bk0, 0, none⟩ (.slice ya f2.length yc))) := wn3_b.setCell LB.out _
        have HSF : Hid ((wn3.setCell ⟨bk0, 0, none⟩ (.slice ya f2.length yc)).cell? ⟨b3, 0, none⟩ = some (.slice xa f1.length xc)) := KEEP.out _ FB.out
        refine oneH (i := 8) rfl (by kernel_rfl) rfl (op_skip (w' := (wn3.setCell ⟨bk0, 0, none⟩ (.slice ya f2.length yc))) rfl (by go_simp) ⟨HSF.out, ?_⟩)
        refine takeH (i := 9) (v := .int .i64 t2) (d := 9) rfl rfl (by kernel_rfl) (by kernel_rfl) (by kernel_rfl) (fun _ _ _ h => h) (by rfl) (fun V hV => by have v1 := hV; go_simp) HSF.out ?_
        simp only [Act.put, List.setIfInBounds_toArray, List.set_cons_zero, List.set_cons_succ]
        refine wpAnyH_done (by kernel_rfl) ?_ _
        exact HG.out ya yc _ _ FX FD FB LB
    case w1x =>
      refine op_run (d := 8) (v' := .pointer (some ⟨w3.heap.size, 0, none⟩)) (w' := w3.drew.alloc (.cells #[.slice none 0 0] 24)) rfl (by go_simp) ⟨KEEP.out _ (Below.alloc (b0) (Below.size (b0)) _), ?_⟩
      simp only [Act.put, List.setIfInBounds_toArray, List.set_cons_zero, List.set_cons_succ]
      have wx1_b : Below w3.heap.size w3 (w3.drew.alloc (.cells #[.slice none 0 0] 24)) := Below.alloc (b0) (Below.size (b0)) _
      have NX : Hid (BX 24 (w3.drew.alloc (.cells #[.slice none 0 0] 24)) (w3.heap.size) #[.slice none 0 0]) := BX.new _ _ _
      have LB : Hid (w3.heap.size ≤ w3.heap.size) := Nat.le_refl _
      generalize w3.drew.alloc (.cells #[.slice none 0 0] 24) = wx1 at *
      obtain ⟨bk0, hbk⟩ : ∃ b, b = w3.heap.size := ⟨_, rfl⟩
      replace LB : Hid (w3.heap.size ≤ bk0) := by show _ ≤ _; omega
      rw [← hbk] at NX ⊢
      clear hbk
      refine oneH (i := 2) rfl (by kernel_rfl) rfl (call_gets (d := 26) (f := 22) (xs := #[.tmp 25]) (ats := #[3]) rfl rfl ea (vs := #[.int .i64 n]) (by simp [Act.eval]) (CA.out wx1) ?_)
      rintro vr wj2 ⟨rfl, hb⟩
      have wj2_b : Below w3.heap.size w3 wj2 := (wx1_b).trans (hb.mono (Below.size (wx1_b)))
      refine ⟨KEEP.out _ wj2_b, ?_⟩
      simp only [Act.put, List.setIfInBounds_toArray, List.set_cons_zero, List.set_cons_succ]
      replace NX : Hid (BX 24 wj2 bk0 #[.slice none 0 0]) := NX.out.below hb NX.out.lt
      clear hb
      refine oneH (i := 3) rfl (by kernel_rfl) rfl (call_gets (d := 27) (f := 21) (xs := #[.tmp 24, .const (.string ⟨#[110, 101, 120, 116]⟩), .tmp 26]) (ats := #[24, 9, 9]) rfl rfl eb (vs := #[.agg #[.slice xa f1.length xc], .string ⟨#[110, 101, 120, 116]⟩, .string sl]) (by simp [Act.eval]) (CR.out wj2 _ (KD.out _ (wj2_b))) ?_)
      rintro vr wn4 ⟨u5, rfl, hu5, hb⟩
      have wn4_b : Below w3.heap.size w3 wn4 := (wj2_b).trans (hb.mono (Below.size (wj2_b)))
      obtain ⟨ya, yc, eu⟩ : ∃ a c, u5 = .slice a f2.length c := by obtain ⟨a, c, e, _⟩ := hu5; exact ⟨a, c, e⟩
      subst eu
      have OD : Hid (DiskR wn4 (.slice ya f2.length yc) f2) := hu5
      have NZ : Hid (BX 24 wn4 bk0 #[.slice none 0 0]) := NX.out.below hb NX.out.lt
      have HS_n : Hid (wn4.cell? ⟨b3, 0, none⟩ = some (.slice xa f1.length xc)) := KEEP.out _ wn4_b
      refine ⟨HS_n.out, ?_⟩
      simp only [Act.put, List.setIfInBounds_toArray, List.set_cons_zero, List.set_cons_succ]
      clear hu5 hb
      refine takeH (i := 4) (v := .tuple #[.agg #[.slice ya f2.length yc], .int .i64 t2]) (d := 23) rfl rfl (by kernel_rfl) (by kernel_rfl) (by kernel_rfl) (fun _ _ _ h => h) (by rfl) (fun V hV => by have v1 := hV; go_simp) HS_n.out ?_
      simp only [Act.put, List.setIfInBounds_toArray, List.set_cons_zero, List.set_cons_succ]
      refine takeH (i := 5) (v := .agg #[.slice ya f2.length yc]) (d := 28) rfl rfl (by kernel_rfl) (by kernel_rfl) (by kernel_rfl) (fun _ _ _ h => h) (by rfl) (fun V hV => by have v1 := hV; go_simp) HS_n.out ?_
      simp only [Act.put, List.setIfInBounds_toArray, List.set_cons_zero, List.set_cons_succ]
      refine takeH (i := 6) (v := .int .i64 t2) (d := 29) rfl rfl (by kernel_rfl) (by kernel_rfl) (by kernel_rfl) (fun _ _ _ h => h) (by rfl) (fun V hV => by have v1 := hV; go_simp) HS_n.out ?_
      simp only [Act.put, List.setIfInBounds_toArray, List.set_cons_zero, List.set_cons_succ]
      obtain ⟨d0, e0⟩ := NZ.out.all1
      have FX : Hid (BX 24 (wn4.setCell ⟨bk0, 0, none⟩ (.slice ya f2.length yc)) bk0 #[.slice ya f2.length yc]) := NZ.out.set 0 _
      have FD : Hid (DiskR (wn4.setCell ⟨bk0, 0, none⟩ (.slice ya f2.length yc)) (.slice ya f2.length yc) f2) := OD.out.setBox NZ.out
      have FB : Hid (Below w3.heap.size w3 (wn4.setCell ⟨bk0, 0, none⟩ (.slice ya f2.length yc))) := wn4_b.setCell LB.out _
      have HSF : Hid ((wn4.setCell ⟨bk0, 0, none⟩ (.slice ya f2.length yc)).cell? ⟨b3, 0, none⟩ = some (.slice xa f1.length xc)) := KEEP.out _ FB.out
      refine oneH (i := 8) rfl (by kernel_rfl) rfl (op_skip (w' := (wn4.setCell ⟨bk0, 0, none⟩ (.slice ya f2.length yc))) rfl (by go_simp) ⟨HSF.out, ?_⟩)
      refine takeH (i := 9) (v := .int .i64 t2) (d := 9) rfl rfl (by kernel_rfl) (by kernel_rfl) (by kernel_rfl) (fun _ _ _ h => h) (by rfl) (fun V hV => by have v1 := hV; go_simp) HSF.out ?_
      simp only [Act.put, List.setIfInBounds_toArray, List.set_cons_zero, List.set_cons_succ]
      refine wpAnyH_done (by kernel_rfl) ?_ _
      exact HG.out ya yc _ _ FX FD FB LB
  case g =>
    intro ya yc bk0 WF FX FD FB LB
    have A4 : Below W0.heap.size W0 WF := A3.out.trans (FB.out.mono A3.out.size)
    obtain ⟨x0, _⟩ := FX.out.all1
    obtain ⟨m0, m1⟩ := (HK.out _ A4).2.1.all1
    have HX : Hid (P (.returned (.tuple #[.agg #[.slice ya f2.length yc], .int .i64 t2])) (WF.setCell ⟨w.heap.size + 1, 0, none⟩ (.slice ya f2.length yc))) := HE.out _ _ (FD.out.setBox (HK.out _ A4).2.1) ((HK.out _ A4).2.2.1.setCell (Nat.le_succ _) _)
    have RX := ((HK.out _ A4).2.1.set 0 (.slice ya f2.length yc)).all1.1
    clear A4 ea eb HS0 b0
    go_wp2_with fail
    exact bodyPost_ret (v := .tuple #[.agg #[.slice ya f2.length yc], .int .i64 t2]) (by simp [results, Tryd.results8, go_sem, RX]) rfl HX.out
end Go.Proofs.YthakibcfmbkpkaaDoor
