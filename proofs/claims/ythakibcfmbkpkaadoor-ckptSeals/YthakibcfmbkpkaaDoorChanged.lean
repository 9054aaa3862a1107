/-
  Contract of disk's changed, whatever change it is handed: by that change's own contract.
-/
import Derived.Test.YthakibcfmbkpkaaDoorCopyFiles
namespace Go.Proofs.YthakibcfmbkpkaaDoor
set_option maxRecDepth 100000
open Go.ChangeShapes Go.WideShapes Go.ChangeAt Go.RowKit

/-- P3.1 ahead of all else. -/
def chF (fs : List FileL) (g : List FileL × Int) : List FileL × Int := if mayB fs = true then g else ([], 9)

/-- What a change does with a disk at work, in the block p: it answers an error, or leaves the files g. -/
def Change (fs : List FileL) (g : List FileL × Int) (k : Nat) (caps : List Value) (w : World) : Prop :=
  ∀ (p B : Nat) (w3 : World) (v3 : Value) (vs : List Value), w.heap.size ≤ p → p < B → B ≤ w3.heap.size → w3.cell? ⟨p, 0, none⟩ = some v3 → w3.frozen? ⟨p, 0, none⟩ = false → OwnD w3 B v3 fs vs → Below w.heap.size w w3 → mayB fs = true →
    Calls Tryd.prog k (.pointer (some ⟨p, 0, none⟩) :: caps).toArray w3 fun e w4 => ∃ v4, e = .returned (.int .i64 g.2) ∧ w4.cell? ⟨p, 0, none⟩ = some v4 ∧ (g.2 = 0 → DiskR w4 v4 g.1) ∧ Below p w3 w4

theorem diskR_nil (w : World) : DiskR w (.slice none 0 0) [] := ⟨none, 0, rfl, by simp, by simp [maxLen], fun _ => rfl, fun hn => by simp at hn⟩
/-- A disk behind a store into a cell that held a slice. -/
theorem DiskR.setSlice {w : World} {v : Value} {fs : List FileL} {p : Addr} {a : Option Addr} {n c : Nat} {x : Value} (h : DiskR w v fs) (hp : w.cell? p = some (.slice a n c)) (hne : 0 < fs.length → ∀ b off cap, v = .slice (some ⟨b, off, none⟩) fs.length cap → p.block ≠ b) : DiskR (w.setCell p x) v fs := by
  obtain ⟨a', cap, rfl, hc, hm, ha, hel⟩ := h
  refine ⟨a', cap, rfl, hc, hm, ha, fun hn => ?_⟩
  obtain ⟨b, off, rfl, lt, vs, hv⟩ := hel hn
  have hb := hne hn b off cap rfl
  refine ⟨b, off, rfl, by rw [size_setCell]; exact lt, vs, fun i hi => ?_⟩
  obtain ⟨c1, c2, c3, c4⟩ := hv i hi
  have far : ∀ o u, w.cell? ⟨b, o, none⟩ = some u → (w.setCell p x).cell? ⟨b, o, none⟩ = some u := fun o u hu => by
    rw [World.cell?_setCell_other _ _ _ _ (fun e => hb (congrArg Addr.block e))]; exact hu
  exact ⟨far _ _ c1, far _ _ c2, far _ _ c3, c4.set hp (fun m hh => by cases hh)⟩

set_option maxHeartbeats 1000000 in
set_option maxRecDepth 100000 in
theorem changed_one (v : Value) (fs : List FileL) (g : List FileL × Int) (k : Nat) (c1 : Value) (w : World) (h : DiskR w v fs) (hg : Good fs) (hge : g.2 ≠ 0 → g.1 = []) (hent : ∀ args w, (callFunc k args).run Tryd.prog w = .ok (.enter k args) w) (hch : Change fs g k [c1] w) :
    Calls Tryd.prog 33 #[.agg #[v], .func (.func k) #[] #[c1]] w fun e w' => ∃ v', e = .returned (.tuple #[.agg #[v'], .int .i64 (chF fs g).2]) ∧ DiskR w' v' (chF fs g).1 ∧ Below w.heap.size w w' := by
  have HG : Hid (Good fs) := hg
  have HD : Hid (DiskR w v fs) := h
  have HC : Hid (Change fs g k [c1] w) := hch
  have HGE : Hid (g.2 ≠ 0 → g.1 = []) := hge
  obtain ⟨a, cap, rfl, hc, hm, _, _⟩ := h
  clear hg hch hge
  unfold maxLen at hm
  go_enter Tryd.func33, Tryd.ntmps33
  go_wp2_with fail
  refine (mayBe_any (w.heap.size + 2) (.slice a fs.length cap) fs _ ?_ ?_ HG.out).mono ?_
  · exact cell_third _ _ _ _ _
  · exact ((HD.out.below (below_alloc _ _) (Nat.le_refl _)).below (below_alloc _ _) (Nat.le_refl _)).below (below_alloc _ _) (Nat.le_refl _)
  rintro e w1 ⟨rfl, hb1⟩
  have hb1' : Below (w.heap.size + 3) (((w.alloc (.cells #[.slice a fs.length cap] 24)).alloc (.cells #[.slice none 0 0] 24)).alloc (.cells #[.slice a fs.length cap] 62)) w1 := by simpa using hb1
  have r1 : w1.cell? ⟨w.heap.size + 2, 0, none⟩ = some (.slice a fs.length cap) := (hb1'.cell (p := ⟨w.heap.size + 2, 0, none⟩) (Nat.lt_succ_self _)).trans (cell_third _ _ _ _ _)
  have r2 : w1.frozen? ⟨w.heap.size + 2, 0, none⟩ = false := (hb1'.frozen (p := ⟨w.heap.size + 2, 0, none⟩) (Nat.lt_succ_self _)).trans (frozen_third _ _ _ _ _)
  have B0 : Hid (Below (w.heap.size + 2) ((w.alloc (.cells #[.slice a fs.length cap] 24)).alloc (.cells #[.slice none 0 0] 24)) w1) := ((Below.refl _ _).alloc (by simp) _).trans (hb1'.mono (by omega))
  have hs1 : w.heap.size + 3 ≤ w1.heap.size := by have := hb1'.size; simp at this; omega
  have B1 : Hid (Below w.heap.size w w1) := below_two B0.out
  have D1 : Hid (DiskR w1 (.slice a fs.length cap) fs) := HD.out.below B1.out (Nat.le_refl _)
  clear hb1 hb1'
  cases hmay : mayB fs with
  | false =>
    have HF : Hid (chF fs g = ([], 9)) := by simp [chF, Hid, hmay]
    have t1 : w1.cell? ⟨w.heap.size + 1, 0, none⟩ = some (.slice none 0 0) := (B0.out.cell (p := ⟨w.heap.size + 1, 0, none⟩) (Nat.lt_succ_self _)).trans (cell_second _ _ _ _)
    have t2 : w1.frozen? ⟨w.heap.size + 1, 0, none⟩ = false := (B0.out.frozen (p := ⟨w.heap.size + 1, 0, none⟩) (Nat.lt_succ_self _)).trans (frozen_second _ _ _ _)
    clear hmay
    go_wp2_with fail
    refine bodyPost_ret (v := .tuple #[.agg #[.slice none 0 0], .int .i64 9]) (by simp [results, Tryd.results33, go_sem, t1]) rfl ⟨.slice none 0 0, by rw [HF.out], by rw [HF.out]; exact diskR_nil _, B1.out.setCell (show w.heap.size ≤ w.heap.size + 1 by omega) _⟩
  | true =>
    have HMAY : Hid (mayB fs = true) := hmay
    have HF : Hid (chF fs g = g) := by simp [chF, Hid, hmay]
    clear hmay
    have h40 := (may_iff.1 HMAY.out).1
    go_wp2_with fail
    refine (copyFiles_any (w.heap.size + 2) (.slice a fs.length cap) fs _ r1 r2 D1.out HG.out h40).mono ?_
    rintro e w2 ⟨v2, vs2, rfl, hc2, hf2, ho2, hb2⟩
    have B2 : Hid (Below (w.heap.size + 2) ((w.alloc (.cells #[.slice a fs.length cap] 24)).alloc (.cells #[.slice none 0 0] 24)) w2) := B0.out.trans hb2
    have hs2 := hb2.size
    have O2 : Hid (OwnD w2 w1.heap.size v2 fs vs2) := ho2
    clear hb2 ho2
    go_wp2_with fail
    refine (HC.out (w.heap.size + 2) w1.heap.size _ v2 vs2 (by omega) (by omega) hs2 hc2 hf2 O2.out (below_two B2.out) HMAY.out).mono ?_
    rintro e w4 ⟨v4, rfl, hc4, hd4, hb4⟩
    have B4 : Hid (Below (w.heap.size + 2) ((w.alloc (.cells #[.slice a fs.length cap] 24)).alloc (.cells #[.slice none 0 0] 24)) w4) := B2.out.trans hb4
    have t1 : w4.cell? ⟨w.heap.size + 1, 0, none⟩ = some (.slice none 0 0) := (B4.out.cell (p := ⟨w.heap.size + 1, 0, none⟩) (Nat.lt_succ_self _)).trans (cell_second _ _ _ _)
    have t2 : w4.frozen? ⟨w.heap.size + 1, 0, none⟩ = false := (B4.out.frozen (p := ⟨w.heap.size + 1, 0, none⟩) (Nat.lt_succ_self _)).trans (frozen_second _ _ _ _)
    clear hb4
    by_cases he : g.2 = 0
    · have HD4 : Hid (DiskR w4 v4 g.1) := hd4 he
      have HE : Hid (g.2 = 0) := he
      have he' : (g.2 != 0) = false := by simp [he]
      clear hd4 he
      obtain ⟨a4, c4, rfl, _, _, _, hel4⟩ := HD4.out
      have hblk : w4.heap[w.heap.size + 1]? = some (.cells #[.slice none 0 0] 24 (0, 0)) := by
        rw [B4.out.block (w.heap.size + 1) (Nat.lt_succ_self _)]
        have := heap_alloc_new (w.alloc (.cells #[.slice a fs.length cap] 24)) (.cells #[.slice none 0 0] 24)
        simpa using this
      have D5 : Hid (DiskR (w4.setCell ⟨w.heap.size + 1, 0, none⟩ (.slice a4 g.1.length c4)) (.slice a4 g.1.length c4) g.1) := by
        refine HD4.out.setSlice t1 (fun hn b off cap' e hb => ?_)
        injection e with e1 _ _
        subst e1
        have hb' : w.heap.size + 1 = b := hb
        subst hb'
        obtain ⟨b', off', e', _, vs', hv'⟩ := hel4 hn
        injection e' with e'
        injection e' with e1 e2
        subst e1 e2
        have c2 := (hv' 0 hn).2.1
        rw [cell_of_row w4 _ _ _ _ _ hblk] at c2
        simp at c2
      have HR : Hid (g = (g.1, 0)) := Prod.ext rfl HE.out
      clear hel4 hblk
      generalize g.2 = q at *
      go_wp2_with fail
      refine bodyPost_ret (v := .tuple #[.agg #[.slice a4 g.1.length c4], .int .i64 0]) (by simp [results, Tryd.results33, go_sem, t1]) rfl ⟨_, by rw [HF.out, HR.out], by rw [HF.out]; exact D5.out, (below_two B4.out).setCell (show w.heap.size ≤ w.heap.size + 1 by omega) _⟩
    · have HR : Hid (g = ([], g.2)) := Prod.ext (HGE.out he) rfl
      have he' : (g.2 != 0) = true := by simp [he]
      clear hd4 he
      generalize g.2 = q at *
      go_wp2_with fail
      refine bodyPost_ret (v := .tuple #[.agg #[.slice none 0 0], .int .i64 q]) (by simp [results, Tryd.results33, go_sem, t1]) rfl ⟨.slice none 0 0, by rw [HF.out, HR.out], by rw [HF.out, HR.out]; exact diskR_nil _, (below_two B4.out).setCell (show w.heap.size ≤ w.heap.size + 1 by omega) _⟩
set_option maxHeartbeats 1000000 in
set_option maxRecDepth 100000 in
theorem changed_two (v : Value) (fs : List FileL) (g : List FileL × Int) (k : Nat) (c1 c2 : Value) (w : World) (h : DiskR w v fs) (hg : Good fs) (hge : g.2 ≠ 0 → g.1 = []) (hent : ∀ args w, (callFunc k args).run Tryd.prog w = .ok (.enter k args) w) (hch : Change fs g k [c1, c2] w) :
    Calls Tryd.prog 33 #[.agg #[v], .func (.func k) #[] #[c1, c2]] w fun e w' => ∃ v', e = .returned (.tuple #[.agg #[v'], .int .i64 (chF fs g).2]) ∧ DiskR w' v' (chF fs g).1 ∧ Below w.heap.size w w' := by
  have HG : Hid (Good fs) := hg
  have HD : Hid (DiskR w v fs) := h
  have HC : Hid (Change fs g k [c1, c2] w) := hch
  have HGE : Hid (g.2 ≠ 0 → g.1 = []) := hge
  obtain ⟨a, cap, rfl, hc, hm, _, _⟩ := h
  clear hg hch hge
  unfold maxLen at hm
  go_enter Tryd.func33, Tryd.ntmps33
  go_wp2_with fail
  refine (mayBe_any (w.heap.size + 2) (.slice a fs.length cap) fs _ ?_ ?_ HG.out).mono ?_
  · exact cell_third _ _ _ _ _
  · exact ((HD.out.below (below_alloc _ _) (Nat.le_refl _)).below (below_alloc _ _) (Nat.le_refl _)).below (below_alloc _ _) (Nat.le_refl _)
  rintro e w1 ⟨rfl, hb1⟩
  have hb1' : Below (w.heap.size + 3) (((w.alloc (.cells #[.slice a fs.length cap] 24)).alloc (.cells #[.slice none 0 0] 24)).alloc (.cells #[.slice a fs.length cap] 62)) w1 := by simpa using hb1
  have r1 : w1.cell? ⟨w.heap.size + 2, 0, none⟩ = some (.slice a fs.length cap) := (hb1'.cell (p := ⟨w.heap.size + 2, 0, none⟩) (Nat.lt_succ_self _)).trans (cell_third _ _ _ _ _)
  have r2 : w1.frozen? ⟨w.heap.size + 2, 0, none⟩ = false := (hb1'.frozen (p := ⟨w.heap.size + 2, 0, none⟩) (Nat.lt_succ_self _)).trans (frozen_third _ _ _ _ _)
  have B0 : Hid (Below (w.heap.size + 2) ((w.alloc (.cells #[.slice a fs.length cap] 24)).alloc (.cells #[.slice none 0 0] 24)) w1) := ((Below.refl _ _).alloc (by simp) _).trans (hb1'.mono (by omega))
  have hs1 : w.heap.size + 3 ≤ w1.heap.size := by have := hb1'.size; simp at this; omega
  have B1 : Hid (Below w.heap.size w w1) := below_two B0.out
  have D1 : Hid (DiskR w1 (.slice a fs.length cap) fs) := HD.out.below B1.out (Nat.le_refl _)
  clear hb1 hb1'
  cases hmay : mayB fs with
  | false =>
    have HF : Hid (chF fs g = ([], 9)) := by simp [chF, Hid, hmay]
    have t1 : w1.cell? ⟨w.heap.size + 1, 0, none⟩ = some (.slice none 0 0) := (B0.out.cell (p := ⟨w.heap.size + 1, 0, none⟩) (Nat.lt_succ_self _)).trans (cell_second _ _ _ _)
    have t2 : w1.frozen? ⟨w.heap.size + 1, 0, none⟩ = false := (B0.out.frozen (p := ⟨w.heap.size + 1, 0, none⟩) (Nat.lt_succ_self _)).trans (frozen_second _ _ _ _)
    clear hmay
    go_wp2_with fail
    refine bodyPost_ret (v := .tuple #[.agg #[.slice none 0 0], .int .i64 9]) (by simp [results, Tryd.results33, go_sem, t1]) rfl ⟨.slice none 0 0, by rw [HF.out], by rw [HF.out]; exact diskR_nil _, B1.out.setCell (show w.heap.size ≤ w.heap.size + 1 by omega) _⟩
  | true =>
    have HMAY : Hid (mayB fs = true) := hmay
    have HF : Hid (chF fs g = g) := by simp [chF, Hid, hmay]
    clear hmay
    have h40 := (may_iff.1 HMAY.out).1
    go_wp2_with fail
    refine (copyFiles_any (w.heap.size + 2) (.slice a fs.length cap) fs _ r1 r2 D1.out HG.out h40).mono ?_
    rintro e w2 ⟨v2, vs2, rfl, hc2, hf2, ho2, hb2⟩
    have B2 : Hid (Below (w.heap.size + 2) ((w.alloc (.cells #[.slice a fs.length cap] 24)).alloc (.cells #[.slice none 0 0] 24)) w2) := B0.out.trans hb2
    have hs2 := hb2.size
    have O2 : Hid (OwnD w2 w1.heap.size v2 fs vs2) := ho2
    clear hb2 ho2
    go_wp2_with fail
    refine (HC.out (w.heap.size + 2) w1.heap.size _ v2 vs2 (by omega) (by omega) hs2 hc2 hf2 O2.out (below_two B2.out) HMAY.out).mono ?_
    rintro e w4 ⟨v4, rfl, hc4, hd4, hb4⟩
    have B4 : Hid (Below (w.heap.size + 2) ((w.alloc (.cells #[.slice a fs.length cap] 24)).alloc (.cells #[.slice none 0 0] 24)) w4) := B2.out.trans hb4
    have t1 : w4.cell? ⟨w.heap.size + 1, 0, none⟩ = some (.slice none 0 0) := (B4.out.cell (p := ⟨w.heap.size + 1, 0, none⟩) (Nat.lt_succ_self _)).trans (cell_second _ _ _ _)
    have t2 : w4.frozen? ⟨w.heap.size + 1, 0, none⟩ = false := (B4.out.frozen (p := ⟨w.heap.size + 1, 0, none⟩) (Nat.lt_succ_self _)).trans (frozen_second _ _ _ _)
    clear hb4
    by_cases he : g.2 = 0
    · have HD4 : Hid (DiskR w4 v4 g.1) := hd4 he
      have HE : Hid (g.2 = 0) := he
      have he' : (g.2 != 0) = false := by simp [he]
      clear hd4 he
      obtain ⟨a4, c4, rfl, _, _, _, hel4⟩ := HD4.out
      have hblk : w4.heap[w.heap.size + 1]? = some (.cells #[.slice none 0 0] 24 (0, 0)) := by
        rw [B4.out.block (w.heap.size + 1) (Nat.lt_succ_self _)]
        have := heap_alloc_new (w.alloc (.cells #[.slice a fs.length cap] 24)) (.cells #[.slice none 0 0] 24)
        simpa using this
      have D5 : Hid (DiskR (w4.setCell ⟨w.heap.size + 1, 0, none⟩ (.slice a4 g.1.length c4)) (.slice a4 g.1.length c4) g.1) := by
        refine HD4.out.setSlice t1 (fun hn b off cap' e hb => ?_)
        injection e with e1 _ _
        subst e1
        have hb' : w.heap.size + 1 = b := hb
        subst hb'
        obtain ⟨b', off', e', _, vs', hv'⟩ := hel4 hn
        injection e' with e'
        injection e' with e1 e2
        subst e1 e2
        have y2 := (hv' 0 hn).2.1
        rw [cell_of_row w4 _ _ _ _ _ hblk] at y2
        simp at y2
      have HR : Hid (g = (g.1, 0)) := Prod.ext rfl HE.out
      clear hel4 hblk
      generalize g.2 = q at *
      go_wp2_with fail
      refine bodyPost_ret (v := .tuple #[.agg #[.slice a4 g.1.length c4], .int .i64 0]) (by simp [results, Tryd.results33, go_sem, t1]) rfl ⟨_, by rw [HF.out, HR.out], by rw [HF.out]; exact D5.out, (below_two B4.out).setCell (show w.heap.size ≤ w.heap.size + 1 by omega) _⟩
    · have HR : Hid (g = ([], g.2)) := Prod.ext (HGE.out he) rfl
      have he' : (g.2 != 0) = true := by simp [he]
      clear hd4 he
      generalize g.2 = q at *
      go_wp2_with fail
      refine bodyPost_ret (v := .tuple #[.agg #[.slice none 0 0], .int .i64 q]) (by simp [results, Tryd.results33, go_sem, t1]) rfl ⟨.slice none 0 0, by rw [HF.out, HR.out], by rw [HF.out, HR.out]; exact diskR_nil _, (below_two B4.out).setCell (show w.heap.size ≤ w.heap.size + 1 by omega) _⟩
end Go.Proofs.YthakibcfmbkpkaaDoor
