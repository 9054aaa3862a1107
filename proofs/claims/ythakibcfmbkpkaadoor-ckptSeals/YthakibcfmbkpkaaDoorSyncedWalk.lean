/-
  Contract of the document's own SyncedTo: what P3.4 says.
-/
import Derived.Test.YthakibcfmbkpkaaDoorSyncWalk
import Derived.Test.YthakibcfmbkpkaaDoorLawSame
namespace Go.Proofs.YthakibcfmbkpkaaDoor
set_option maxRecDepth 100000
open Go.ChangeShapes Go.WideShapes Go.ChangeAt Go.RowKit

set_option maxHeartbeats 1000000 in
set_option maxRecDepth 100000 in
theorem syncedTo_any (v : Value) (fs : List FileL) (n : ByteArray) (w : World) (h : DiskR w v fs) (hg : Good fs) (hl : fs.length * 48 ≤ 140737488351232) :
    Calls Tryd.prog 20 #[.agg #[v], .string n] w fun e w' => ∃ v', e = .returned (.tuple #[.agg #[v'], .int .i64 (chF fs (syncF fs n)).2]) ∧ DiskR w' v' (chF fs (syncF fs n)).1 ∧ Below w.heap.size w w' := by
  have HG : Hid (Good fs) := hg
  have HD : Hid (DiskR w v fs) := h
  obtain ⟨a, cap, rfl, hc, hm, ha, hel⟩ := h
  have HEL : Hid (0 < fs.length → ∃ b off, a = some ⟨b, off, none⟩ ∧ b < w.heap.size ∧ ∃ vs : Nat → Value, ∀ i, i < fs.length → FileC w b (off + i * 3) (vs i) (fs.getD i noF)) := hel
  clear ha hel hg
  unfold maxLen at hm
  go_enter Tryd.func20, Tryd.ntmps20
  go_wp2_with fail
  refine (diskMay_any _ fs _ ?_).mono ?_
  · exact (HD.out.below (below_alloc _ _) (Nat.le_refl _)).below (below_alloc _ _) (Nat.le_refl _)
  rintro e w1 ⟨rfl, hb1⟩
  have B0 : Hid (Below (w.heap.size + 2) ((w.alloc (.cells #[.slice a fs.length cap] 24)).alloc (.cells #[.slice none 0 0] 24)) w1) := by simpa [Hid] using hb1
  have r0 := two_cell0 B0.out
  have t1 := two_cell1 B0.out
  have t2 : w1.frozen? ⟨w.heap.size + 1, 0, none⟩ = false := (B0.out.frozen (p := ⟨w.heap.size + 1, 0, none⟩) (Nat.lt_succ_self _)).trans (frozen_second _ _ _ _)
  have hs1 : w.heap.size + 2 ≤ w1.heap.size := by have := B0.out.size; simp at this; omega
  have B1 : Hid (Below w.heap.size w w1) := below_two B0.out
  have D1 : Hid (DiskR w1 (.slice a fs.length cap) fs) := HD.out.below B1.out (Nat.le_refl _)
  clear hb1
  cases hmay : mayB fs with
  | false =>
    have HF : Hid (chF fs (syncF fs n) = ([], 9)) := by simp [chF, Hid, hmay]
    clear hmay
    go_wp2_with fail
    refine bodyPost_ret (v := .tuple #[.agg #[.slice none 0 0], .int .i64 9]) (by simp [results, Tryd.results20, go_sem, t1]) rfl ⟨.slice none 0 0, by rw [HF.out], by rw [HF.out]; exact diskR_nil _, B1.out.setCell (show w.heap.size ≤ w.heap.size + 1 by omega) _⟩
  | true =>
    have HFC : Hid (chF fs (syncF fs n) = syncF fs n) := by simp [chF, Hid, hmay]
    clear hmay
    go_wp2_with fail
    refine (fileAt_any _ fs n _ D1.out).mono ?_
    rintro e w2 ⟨rfl, hb2⟩
    have B2 : Hid (Below (w.heap.size + 2) ((w.alloc (.cells #[.slice a fs.length cap] 24)).alloc (.cells #[.slice none 0 0] 24)) w2) := B0.out.trans (hb2.mono (by omega))
    have r02 := two_cell0 B2.out
    have t12 := two_cell1 B2.out
    have t22 : w2.frozen? ⟨w.heap.size + 1, 0, none⟩ = false := (B2.out.frozen (p := ⟨w.heap.size + 1, 0, none⟩) (Nat.lt_succ_self _)).trans (frozen_second _ _ _ _)
    have hs2 : w.heap.size + 2 ≤ w2.heap.size := by have := hb2.size; omega
    clear hb2 r0 t1 t2
    rcases atF_cases fs n with ⟨k, hk, e, _, _⟩ | ⟨e, _⟩
    · have HF : Hid (syncF fs n = (fs.set k { fs.getD k noF with synced := ((fs.getD k noF).data.length : Int) }, 0)) := syncF_some e
      rw [e]
      clear e
      have D2 : Hid (DiskR w2 (.slice a fs.length cap) fs) := HD.out.below (below_two B2.out) (Nat.le_refl _)
      go_wp2_with fail
      refine (diskCopy_any _ fs _ D2.out HG.out hl).mono ?_
      rintro e w3 ⟨v3, vs3, rfl, ho3, hb3⟩
      have B3 : Hid (Below (w.heap.size + 2) ((w.alloc (.cells #[.slice a fs.length cap] 24)).alloc (.cells #[.slice none 0 0] 24)) w3) := B2.out.trans (hb3.mono (by omega))
      have hs3 := hb3.size
      have B4 : Hid (∀ o, Below (w.heap.size + 2) ((w.alloc (.cells #[.slice a fs.length cap] 24)).alloc (.cells #[.slice none 0 0] 24)) (w3.alloc o)) := fun o => B3.out.alloc (by omega) o
      have O3 : Hid (OwnD w3 w2.heap.size v3 fs vs3) := ho3
      clear hb3 ho3
      rcases O3.out.row_or with ⟨_, rfl⟩ | ⟨g, gcap, rfl, hg, hrow⟩
      · simp at hk
      obtain ⟨b, off, rfl, lt, dvs, hv⟩ := HEL.out (by omega)
      have r04 : ∀ o, (w3.alloc o).cell? ⟨w.heap.size, 0, none⟩ = some (.slice (some ⟨b, off, none⟩) fs.length cap) := fun o => two_cell0 (B4.out o)
      have t14 : ∀ o, (w3.alloc o).cell? ⟨w.heap.size + 1, 0, none⟩ = some (.slice none 0 0) := fun o => two_cell1 (B4.out o)
      have t24 : ∀ o, (w3.alloc o).frozen? ⟨w.heap.size + 1, 0, none⟩ = false := fun o => ((B4.out o).frozen (p := ⟨w.heap.size + 1, 0, none⟩) (Nat.lt_succ_self _)).trans (frozen_second _ _ _ _)
      obtain ⟨f1, f2, f3, f4⟩ := (hv k hk).below (below_two B3.out) (Nat.le_refl _)
      obtain ⟨da, dc, hdv, hd1, hd2, _, _⟩ := f4
      rw [hdv] at f2
      have lb3 : b < w3.heap.size := by omega
      have f24 : ∀ o, (w3.alloc o).cell? ⟨b, off + k * 3 + 1, none⟩ = some (.slice da (fs.getD k noF).data.length dc) := fun o => ((below_alloc w3 o).cell (p := ⟨b, off + k * 3 + 1, none⟩) lb3).trans f2
      have R4 : Hid (∀ o, RowF (w3.alloc o) g gcap fs (fun i => vs3.getD i undef)) := fun o => hrow.below (below_alloc w3 o) (Nat.le_refl _)
      have hgf : ∀ o, (w3.alloc o).frozen? ⟨g, k * 3 + 2, none⟩ = false := fun o => (R4.out o).free _
      have hgc : ∀ o, (w3.alloc o).cell? ⟨g, k * 3 + 2, none⟩ = some (.int .i64 (fs.getD k noF).synced) := fun o => ((R4.out o).file k hk).2.2.1
      have HRF : Hid (RowF (w3.setCell ⟨g, k * 3 + 2, none⟩ (.int .i64 ((fs.getD k noF).data.length : Int))) g gcap (fs.set k { fs.getD k noF with synced := ((fs.getD k noF).data.length : Int) }) (fun i => vs3.getD i undef)) := hrow.setSynced hk _
      have HLEN : Hid ((fs.set k { fs.getD k noF with synced := ((fs.getD k noF).data.length : Int) }).length = fs.length) := List.length_set
      have hgl := hrow.lt
      have hcl := hrow.le
      have hcm := hrow.max
      unfold maxLen at hcm hd2
      clear hrow hv hdv f1 f2 f3
      have q0 : (0 : Int) ≤ (k : Int) := by omega
      have q1 : (k : Int) < (fs.length : Int) := by omega
      generalize hF : fs.getD k noF = f at *
      clear hF
      go_wp2_with fail
      go_region
      have B5 := ((B3.out.setCell (p := ⟨g, k * 3 + 2, none⟩) (show w.heap.size + 2 ≤ g by omega) (.int .i64 (f.data.length : Int))).alloc (by rw [size_setCell]; omega) (.cells #[.slice (some ⟨g, 0, none⟩) fs.length gcap] 24)).drew
      have x5 : ((w3.setCell ⟨g, k * 3 + 2, none⟩ (.int .i64 (f.data.length : Int))).alloc (.cells #[.slice (some ⟨g, 0, none⟩) fs.length gcap] 24)).drew.cell? ⟨w3.heap.size, 0, none⟩ = some (.slice (some ⟨g, 0, none⟩) fs.length gcap) := by
        have := cell_new0 (w3.setCell ⟨g, k * 3 + 2, none⟩ (.int .i64 (f.data.length : Int))) (.slice (some ⟨g, 0, none⟩) fs.length gcap) 24
        rw [size_setCell] at this
        exact this
      have D5 : DiskR ((w3.setCell ⟨g, k * 3 + 2, none⟩ (.int .i64 (f.data.length : Int))).alloc (.cells #[.slice (some ⟨g, 0, none⟩) fs.length gcap] 24)).drew (.slice (some ⟨g, 0, none⟩) fs.length gcap) (fs.set k { f with synced := (f.data.length : Int) }) := by
        have h9 := HRF.out.reads
        rw [HLEN.out] at h9
        exact (h9.below (below_alloc _ _) (Nat.le_refl _)).drew
      generalize ((w3.setCell ⟨g, k * 3 + 2, none⟩ (.int .i64 (f.data.length : Int))).alloc (.cells #[.slice (some ⟨g, 0, none⟩) fs.length gcap] 24)).drew = w5 at *
      have t15 := two_cell1 B5
      have t25 := two_frozen1 B5
      have D6 : Hid (∀ y, DiskR (w5.setCell ⟨w.heap.size + 1, 0, none⟩ y) (.slice (some ⟨g, 0, none⟩) fs.length gcap) (fs.set k { f with synced := (f.data.length : Int) })) := fun y => D5.setBox (two_block1 B5)
      have B6 : Hid (Below w.heap.size w w5) := below_two B5
      clear B5 D5
      go_wp2_with fail
      exact bodyPost_ret (v := .tuple #[.agg #[.slice (some ⟨g, 0, none⟩) fs.length gcap], .int .i64 0]) (by simp [results, Tryd.results20, go_sem, t15]) rfl ⟨_, by rw [HFC.out, HF.out], by rw [HFC.out, HF.out]; exact D6.out _, B6.out.setCell (show w.heap.size ≤ w.heap.size + 1 by omega) _⟩
    · have HF : Hid (syncF fs n = ([], 7)) := syncF_none e
      rw [e]
      clear e
      go_wp2_with fail
      refine bodyPost_ret (v := .tuple #[.agg #[.slice none 0 0], .int .i64 7]) (by simp [results, Tryd.results20, go_sem, t12]) rfl ⟨.slice none 0 0, by rw [HFC.out, HF.out], by rw [HFC.out, HF.out]; exact diskR_nil _, (below_two B2.out).setCell (show w.heap.size ≤ w.heap.size + 1 by omega) _⟩
end Go.Proofs.YthakibcfmbkpkaaDoor
