/-
  Contracts of the document's own Bytes and DiskCopy: copies in memory of their own.
-/
import Derived.Test.YthakibcfmbkpkaaDoorDiskOwn
import Derived.Test.YthakibcfmbkpkaaDoorAppendRun
import Derived.Test.YthakibcfmbkpkaaDoorBytesCopy
namespace Go.Proofs.YthakibcfmbkpkaaDoor
set_option maxRecDepth 100000
open Go.ChangeShapes Go.WideShapes Go.ChangeAt Go.RowKit
attribute [local go_sem ↓] exec_append

set_option maxHeartbeats 2000000 in
set_option maxRecDepth 100000 in
theorem diskCopy_any (v : Value) (fs : List FileL) (w : World) (h : DiskR w v fs) (hg : Good fs) (hl : fs.length * 48 ≤ 140737488351232) :
    Calls Tryd.prog 15 #[.agg #[v]] w fun e w' =>
      ∃ v' vs, e = .returned (.agg #[v']) ∧ OwnD w' w.heap.size v' fs vs ∧ Below w.heap.size w w' := by
  obtain ⟨i0, hi, hz0, hz1, hz2⟩ := info_parts Tryd.infoF
  have HG : Hid (Good fs) := hg
  obtain ⟨a, cap, rfl, hc, hm, ha, hel⟩ := h
  have HEL : Hid (0 < fs.length → ∃ b off, a = some ⟨b, off, none⟩ ∧ b < w.heap.size ∧ ∃ vs : Nat → Value, ∀ i, i < fs.length → FileC w b (off + i * 3) (vs i) (fs.getD i noF)) := hel
  clear ha hel hg
  unfold maxLen at hm
  go_enter Tryd.func15, Tryd.ntmps15
  go_wp2_with fail
  go_loopw [4, 5] (fun i b wr => ∃ (k : Nat) (u : Value) (vs : List Value), k ≤ fs.length ∧ i = .int .i64 k ∧ OwnD wr (w.heap.size + 3) u (fs.take k) vs ∧ wr.cell? ⟨w.heap.size + 2, 0, none⟩ = some u ∧ wr.frozen? ⟨w.heap.size + 2, 0, none⟩ = false ∧ w.heap.size + 3 ≤ wr.heap.size ∧
      Below (w.heap.size + 2) ((w.alloc (.cells #[.slice a fs.length cap] 24)).alloc (.cells #[.slice none 0 0] 24)) wr) (fun i _ _ => fs.length - (intOf i).toNat)
  case atStart => exact ⟨0, _, [], by omega, rfl, OwnD.nil _ _, cell_third _ _ _ _ _, frozen_third _ _ _ _ _, by simp, ((Below.refl _ _).alloc (by simp) _)⟩
  case round =>
    obtain ⟨k, u, vs, hk, rfl, hown, hcu, hfu, hsz, hbel⟩ := hrel
    have OW : Hid (OwnD wr (w.heap.size + 3) u (fs.take k) vs) := hown
    have HB : Hid (Below (w.heap.size + 2) ((w.alloc (.cells #[.slice a fs.length cap] 24)).alloc (.cells #[.slice none 0 0] 24)) wr) := hbel
    have hbox : wr.cell? ⟨w.heap.size, 0, none⟩ = some (.slice a fs.length cap) := (hbel.cell (p := ⟨w.heap.size, 0, none⟩) (by simp)).trans (by simp)
    clear hown hbel
    by_cases hlt : k < fs.length
    · obtain ⟨b, off, rfl, lt, dvs, hv⟩ := HEL.out (by omega)
      obtain ⟨c1, c2, c3, c4⟩ := ((hv k hlt).below (below_two HB.out) (Nat.le_refl _))
      have hgd := HG.out k hlt
      have HTk : Hid (fs.take (k + 1) = fs.take k ++ [fs.getD k noF]) := take_snocF hlt
      have hlk : (fs.take k).length = k := List.length_take_of_le (by omega)
      have HLK : Hid ((fs.take k).length = k) := hlk
      have hdl : (fs.getD k noF).data.length ≤ 140737488355328 := by omega
      have RD : Hid (Reads .u8 wr (dvs k) (fs.getD k noF).data) := c4
      clear hv HEL hgd c4 hlk
      generalize fs.getD k noF = f at *
      generalize dvs k = dv at *
      obtain ⟨da, dn, dc, rfl⟩ : ∃ a n c, dv = .slice a n c := by obtain ⟨a, c, h, _⟩ := RD.out; exact ⟨_, _, _, h⟩
      go_wp2_with fail
      refine (bytesOf_any _ f.data _ RD.out hdl).mono ?_
      rintro e w1 ⟨v1, rfl, hown1, hb1⟩
      have O1 : Hid (w1.ownsRow wr.heap.size 5 1 v1 f.data.length (f.data.map (Value.int .u8))) := hown1
      have hbb : b < wr.heap.size := by omega
      have k0 : w1.cell? ⟨w.heap.size, 0, none⟩ = some (.slice (some ⟨b, off, none⟩) fs.length cap) := (hb1.cell (p := ⟨w.heap.size, 0, none⟩) (show w.heap.size < wr.heap.size by omega)).trans hbox
      have k1 : w1.cell? ⟨w.heap.size + 2, 0, none⟩ = some u := (hb1.cell (p := ⟨w.heap.size + 2, 0, none⟩) (show w.heap.size + 2 < wr.heap.size by omega)).trans hcu
      have k2 : w1.frozen? ⟨w.heap.size + 2, 0, none⟩ = false := (hb1.frozen (p := ⟨w.heap.size + 2, 0, none⟩) (show w.heap.size + 2 < wr.heap.size by omega)).trans hfu
      have k3 : w1.cell? ⟨b, off + k * 3, none⟩ = some (.string f.name) := (hb1.cell (p := ⟨b, off + k * 3, none⟩) hbb).trans c1
      have k4 : w1.cell? ⟨b, off + k * 3 + 2, none⟩ = some (.int .i64 f.synced) := (hb1.cell (p := ⟨b, off + k * 3 + 2, none⟩) hbb).trans c3
      have HB1 : Hid (Below wr.heap.size wr w1) := hb1
      have OW1 : Hid (OwnD w1 (w.heap.size + 3) u (fs.take k) vs) := OW.out.below hb1 (Nat.le_refl _)
      have hs1 := hb1.size
      clear hown1 hb1 c1 c2 c3 hbox hcu hfu
      have q0 : (0 : Int) ≤ (k : Int) := by omega
      have q1 : (k : Int) < (fs.length : Int) := by omega
      obtain ⟨ua, un, uc, rfl⟩ : ∃ a n c, u = .slice a n c := by rcases OW1.out.shape with ⟨h, _⟩ | ⟨g, c, h, _⟩ <;> exact ⟨_, _, _, h⟩
      obtain ⟨ya, yn, yc, rfl⟩ : ∃ a n c, v1 = .slice a n c := by obtain ⟨a, c, h, _⟩ := reads_own O1.out; exact ⟨_, _, _, h⟩
      go_wp2_with fail
      have hW : w1.heap.size + 1 = (w1.alloc (.cells #[.string f.name, .slice ya yn yc, .int .i64 f.synced] 46)).drew.heap.size := by simp
      obtain ⟨gg, gc, w2, hrun, hown2, hgrow, _, _⟩ := run_append_lies (P := Tryd.prog) (w1.alloc (.cells #[.string f.name, .slice ya yn yc, .int .i64 f.synced] 46)).drew 22 22 (w.heap.size + 3) 46 i0 _ 3 48 Tryd.underlying22 hi hz0 hz1 hz2 rfl (by omega) (.slice ua un uc) _ _ ((OW1.out.row.alloc _).drew)
        ⟨w1.heap.size, 0, none⟩ 1 1 [.string f.name, .slice ya yn yc, .int .i64 f.synced] (by rfl) (World.news_of_block (cs := #[.string f.name, .slice ya yn yc, .int .i64 f.synced]) (t := 46) (fr := (0, 0)) (heap_alloc_new w1 _)) (file_oneCell f rfl)
        (by omega) (by unfold maxLen; rw [HLK.out]; omega) (by rw [HLK.out]; omega) (by simp; omega) _ rfl
      obtain ⟨a1, a2, a3⟩ := appOk_of hrun
      have HA2 := Hid.out (show Hid _ from a2)
      have k5 : ∀ X, (w1.alloc X).cell? ⟨w.heap.size + 1 + 1, 0, none⟩ = some (.slice ua un uc) := fun X => ((below_alloc w1 X).cell (p := ⟨w.heap.size + 2, 0, none⟩) (show w.heap.size + 2 < w1.heap.size by omega)).trans k1
      have z1 : w2.cell? ⟨w.heap.size + 1 + 1, 0, none⟩ = some (.slice ua un uc) := (hgrow.cell_far ⟨w.heap.size + 2, 0, none⟩ (show w.heap.size + 2 < _ by simp; omega) (OW1.out.not (show w.heap.size + 2 < w.heap.size + 3 by omega))).trans (k5 _)
      have z2 : w2.frozen? ⟨w.heap.size + 1 + 1, 0, none⟩ = false := (hgrow.frozen_far ⟨w.heap.size + 2, 0, none⟩ (show w.heap.size + 2 < _ by simp; omega) (OW1.out.not (show w.heap.size + 2 < w.heap.size + 3 by omega))).trans (((below_alloc w1 _).frozen (p := ⟨w.heap.size + 2, 0, none⟩) (show w.heap.size + 2 < w1.heap.size by omega)).trans k2)
      rw [HLK.out] at a2 hown2
      have O2 : Hid (OwnD w2 (w.heap.size + 3) (.slice (some ⟨gg, 0, none⟩) (k + 1) gc) (fs.take (k + 1)) (vs ++ [.slice ya yn yc])) := by
        show OwnD _ _ _ _ _
        rw [HTk.out]
        exact (OW1.out.alloc _).drew.snoc (by rw [HLK.out]; exact hown2) hgrow (O1.out.alloc _).drew (by omega) OW.out.lt
      have B2 : Hid (Below (w.heap.size + 2) ((w.alloc (.cells #[.slice (some ⟨b, off, none⟩) fs.length cap] 24)).alloc (.cells #[.slice none 0 0] 24)) w2) :=
        ((HB.out.trans (HB1.out.mono (by omega))).alloc (by omega) _).drew.grown hgrow (by simp; omega) (fun j hj => by have := (OW1.out.row.lt j hj).1; omega)
      have hs2 : w1.heap.size ≤ w2.heap.size := by have := hgrow.size; simp at this; omega
      clear hrun hown2 hgrow hW HA2
      go_region
      go_wp2
      go_roundw
      case rel => exact ⟨k + 1, _, _, by omega, by go_num, O2.out.setBelow (show w.heap.size + 2 < w.heap.size + 3 by omega) _, World.cell?_setCell_same _ _ _ z1, (World.frozen?_setCell _ _ _ _).trans z2, by rw [size_setCell]; omega, B2.out.setCell (Nat.le_refl _) _⟩
      case measure => simp [intOf]; omega
    · have ek : fs.take k = fs := List.take_of_length_le (by omega)
      have O2 : Hid (OwnD wr (w.heap.size + 3) u fs vs) := by have := OW.out; rwa [ek] at this
      have r1 : wr.cell? ⟨w.heap.size + 1, 0, none⟩ = some (.slice none 0 0) := (HB.out.cell (p := ⟨w.heap.size + 1, 0, none⟩) (Nat.lt_succ_self _)).trans (cell_second _ _ _ _)
      have r2 : wr.frozen? ⟨w.heap.size + 1, 0, none⟩ = false := (HB.out.frozen (p := ⟨w.heap.size + 1, 0, none⟩) (Nat.lt_succ_self _)).trans (frozen_second _ _ _ _)
      obtain ⟨ua, un, uc, rfl⟩ : ∃ a n c, u = .slice a n c := by rcases O2.out.shape with ⟨h, _⟩ | ⟨g, c, h, _⟩ <;> exact ⟨_, _, _, h⟩
      clear ek HEL
      go_wp2_with fail
      refine bodyPost_ret (v := .agg #[.slice ua un uc]) (by simp [results, Tryd.results15, go_sem, r1]) rfl ⟨_, vs, rfl, (O2.out.setBelow (show w.heap.size + 1 < w.heap.size + 3 by omega) _).lower (by omega), ?_⟩
      exact (below_two HB.out).setCell (show w.heap.size ≤ w.heap.size + 1 by omega) _
end Go.Proofs.YthakibcfmbkpkaaDoor
