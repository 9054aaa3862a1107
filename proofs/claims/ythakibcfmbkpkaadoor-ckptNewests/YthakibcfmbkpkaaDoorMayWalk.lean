/-
  Contract of the document's own DiskMay.
-/
import Derived.Test.YthakibcfmbkpkaaDoorFileAtWalk
namespace Go.Proofs.YthakibcfmbkpkaaDoor
set_option maxRecDepth 100000
open Go.ChangeShapes Go.WideShapes Go.ChangeAt Go.RowKit

theorem size_alloc_le (w : World) (o : Obj) : (w.alloc o).heap.size ≤ w.heap.size + 1 := by simp

set_option maxHeartbeats 1000000 in
set_option maxRecDepth 100000 in
theorem diskMay_any (v : Value) (fs : List FileL) (w : World) (h : DiskR w v fs) :
    Calls Tryd.prog 30 #[.agg #[v]] w fun e w' => e = .returned (.bool (mayB fs)) ∧ Below w.heap.size w w' := by
  have HD : Hid (DiskR w v fs) := h
  obtain ⟨a, cap, rfl, hc, hm, ha, hel⟩ := h
  have HEL : Hid (0 < fs.length → ∃ b off, a = some ⟨b, off, none⟩ ∧ b < w.heap.size ∧ ∃ vs : Nat → Value, ∀ i, i < fs.length → FileC w b (off + i * 3) (vs i) (fs.getD i noF)) := hel
  clear ha hel
  unfold maxLen at hm
  by_cases hlong : 40 < fs.length
  · have HM : Hid (mayB fs = false) := may_long hlong
    have hl : (40 : Int) < (fs.length : Int) := by omega
    go_enter Tryd.func30, Tryd.ntmps30
    go_wp2_with fail
    go_ret
    exact ⟨ret_bool HM.out.symm, below_alloc _ _⟩
  · have hl : ¬ (40 : Int) < (fs.length : Int) := by omega
    go_enter Tryd.func30, Tryd.ntmps30
    go_wp2_with fail
    go_loopw [3] (fun i wr => ∃ k : Nat, k ≤ fs.length ∧ i = .int .i64 k ∧ (∀ j, j < k → okB (fs.getD j noF) = true ∧ atF fs (fs.getD j noF).name = j) ∧ Below (w.heap.size + 1) (w.alloc (.cells #[.slice a fs.length cap] 24)) wr) (fun i _ => fs.length - (intOf i).toNat)
    case atStart => exact ⟨0, by omega, rfl, fun j hj => by omega, Below.refl _ _⟩
    case round =>
      obtain ⟨k, hk, rfl, hok, hbel⟩ := hrel
      have HOK : Hid (∀ j, j < k → okB (fs.getD j noF) = true ∧ atF fs (fs.getD j noF).name = j) := hok
      have hbox := box_cell hbel
      have hbox2 := box_cell2 hbel
      have HB : Hid (Below (w.heap.size + 1) (w.alloc (.cells #[.slice a fs.length cap] 24)) wr) := hbel
      have hsz : w.heap.size + 1 ≤ wr.heap.size := by have := hbel.size; simpa using this
      clear hok hbel
      by_cases hlt : k < fs.length
      · have HDr : Hid (DiskR wr (.slice a fs.length cap) fs) := HD.out.below (box_below HB.out) (Nat.le_refl _)
        obtain ⟨b, off, rfl, lt, vs, hv⟩ := HEL.out (by omega)
        obtain ⟨c1, c2, c3, c4⟩ := ((hv k hlt).below (box_below HB.out) (Nat.le_refl _))
        obtain ⟨da, dc, hdv, _, _, _, _⟩ := c4
        rw [hdv] at c2
        have HNX : Hid (okB (fs.getD k noF) = true → atF fs (fs.getD k noF).name = k → ∀ j, j < k + 1 → okB (fs.getD j noF) = true ∧ atF fs (fs.getD j noF).name = j) := fun h1 h2 j hj => by
          rcases Nat.lt_succ_iff_lt_or_eq.1 hj with h | h
          · exact HOK.out j h
          · rw [h]; exact ⟨h1, h2⟩
        have HBAD : Hid (okB (fs.getD k noF) = false → mayB fs = false) := may_bad hlt
        have HTW : Hid (atF fs (fs.getD k noF).name ≠ k → mayB fs = false) := may_twice hlt
        clear hv HEL HD hdv
        generalize fs.getD k noF = f at *
        have fin : ∀ x, Below w.heap.size w (wr.alloc x) := fun x => (box_below HB.out).trans ((below_alloc wr x).mono (by omega))
        have FIN : Hid (∀ x, Below w.heap.size w (wr.alloc x)) := fin
        clear fin
        by_cases h1 : nmB f.name = true
        · have i1 : inB (f.name.size : Int) 1 20 = true := inB_yes (by simp [nmB] at h1; omega)
          by_cases h2 : 100000 < f.data.length
          · have HM : Hid (mayB fs = false) := HBAD.out (ok_long h2)
            have h2' : (100000 : Int) < (f.data.length : Int) := by omega
            clear h1
            go_wp2_with (first | (go_at_call 19; refine (in_any _ _ _ _).mono ?_; rintro e w' ⟨rfl, rfl⟩))
            go_ret
            exact ⟨ret_bool HM.out.symm, FIN.out _⟩
          · have h2' : ¬ (100000 : Int) < (f.data.length : Int) := by omega
            by_cases h3 : 0 ≤ f.synced ∧ f.synced ≤ f.data.length
            · have i2 : inB f.synced 0 f.data.length = true := inB_yes h3
              have HO : Hid (okB f = true) := ok_good h1 (by omega) h3.1 h3.2
              clear h1 h3
              go_wp2_with (first | (go_at_call 19; refine (in_any _ _ _ _).mono ?_; rintro e w' ⟨rfl, rfl⟩))
              refine (fileAt_any _ fs _ _ ?_).mono ?_
              · exact HDr.out.below (below_alloc _ _) (Nat.le_refl _)
              rintro e w2 ⟨rfl, hb2⟩
              have FB : Hid (Below (w.heap.size + 1) (w.alloc (.cells #[.slice (some ⟨b, off, none⟩) fs.length cap] 24)) w2) := HB.out.trans (((below_alloc wr _).trans (hb2.mono (by simp))).mono hsz)
              clear hb2
              by_cases h4 : atF fs f.name = k
              · have HA : Hid (atF fs f.name = k) := h4
                have h4' : (atF fs f.name != (k : Int)) = false := by simp [h4]
                clear h4
                generalize atF fs f.name = q at *
                go_wp2_with fail
                go_roundw
                case rel => exact ⟨k + 1, by omega, by go_num, HNX.out HO.out HA.out, FB.out⟩
                case measure => simp [intOf]; omega
              · have HM : Hid (mayB fs = false) := HTW.out h4
                have h4' : (atF fs f.name != (k : Int)) = true := by simp [h4]
                clear h4
                generalize atF fs f.name = q at *
                go_wp2_with fail
                go_ret
                exact ⟨ret_bool HM.out.symm, box_below FB.out⟩
            · have HM : Hid (mayB fs = false) := HBAD.out (ok_sync h3)
              have i2 : inB f.synced 0 f.data.length = false := inB_no h3
              clear h1 h3
              go_wp2_with (first | (go_at_call 19; refine (in_any _ _ _ _).mono ?_; rintro e w' ⟨rfl, rfl⟩))
              go_ret
              exact ⟨ret_bool HM.out.symm, FIN.out _⟩
        · have i1 : inB (f.name.size : Int) 1 20 = false := inB_no (by simp [nmB] at h1; omega)
          have HM : Hid (mayB fs = false) := HBAD.out (ok_name (by simpa using h1))
          clear h1
          go_wp2_with (first | (go_at_call 19; refine (in_any _ _ _ _).mono ?_; rintro e w' ⟨rfl, rfl⟩))
          go_ret
          exact ⟨ret_bool HM.out.symm, FIN.out _⟩
      · have HM : Hid (mayB fs = true) := may_good (by omega) (fun i hi => (HOK.out i (by omega)).1) (fun i hi => (HOK.out i (by omega)).2)
        go_wp2_with fail
        go_ret
        exact ⟨ret_bool HM.out.symm, box_below HB.out⟩
end Go.Proofs.YthakibcfmbkpkaaDoor
