/-
  Contract of the document's own Crashed: what P3.6 says.
-/
import Derived.Test.YtdhaccljidhdcaaRefLib
import Derived.Test.YtdhaccljidhdcaaCrashWalk
namespace Go.Proofs.Ytdhaccljidhdcaa
open Go.ChangeShapes Go.WideShapes Go.ChangeAt Go.RowKit

set_option maxHeartbeats 2000000 in
set_option maxRecDepth 100000 in
theorem crashed_any (v : Value) (fs : List FileL) (keep : Int) (w : World) (h : DiskR w v fs) (hg : Good fs) (hl : fs.length * 48 ≤ 140737488351232) (hkb : -9223372036854775808 ≤ keep ∧ keep ≤ 9223372036854775807) :
    Calls Try.prog 22 #[.agg #[v], .int .i64 keep] w fun e w' => ∃ v', e = .returned (.tuple #[.agg #[v'], .int .i64 (chF fs (crashF fs keep)).2]) ∧ DiskR w' v' (chF fs (crashF fs keep)).1 ∧ Below w.heap.size w w' := by
  have HG : Hid (Good fs) := hg
  have HD : Hid (DiskR w v fs) := h
  obtain ⟨a, cap, rfl, hc, hm, _, _⟩ := h
  clear hg
  unfold maxLen at hm
  go_enter Try.func22, Try.ntmps22
  go_wp2_with fail
  refine (diskMay_any _ fs _ ?_).mono ?_
  · exact (HD.out.below (below_alloc _ _) (Nat.le_refl _)).below (below_alloc _ _) (Nat.le_refl _)
  rintro e w1 ⟨rfl, hb1⟩
  have B0 : Hid (Below (w.heap.size + 2) ((w.alloc (.cells #[.slice a fs.length cap] 24)).alloc (.cells #[.slice none 0 0] 24)) w1) := by simpa [Hid] using hb1
  have r0 := two_cell0 B0.out
  have t1 := two_cell1 B0.out
  have t2 := two_frozen1 B0.out
  have hs1 : w.heap.size + 2 ≤ w1.heap.size := by have := B0.out.size; simp at this; omega
  have B1 : Hid (Below w.heap.size w w1) := below_two B0.out
  have D1 : Hid (DiskR w1 (.slice a fs.length cap) fs) := HD.out.below B1.out (Nat.le_refl _)
  clear hb1
  cases hmay : mayB fs with
  | false =>
    have HF : Hid (chF fs (crashF fs keep) = ([], 9)) := by simp [chF, Hid, hmay]
    clear hmay
    go_wp2_with fail
    refine bodyPost_ret (v := .tuple #[.agg #[.slice none 0 0], .int .i64 9]) (by simp [results, Try.results22, go_sem, t1]) rfl ⟨.slice none 0 0, by rw [HF.out], by rw [HF.out]; exact diskR_nil _, B1.out.setCell (show w.heap.size ≤ w.heap.size + 1 by omega) _⟩
  | true =>
    have HFC : Hid (chF fs (crashF fs keep) = crashF fs keep) := by simp [chF, Hid, hmay]
    have HMAY : Hid (mayB fs = true) := hmay
    have h40 := (may_iff.1 hmay).1
    clear hmay
    by_cases hneg : keep < 0
    · have HF : Hid (crashF fs keep = ([], 2)) := crashF_neg hneg
      go_wp2_with fail
      refine bodyPost_ret (v := .tuple #[.agg #[.slice none 0 0], .int .i64 2]) (by simp [results, Try.results22, go_sem, t1]) rfl ⟨.slice none 0 0, by rw [HFC.out, HF.out], by rw [HFC.out, HF.out]; exact diskR_nil _, B1.out.setCell (show w.heap.size ≤ w.heap.size + 1 by omega) _⟩
    · have HF : Hid (crashF fs keep = (fs.map (crash1 keep), 0)) := crashF_pos hneg
      go_wp2_with fail
      refine (diskCopy_any _ fs _ D1.out HG.out hl).mono ?_
      rintro e w3 ⟨v3, vs3, rfl, ho3, hb3⟩
      have B3 : Hid (Below (w.heap.size + 2) ((w.alloc (.cells #[.slice a fs.length cap] 24)).alloc (.cells #[.slice none 0 0] 24)) w3) := B0.out.trans (hb3.mono (by omega))
      have hs3 := hb3.size
      have O3 : Hid (OwnD w3 w1.heap.size v3 fs vs3) := ho3
      clear hb3 ho3 r0 t1 t2
      rcases O3.out.row_or with ⟨rfl, rfl⟩ | ⟨g, gcap, rfl, hg, hrow⟩
      · go_wp2_with fail
        refine wp_loop_rounds 1 ?_
        rw [rounds_succ]
        have B5 : Hid (Below (w.heap.size + 2) ((w.alloc (.cells #[.slice a 0 cap] 24)).alloc (.cells #[.slice none 0 0] 24)) (w3.alloc (.cells #[.slice none 0 0] 24))) := B3.out.alloc (by omega) _
        have t15 := two_cell1 B5.out
        have t25 := two_frozen1 B5.out
        go_wp2_with fail
        exact bodyPost_ret (v := .tuple #[.agg #[.slice none 0 0], .int .i64 0]) (by simp [results, Try.results22, go_sem, t15]) rfl ⟨.slice none 0 0, by rw [HFC.out, HF.out], by rw [HFC.out, HF.out]; exact diskR_nil _, (below_two B5.out).setCell (show w.heap.size ≤ w.heap.size + 1 by omega) _⟩
      · have R3 : Hid (RowF (w3.alloc (.cells #[.slice (some ⟨g, 0, none⟩) fs.length gcap] 24)) g gcap fs (fun i => vs3.getD i undef)) := hrow.below (below_alloc w3 _) (Nat.le_refl _)
        have hgl := hrow.lt
        have hcl := hrow.le
        have hcm := hrow.max
        have hg3 : g ≠ w3.heap.size := by omega
        unfold maxLen at hcm
        clear hrow
        go_wp2_with fail
        go_loopw [7] (fun i wr => ∃ (k : Nat) (us : Nat → Value), k ≤ fs.length ∧ i = .int .i64 k ∧ RowF wr g gcap (crashTo fs keep k) us ∧ wr.cell? ⟨w3.heap.size, 0, none⟩ = some (.slice (some ⟨g, 0, none⟩) fs.length gcap) ∧ w3.heap.size + 1 ≤ wr.heap.size ∧ Below (w.heap.size + 2) ((w.alloc (.cells #[.slice a fs.length cap] 24)).alloc (.cells #[.slice none 0 0] 24)) wr) (fun i _ => fs.length - (intOf i).toNat)
        case atStart => exact ⟨0, _, by omega, rfl, by rw [crashTo_zero]; exact R3.out, cell_new0 _ _ _, by simp, B3.out.alloc (by omega) _⟩
        case round =>
          obtain ⟨k, us, hk, rfl, hrow, hcp, hsz, hbel⟩ := hrel
          have RW : Hid (RowF wr g gcap (crashTo fs keep k) us) := hrow
          have HB : Hid (Below (w.heap.size + 2) ((w.alloc (.cells #[.slice a fs.length cap] 24)).alloc (.cells #[.slice none 0 0] 24)) wr) := hbel
          clear hbel
          by_cases hlt : k < fs.length
          · have hll : k < (crashTo fs keep k).length := by rw [crashTo_len]; exact hlt
            obtain ⟨c1, c2, c3, c4⟩ := hrow.file k hll
            have z1 := hrow.free (k * 3 + 1)
            have z2 := hrow.free (k * 3 + 2)
            rw [crashTo_at hlt] at c1 c3 c4
            obtain ⟨o1, o2, o3, o4⟩ := ok_iff.1 ((may_iff.1 HMAY.out).2.1 k hlt)
            have HST0 : Hid (∀ v', Reads .u8 wr v' (crash1 keep (fs.getD k noF)).data → RowF (wr.setCell ⟨g, k * 3 + 1, none⟩ v') g gcap ((crashTo fs keep k).set k { fs.getD k noF with data := (crash1 keep (fs.getD k noF)).data }) (fun i => if i = k then v' else us i)) := fun v' hr => by
              have h8 := RW.out.setData hll hr
              rw [crashTo_at hlt] at h8
              exact h8
            have HCR0 : Hid (∀ w5 us', RowF w5 g gcap ((crashTo fs keep k).set k { fs.getD k noF with data := (crash1 keep (fs.getD k noF)).data }) us' → RowF (w5.setCell ⟨g, k * 3 + 2, none⟩ (.int .i64 (endF keep (fs.getD k noF)))) g gcap (crashTo fs keep (k + 1)) us') := fun w5 us' h => h.crash2 hlt
            obtain ⟨da, dc, hdv, hd1, hd2, hd3, hd4⟩ := c4
            rw [hdv] at c2
            have HDD : Hid (∀ x, da = some x → ∀ i, i < (fs.getD k noF).data.length → wr.cell? (x.add i) = some (.int .u8 ((fs.getD k noF).data.getD i 0))) := hd4
            have HD3 : Hid (da = none → dc = 0) := hd3
            have HD2 : Hid (dc ≤ maxLen) := hd2
            have hgl2 := hrow.lt
            unfold maxLen at hd2
            clear hrow hdv hd3 hd4 o1
            generalize fs.getD k noF = f at *
            have lg : g < wr.heap.size := hgl2
            have x0 : ∀ o, (wr.alloc o).cell? ⟨w3.heap.size, 0, none⟩ = some (.slice (some ⟨g, 0, none⟩) fs.length gcap) := fun o => ((below_alloc wr o).cell (p := ⟨w3.heap.size, 0, none⟩) (show w3.heap.size < wr.heap.size by omega)).trans hcp
            have x1 : ∀ o, (wr.alloc o).cell? ⟨g, k * 3 + 1, none⟩ = some (.slice da f.data.length dc) := fun o => ((below_alloc wr o).cell (p := ⟨g, k * 3 + 1, none⟩) lg).trans c2
            have x2 : ∀ o, (wr.alloc o).cell? ⟨g, k * 3 + 2, none⟩ = some (.int .i64 f.synced) := fun o => ((below_alloc wr o).cell (p := ⟨g, k * 3 + 2, none⟩) lg).trans c3
            have y1 : ∀ o, (wr.alloc o).frozen? ⟨g, k * 3 + 1, none⟩ = false := fun o => ((below_alloc wr o).frozen (p := ⟨g, k * 3 + 1, none⟩) lg).trans z1
            have y2 : ∀ o, (wr.alloc o).frozen? ⟨g, k * 3 + 2, none⟩ = false := fun o => ((below_alloc wr o).frozen (p := ⟨g, k * 3 + 2, none⟩) lg).trans z2
            have hgw : g ≠ wr.heap.size := by omega
            have q0 : (0 : Int) ≤ (k : Int) := by omega
            have q1 : (k : Int) < (fs.length : Int) := by omega
            have HSD : Hid (∀ v', Reads .u8 wr v' (crash1 keep f).data → RowF (wr.setCell ⟨g, k * 3 + 1, none⟩ v') g gcap ((crashTo fs keep k).set k { f with data := (crash1 keep f).data }) (fun i => if i = k then v' else us i)) := HST0.out
            have HCR : Hid (∀ w5 us', RowF w5 g gcap ((crashTo fs keep k).set k { f with data := (crash1 keep f).data }) us' → RowF (w5.setCell ⟨g, k * 3 + 2, none⟩ (.int .i64 (endF keep f))) g gcap (crashTo fs keep (k + 1)) us') := HCR0.out
            clear HST0 HCR0
            by_cases h9 : keep < (f.data.length : Int) - f.synced
            · have HEND : Hid (endF keep f = f.synced + keep) := by show endF keep f = _; unfold endF; omega
              go_wp2_with fail
              go_region
              have hE : (f.synced + keep).toNat ≤ f.data.length := by omega
              have el : (f.data.take (f.synced + keep).toNat).length = (f.synced + keep).toNat := List.length_take_of_le hE
              have RN : Reads .u8 wr (.slice da (f.synced + keep).toNat dc) (crash1 keep f).data := by
                show Reads .u8 wr _ (f.data.take (endF keep f).toNat)
                rw [HEND.out]
                refine ⟨da, dc, by rw [el], by rw [el]; omega, HD2.out, HD3.out, fun x hx i hi => ?_⟩
                rw [el] at hi
                rw [HDD.out x hx i (by omega), List.getD_eq_getElem?_getD, List.getD_eq_getElem?_getD, List.getElem?_take_of_lt hi]
              have R5 := ((HSD.out _ RN).below (below_alloc _ (.cells #[.string f.name, .slice da f.data.length dc, .int .i64 f.synced] 50)) (Nat.le_refl _)).drew
              have B5 := ((HB.out.setCell (p := ⟨g, k * 3 + 1, none⟩) (show w.heap.size + 2 ≤ g by omega) (.slice da (f.synced + keep).toNat dc)).alloc (by rw [size_setCell]; omega) (.cells #[.string f.name, .slice da f.data.length dc, .int .i64 f.synced] 50)).drew
              have s5 : wr.heap.size + 1 ≤ ((wr.setCell ⟨g, k * 3 + 1, none⟩ (.slice da (f.synced + keep).toNat dc)).alloc (.cells #[.string f.name, .slice da f.data.length dc, .int .i64 f.synced] 50)).drew.heap.size := by simp
              have n5 : ((wr.setCell ⟨g, k * 3 + 1, none⟩ (.slice da (f.synced + keep).toNat dc)).alloc (.cells #[.string f.name, .slice da f.data.length dc, .int .i64 f.synced] 50)).drew.cell? ⟨wr.heap.size, 2, none⟩ = some (.int .i64 f.synced) := by
                have hh := heap_alloc_new (wr.setCell ⟨g, k * 3 + 1, none⟩ (.slice da (f.synced + keep).toNat dc)) (.cells #[.string f.name, .slice da f.data.length dc, .int .i64 f.synced] 50)
                rw [size_setCell] at hh
                exact (cell_of_row _ _ 2 _ _ _ hh).trans rfl
              have p5 : ((wr.setCell ⟨g, k * 3 + 1, none⟩ (.slice da (f.synced + keep).toNat dc)).alloc (.cells #[.string f.name, .slice da f.data.length dc, .int .i64 f.synced] 50)).drew.cell? ⟨w3.heap.size, 0, none⟩ = some (.slice (some ⟨g, 0, none⟩) fs.length gcap) := by
                refine ((below_alloc (wr.setCell ⟨g, k * 3 + 1, none⟩ (.slice da (f.synced + keep).toNat dc)) _).cell (p := ⟨w3.heap.size, 0, none⟩) (show w3.heap.size < _ by rw [size_setCell]; omega)).trans ?_
                rw [World.cell?_setCell_other _ _ _ _ (fun e => hg3 (congrArg Addr.block e))]; exact hcp
              generalize ((wr.setCell ⟨g, k * 3 + 1, none⟩ (.slice da (f.synced + keep).toNat dc)).alloc (.cells #[.string f.name, .slice da f.data.length dc, .int .i64 f.synced] 50)).drew = w5 at *
              have R6 := HCR.out w5 _ R5
              have m1 : w5.frozen? ⟨g, k * 3 + 2, none⟩ = false := R5.free _
              have m2 : w5.cell? ⟨g, k * 3 + 2, none⟩ = some (.int .i64 f.synced) := by
                have h9 := (R5.file k (by rw [List.length_set]; exact hll)).2.2.1
                rw [getD_set_eq hll] at h9
                exact h9
              rw [HEND.out] at R6
              have HR6 : Hid (RowF (w5.setCell ⟨g, k * 3 + 2, none⟩ (.int .i64 (f.synced + keep))) g gcap (crashTo fs keep (k + 1)) _) := R6
              have HB5 : Hid (Below (w.heap.size + 2) ((w.alloc (.cells #[.slice a fs.length cap] 24)).alloc (.cells #[.slice none 0 0] 24)) w5) := B5
              clear R5 R6 B5 RN
              go_wp2_with fail
              go_roundw
              case rel => exact ⟨k + 1, _, by omega, by go_num, HR6.out, by rw [World.cell?_setCell_other _ _ _ _ (fun e => hg3 (congrArg Addr.block e))]; exact p5, by rw [size_setCell]; omega, HB5.out.setCell (p := ⟨g, k * 3 + 2, none⟩) (show w.heap.size + 2 ≤ g by omega) _⟩
              case measure => simp [intOf]; omega
            · have HEND : Hid (endF keep f = (f.data.length : Int)) := by show endF keep f = _; unfold endF; omega
              have hadd : f.synced + ((f.data.length : Int) - f.synced) = (f.data.length : Int) := by omega
              go_wp2_with fail
              go_region
              have hE : f.data.length ≤ f.data.length := by omega
              have el : (f.data.take f.data.length).length = f.data.length := List.length_take_of_le hE
              have RN : Reads .u8 wr (.slice da f.data.length dc) (crash1 keep f).data := by
                show Reads .u8 wr _ (f.data.take (endF keep f).toNat)
                rw [HEND.out, Int.toNat_natCast]
                refine ⟨da, dc, by rw [el], by rw [el]; omega, HD2.out, HD3.out, fun x hx i hi => ?_⟩
                rw [el] at hi
                rw [HDD.out x hx i (by omega), List.getD_eq_getElem?_getD, List.getD_eq_getElem?_getD, List.getElem?_take_of_lt hi]
              have R5 := ((HSD.out _ RN).below (below_alloc _ (.cells #[.string f.name, .slice da f.data.length dc, .int .i64 f.synced] 50)) (Nat.le_refl _)).drew
              have B5 := ((HB.out.setCell (p := ⟨g, k * 3 + 1, none⟩) (show w.heap.size + 2 ≤ g by omega) (.slice da f.data.length dc)).alloc (by rw [size_setCell]; omega) (.cells #[.string f.name, .slice da f.data.length dc, .int .i64 f.synced] 50)).drew
              have s5 : wr.heap.size + 1 ≤ ((wr.setCell ⟨g, k * 3 + 1, none⟩ (.slice da f.data.length dc)).alloc (.cells #[.string f.name, .slice da f.data.length dc, .int .i64 f.synced] 50)).drew.heap.size := by simp
              have n5 : ((wr.setCell ⟨g, k * 3 + 1, none⟩ (.slice da f.data.length dc)).alloc (.cells #[.string f.name, .slice da f.data.length dc, .int .i64 f.synced] 50)).drew.cell? ⟨wr.heap.size, 2, none⟩ = some (.int .i64 f.synced) := by
                have hh := heap_alloc_new (wr.setCell ⟨g, k * 3 + 1, none⟩ (.slice da f.data.length dc)) (.cells #[.string f.name, .slice da f.data.length dc, .int .i64 f.synced] 50)
                rw [size_setCell] at hh
                exact (cell_of_row _ _ 2 _ _ _ hh).trans rfl
              have p5 : ((wr.setCell ⟨g, k * 3 + 1, none⟩ (.slice da f.data.length dc)).alloc (.cells #[.string f.name, .slice da f.data.length dc, .int .i64 f.synced] 50)).drew.cell? ⟨w3.heap.size, 0, none⟩ = some (.slice (some ⟨g, 0, none⟩) fs.length gcap) := by
                refine ((below_alloc (wr.setCell ⟨g, k * 3 + 1, none⟩ (.slice da f.data.length dc)) _).cell (p := ⟨w3.heap.size, 0, none⟩) (show w3.heap.size < _ by rw [size_setCell]; omega)).trans ?_
                rw [World.cell?_setCell_other _ _ _ _ (fun e => hg3 (congrArg Addr.block e))]; exact hcp
              generalize ((wr.setCell ⟨g, k * 3 + 1, none⟩ (.slice da f.data.length dc)).alloc (.cells #[.string f.name, .slice da f.data.length dc, .int .i64 f.synced] 50)).drew = w5 at *
              have R6 := HCR.out w5 _ R5
              have m1 : w5.frozen? ⟨g, k * 3 + 2, none⟩ = false := R5.free _
              have m2 : w5.cell? ⟨g, k * 3 + 2, none⟩ = some (.int .i64 f.synced) := by
                have h9 := (R5.file k (by rw [List.length_set]; exact hll)).2.2.1
                rw [getD_set_eq hll] at h9
                exact h9
              rw [HEND.out] at R6
              have HR6 : Hid (RowF (w5.setCell ⟨g, k * 3 + 2, none⟩ (.int .i64 ((f.data.length : Int)))) g gcap (crashTo fs keep (k + 1)) _) := R6
              have HB5 : Hid (Below (w.heap.size + 2) ((w.alloc (.cells #[.slice a fs.length cap] 24)).alloc (.cells #[.slice none 0 0] 24)) w5) := B5
              clear R5 R6 B5 RN
              go_wp2_with fail
              go_roundw
              case rel => exact ⟨k + 1, _, by omega, by go_num, HR6.out, by rw [World.cell?_setCell_other _ _ _ _ (fun e => hg3 (congrArg Addr.block e))]; exact p5, by rw [size_setCell]; omega, HB5.out.setCell (p := ⟨g, k * 3 + 2, none⟩) (show w.heap.size + 2 ≤ g by omega) _⟩
              case measure => simp [intOf]; omega
          · have HC : Hid (crashTo fs keep k = fs.map (crash1 keep)) := crashTo_all (by omega)
            have t15 := two_cell1 HB.out
            have t25 := two_frozen1 HB.out
            have D6 : Hid (∀ y, DiskR (wr.setCell ⟨w.heap.size + 1, 0, none⟩ y) (.slice (some ⟨g, 0, none⟩) fs.length gcap) (fs.map (crash1 keep))) := fun y => by
              have h9 := RW.out.reads.setBox (y := y) (two_block1 HB.out)
              rw [crashTo_len, HC.out] at h9
              exact h9
            clear hrow
            go_wp2_with fail
            exact bodyPost_ret (v := .tuple #[.agg #[.slice (some ⟨g, 0, none⟩) fs.length gcap], .int .i64 0]) (by simp [results, Try.results22, go_sem, t15]) rfl ⟨_, by rw [HFC.out, HF.out], by rw [HFC.out, HF.out]; exact D6.out _, (below_two HB.out).setCell (show w.heap.size ≤ w.heap.size + 1 by omega) _⟩
end Go.Proofs.Ytdhaccljidhdcaa
