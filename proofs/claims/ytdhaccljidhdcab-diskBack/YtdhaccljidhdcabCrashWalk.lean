/-
  Contracts of disk.Crash and of what it does: what P3.6 says.
-/
import Derived.Test.YtdhaccljidhdcabFaceLib
namespace Go.Proofs.Ytdhaccljidhdcab
open Go.ChangeShapes Go.WideShapes Go.ChangeAt Go.RowKit

/-- How many bytes of a file stay. -/
def endF (keep : Int) (f : FileL) : Int := f.synced + min keep ((f.data.length : Int) - f.synced)
/-- A file behind a crash. -/
def crash1 (keep : Int) (f : FileL) : FileL := ⟨f.name, f.data.take (endF keep f).toNat, endF keep f⟩
/-- P3.6, of a disk that may be. -/
def crashF (fs : List FileL) (keep : Int) : List FileL × Int := if keep < 0 then ([], 2) else (fs.map (crash1 keep), 0)
theorem crashF_neg {fs : List FileL} {keep : Int} (h : keep < 0) : crashF fs keep = ([], 2) := by simp [crashF, h]
theorem crashF_pos {fs : List FileL} {keep : Int} (h : ¬ keep < 0) : crashF fs keep = (fs.map (crash1 keep), 0) := by simp [crashF, h]
theorem crashF_err {fs : List FileL} {keep : Int} : (crashF fs keep).2 ≠ 0 → (crashF fs keep).1 = [] := by
  by_cases h : keep < 0
  · rw [crashF_neg h]; simp
  · rw [crashF_pos h]; simp
/-- The first k files behind a crash. -/
def crashTo (fs : List FileL) (keep : Int) (k : Nat) : List FileL := (fs.take k).map (crash1 keep) ++ fs.drop k
theorem crashTo_len (fs : List FileL) (keep : Int) (k : Nat) : (crashTo fs keep k).length = fs.length := by
  simp [crashTo]; omega
theorem crashTo_zero (fs : List FileL) (keep : Int) : crashTo fs keep 0 = fs := by simp [crashTo]
theorem crashTo_all {fs : List FileL} {keep : Int} {k : Nat} (h : fs.length ≤ k) : crashTo fs keep k = fs.map (crash1 keep) := by
  simp [crashTo, List.take_of_length_le h, List.drop_eq_nil_of_le h]
theorem crashTo_at {fs : List FileL} {keep : Int} {k : Nat} (h : k < fs.length) : (crashTo fs keep k).getD k noF = fs.getD k noF := by
  have hl : ((fs.take k).map (crash1 keep)).length = k := by simp; omega
  rw [crashTo, List.getD_eq_getElem?_getD, List.getElem?_append_right (by omega), hl, Nat.sub_self, List.getElem?_drop, Nat.add_zero, ← List.getD_eq_getElem?_getD]
theorem crashTo_succ {fs : List FileL} {keep : Int} {k : Nat} (h : k < fs.length) : crashTo fs keep (k + 1) = (crashTo fs keep k).set k (crash1 keep (fs.getD k noF)) := by
  have hl : ((fs.take k).map (crash1 keep)).length = k := by simp; omega
  have hd : fs.drop k = fs.getD k noF :: fs.drop (k + 1) := by rw [List.drop_eq_getElem_cons h, List.getD_eq_getElem?_getD, List.getElem?_eq_getElem h]; rfl
  rw [crashTo, crashTo, take_snocF h, List.map_append, hd, List.set_append_right _ _ (by omega), hl, Nat.sub_self]
  simp
theorem getD_map_crash {fs : List FileL} {keep : Int} {i : Nat} (h : i < fs.length) : (fs.map (crash1 keep)).getD i noF = crash1 keep (fs.getD i noF) := by
  rw [List.getD_eq_getElem?_getD, List.getElem?_map, List.getD_eq_getElem?_getD, List.getElem?_eq_getElem h]; rfl
theorem good_crash {fs : List FileL} {keep : Int} (hg : Good fs) : Good (crashF fs keep).1 := by
  by_cases h : keep < 0
  · rw [crashF_neg h]; exact good_nil
  · rw [crashF_pos h]
    intro i hi
    have hi' : i < fs.length := by simpa using hi
    obtain ⟨h1, h2, h3, h4, h5⟩ := hg i hi'
    show GoodF ((fs.map (crash1 keep)).getD i noF)
    rw [getD_map_crash hi']
    generalize fs.getD i noF = f at *
    refine ⟨fun x hx => h1 x (List.mem_of_mem_take hx), ?_, ?_, h4, ?_⟩
    · show -9223372036854775808 ≤ endF keep f
      unfold endF; omega
    · show endF keep f ≤ 9223372036854775807
      unfold endF; omega
    · show (f.data.take _).length ≤ _
      rw [List.length_take]; omega

/-- The row while the files are gone through. -/
theorem RowF.crash {w : World} {g cap k : Nat} {fs : List FileL} {vs : Nat → Value} {keep : Int} {v' : Value} (h : RowF w g cap (crashTo fs keep k) vs) (hk : k < fs.length) (hr : Reads .u8 w v' (crash1 keep (fs.getD k noF)).data) :
    RowF ((w.setCell ⟨g, k * 3 + 1, none⟩ v').setCell ⟨g, k * 3 + 2, none⟩ (.int .i64 (endF keep (fs.getD k noF)))) g cap (crashTo fs keep (k + 1)) (fun i => if i = k then v' else vs i) := by
  have hl : k < (crashTo fs keep k).length := by rw [crashTo_len]; exact hk
  have h1 := h.setData hl hr
  have h2 := h1.setSynced (k := k) (by rw [List.length_set]; exact hl) (endF keep (fs.getD k noF))
  rw [getD_set_eq hl, List.set_set, crashTo_at hk] at h2
  rw [crashTo_succ hk]
  exact h2

theorem RowF.crash2 {w5 : World} {g cap k : Nat} {fs : List FileL} {us : Nat → Value} {keep : Int} (h : RowF w5 g cap ((crashTo fs keep k).set k { fs.getD k noF with data := (crash1 keep (fs.getD k noF)).data }) us) (hk : k < fs.length) :
    RowF (w5.setCell ⟨g, k * 3 + 2, none⟩ (.int .i64 (endF keep (fs.getD k noF)))) g cap (crashTo fs keep (k + 1)) us := by
  have hl : k < (crashTo fs keep k).length := by rw [crashTo_len]; exact hk
  have h2 := h.setSynced (k := k) (by rw [List.length_set]; exact hl) (endF keep (fs.getD k noF))
  rw [getD_set_eq hl, List.set_set] at h2
  rw [crashTo_succ hk]
  exact h2
theorem RowF.drew {w : World} {g cap : Nat} {fs : List FileL} {vs : Nat → Value} (h : RowF w g cap fs vs) : RowF w.drew g cap fs vs := h.below (Below.refl w.heap.size w).drew (Nat.le_refl _)

set_option maxHeartbeats 1000000 in
set_option maxRecDepth 100000 in
theorem crash_any (p B : Nat) (v3 : Value) (fs : List FileL) (vs : List Value) (keep : Int) (w : World) (hpB : p < B) (_hB : B ≤ w.heap.size) (hc : w.cell? ⟨p, 0, none⟩ = some v3) (_hf : w.frozen? ⟨p, 0, none⟩ = false) (ho : OwnD w B v3 fs vs) (hmay : mayB fs = true) (hkb : -9223372036854775808 ≤ keep ∧ keep ≤ 9223372036854775807) :
    Calls Try.prog 28 #[.pointer (some ⟨p, 0, none⟩), .int .i64 keep] w fun e w4 => ∃ v4, e = .returned (.int .i64 (crashF fs keep).2) ∧ w4.cell? ⟨p, 0, none⟩ = some v4 ∧ ((crashF fs keep).2 = 0 → DiskR w4 v4 (crashF fs keep).1) ∧ Below p w w4 := by
  have lp : p < w.heap.size := World.block_lt_of_cell? w _ hc
  have HO : Hid (OwnD w B v3 fs vs) := ho
  have HMAY : Hid (mayB fs = true) := hmay
  clear ho hmay
  by_cases hneg : keep < 0
  · have HF : Hid (crashF fs keep = ([], 2)) := crashF_neg hneg
    go_enter Try.func28, Try.ntmps28
    go_wp2_with fail
    go_ret
    exact ⟨v3, by rw [HF.out]; rfl, hc, fun h => by rw [HF.out] at h; simp at h, Below.refl _ _⟩
  · have HF : Hid (crashF fs keep = (fs.map (crash1 keep), 0)) := crashF_pos hneg
    rcases HO.out.row_or with ⟨rfl, rfl⟩ | ⟨g, cap, rfl, hg, hrow⟩
    · go_enter Try.func28, Try.ntmps28
      go_wp2_with fail
      refine wp_loop_rounds 1 ?_
      rw [rounds_succ]
      go_wp2_with fail
      go_ret
      exact ⟨_, by rw [HF.out]; rfl, hc, fun _ => by rw [HF.out]; exact diskR_nil _, Below.refl _ _⟩
    · have HR : Hid (RowF w g cap fs (fun i => vs.getD i undef)) := hrow
      have hle := hrow.le
      have hmx := hrow.max
      have h40 := (may_iff.1 HMAY.out).1
      have hpg : p ≠ g := by omega
      unfold maxLen at hmx
      clear hrow
      go_enter Try.func28, Try.ntmps28
      go_wp2_with fail
      go_loopw [16] (fun i wr => ∃ (k : Nat) (us : Nat → Value), k ≤ fs.length ∧ i = .int .i64 k ∧ RowF wr g cap (crashTo fs keep k) us ∧ wr.cell? ⟨p, 0, none⟩ = some (.slice (some ⟨g, 0, none⟩) fs.length cap) ∧ Below p w wr) (fun i _ => fs.length - (intOf i).toNat)
      case atStart => exact ⟨0, _, by omega, rfl, by rw [crashTo_zero]; exact HR.out, hc, Below.refl _ _⟩
      case round =>
        obtain ⟨k, us, hk, rfl, hrow, hcp, hbel⟩ := hrel
        have RW : Hid (RowF wr g cap (crashTo fs keep k) us) := hrow
        have HB : Hid (Below p w wr) := hbel
        clear hbel
        by_cases hlt : k < fs.length
        · have hl : k < (crashTo fs keep k).length := by rw [crashTo_len]; exact hlt
          obtain ⟨c1, c2, c3, c4⟩ := hrow.file k hl
          have z1 := hrow.free (k * 3 + 1)
          have z2 := hrow.free (k * 3 + 2)
          rw [crashTo_at hlt] at c1 c3 c4
          obtain ⟨o1, o2, o3, o4⟩ := ok_iff.1 ((may_iff.1 HMAY.out).2.1 k hlt)
          have HST : Hid (∀ v', Reads .u8 wr v' (crash1 keep (fs.getD k noF)).data → RowF ((wr.setCell ⟨g, k * 3 + 1, none⟩ v').setCell ⟨g, k * 3 + 2, none⟩ (.int .i64 (endF keep (fs.getD k noF)))) g cap (crashTo fs keep (k + 1)) (fun i => if i = k then v' else us i)) := fun v' hr => RW.out.crash hlt hr
          obtain ⟨da, dc, hdv, hd1, hd2, hd3, hd4⟩ := c4
          rw [hdv] at c2
          have HDD : Hid (∀ x, da = some x → ∀ i, i < (fs.getD k noF).data.length → wr.cell? (x.add i) = some (.int .u8 ((fs.getD k noF).data.getD i 0))) := hd4
          have HD3 : Hid (da = none → dc = 0) := hd3
          have HD2 : Hid (dc ≤ maxLen) := hd2
          unfold maxLen at hd2
          clear hrow hdv hd3 hd4 o1
          generalize fs.getD k noF = f at *
          obtain ⟨mm, hmm⟩ : ∃ mm, min keep ((f.data.length : Int) - f.synced) = mm := ⟨_, rfl⟩
          have hm0 : 0 ≤ mm := by omega
          have hm1 : mm ≤ (f.data.length : Int) - f.synced := by omega
          have HEND : Hid (endF keep f = f.synced + mm) := by show f.synced + min _ _ = _; rw [hmm]
          have hmin : ∀ (w : World) (ats : Array TypeId) (ty : TypeId), (Builtin.min_ ats ty #[.int .i64 keep, .int .i64 ((f.data.length : Int) - f.synced)]).run Try.prog w = .ok (.int .i64 mm) w := fun w ats ty => by
            have e9 : (if (f.data.length : Int) - f.synced < keep then (f.data.length : Int) - f.synced else keep) = mm := by rw [← hmm]; split <;> omega
            rw [run_min_int2, e9]
          have q0 : (0 : Int) ≤ (k : Int) := by omega
          have q1 : (k : Int) < (fs.length : Int) := by omega
          clear hmm
          go_wp2_with fail
          go_region
          go_wp2_with fail
          have hE : (f.synced + mm).toNat ≤ f.data.length := by omega
          have el : (f.data.take (f.synced + mm).toNat).length = (f.synced + mm).toNat := List.length_take_of_le hE
          have RN : Reads .u8 wr (.slice da (f.synced + mm).toNat (f.synced + mm).toNat) (crash1 keep f).data := by
            show Reads .u8 wr _ (f.data.take (endF keep f).toNat)
            rw [HEND.out]
            refine ⟨da, (f.synced + mm).toNat, by rw [el], by rw [el]; omega, by have := HD2.out; omega, fun e => by have := HD3.out e; omega, fun x hx i hi => ?_⟩
            rw [el] at hi
            rw [HDD.out x hx i (by omega), List.getD_eq_getElem?_getD, List.getD_eq_getElem?_getD, List.getElem?_take_of_lt hi]
          have R2 := HST.out _ RN
          rw [HEND.out] at R2
          go_roundw
          case rel => exact ⟨k + 1, _, by omega, by go_num, R2.drew, by rw [World.cell?_drew, World.cell?_setCell_other _ _ _ _ (fun e => hpg (congrArg Addr.block e).symm), World.cell?_setCell_other _ _ _ _ (fun e => hpg (congrArg Addr.block e).symm)]; exact hcp, ((HB.out.setCell (p := ⟨g, k * 3 + 1, none⟩) (show p ≤ g by omega) _).setCell (p := ⟨g, k * 3 + 2, none⟩) (show p ≤ g by omega) _).drew⟩
          case measure => simp [intOf]; omega
        · have HC : Hid (crashTo fs keep k = fs.map (crash1 keep)) := crashTo_all (by omega)
          have DR : Hid (DiskR wr (.slice (some ⟨g, 0, none⟩) fs.length cap) (fs.map (crash1 keep))) := by
            have h9 := RW.out.reads
            rw [crashTo_len, HC.out] at h9
            exact h9
          clear hrow
          go_wp2_with fail
          go_ret
          exact ⟨_, by rw [HF.out]; rfl, hcp, fun _ => by rw [HF.out]; exact DR.out, HB.out⟩

set_option maxHeartbeats 400000 in
theorem crash1_any (p B q1 : Nat) (v3 : Value) (fs : List FileL) (vs : List Value) (n1 : Int) (w : World) (hpB : p < B) (hB : B ≤ w.heap.size) (hq1 : w.cell? ⟨q1, 0, none⟩ = some (.int .i64 n1)) (hc : w.cell? ⟨p, 0, none⟩ = some v3) (hf : w.frozen? ⟨p, 0, none⟩ = false) (ho : OwnD w B v3 fs vs) (hmay : mayB fs = true) (hn1 : -9223372036854775808 ≤ n1 ∧ n1 ≤ 9223372036854775807) :
    Calls Try.prog 27 #[.pointer (some ⟨p, 0, none⟩), .pointer (some ⟨q1, 0, none⟩)] w fun e w4 => ∃ v4, e = .returned (.int .i64 (crashF fs n1).2) ∧ w4.cell? ⟨p, 0, none⟩ = some v4 ∧ ((crashF fs n1).2 = 0 → DiskR w4 v4 (crashF fs n1).1) ∧ Below p w w4 := by
  have HO : Hid (OwnD w B v3 fs vs) := ho
  have HMAY : Hid (mayB fs = true) := hmay
  clear ho hmay
  go_enter Try.func27, Try.ntmps27
  go_wp2_with fail
  refine (crash_any p B v3 fs vs n1 _ hpB hB hc hf HO.out HMAY.out hn1).mono ?_
  rintro e w1 ⟨v4, rfl, h1, h2, h3⟩
  have H2 : Hid ((crashF fs n1).2 = 0 → DiskR w1 v4 (crashF fs n1).1) := h2
  clear h2
  go_wp2_with fail
  go_ret
  exact ⟨v4, rfl, h1, H2.out, h3⟩

theorem enter_crash (args : Array Value) (w : World) : (callFunc 27 args).run Try.prog w = .ok (.enter 27 args) w := by go_simp

set_option maxHeartbeats 400000 in
theorem diskCrash_any (v : Value) (fs : List FileL) (n1 : Int) (w : World) (h : DiskR w v fs) (hg : Good fs) (hn1 : -9223372036854775808 ≤ n1 ∧ n1 ≤ 9223372036854775807) :
    Calls Try.prog 16 #[.agg #[v], .int .i64 n1] w fun e w' => ∃ v', e = .returned (.tuple #[.agg #[v'], .int .i64 (chF fs (crashF fs n1)).2]) ∧ DiskR w' v' (chF fs (crashF fs n1)).1 ∧ Below w.heap.size w w' := by
  have hmf : ∀ (fn : Fn) (first cap : Array Value) (w : World), (Instr.makeFunc fn first cap).run Try.prog w = .ok (.func fn first cap) w := fun _ _ _ _ => rfl
  have HG : Hid (Good fs) := hg
  have HD : Hid (DiskR w v fs) := h
  obtain ⟨a, cap, rfl, _, _, _, _⟩ := h
  clear hg
  go_enter Try.func16, Try.ntmps16
  go_wp2_with fail
  refine (changed_one _ fs (crashF fs n1) 27 (.pointer (some ⟨w.heap.size + 1, 0, none⟩)) _ ?_ HG.out crashF_err enter_crash ?_).mono ?_
  · exact diskR_three HD.out _ _ _
  · intro p B w3 v3 vs h1 h2 h3 h4 h5 h6 h7 h8
    refine crash1_any p B (w.heap.size + 1) v3 fs vs n1 w3 h2 h3 ?_ h4 h5 h6 h8 hn1
    exact (h7.cell (p := ⟨w.heap.size + 1, 0, none⟩) (by simp)).trans (cell_mid _ _ _ _ _)
  rintro e w1 ⟨v1, rfl, hd1, hb1⟩
  have hb1' : Below (w.heap.size + 3) (((w.alloc (.cells #[.slice a fs.length cap] 26)).alloc (.cells #[.int .i64 n1] 3)).alloc (.cells #[.slice none 0 0] 26)) w1 := by simpa using hb1
  have hblk : w1.heap[w.heap.size + 2]? = some (.cells #[.slice none 0 0] 26 (0, 0)) := (hb1'.block _ (Nat.lt_succ_self _)).trans (heap_third _ _ _ _ _)
  have t1 : w1.cell? ⟨w.heap.size + 2, 0, none⟩ = some (.slice none 0 0) := by rw [cell_of_row w1 _ _ _ _ _ hblk]; rfl
  have t2 : w1.frozen? ⟨w.heap.size + 2, 0, none⟩ = false := by simp only [World.frozen?, hblk]; simp
  have B1 : Hid (Below w.heap.size w w1) := below_three hb1'
  have D2 : Hid (∀ y, DiskR (w1.setCell ⟨w.heap.size + 2, 0, none⟩ y) v1 (chF fs (crashF fs n1)).1) := fun y => hd1.setBox hblk
  obtain ⟨a1, c1, rfl, _, _, _, _⟩ := hd1
  clear hb1 hb1' hblk
  generalize hq : chF fs (crashF fs n1) = q at *
  have HQ : Hid (chF fs (crashF fs n1) = q) := hq
  clear hq
  go_wp2_with fail
  exact bodyPost_ret (v := .tuple #[.agg #[.slice a1 q.1.length c1], .int .i64 q.2]) (by simp [results, Try.results16, go_sem, t1]) rfl ⟨_, by rw [HQ.out], by rw [HQ.out]; exact D2.out _, B1.out.setCell (show w.heap.size ≤ w.heap.size + 2 by omega) _⟩
end Go.Proofs.Ytdhaccljidhdcab
