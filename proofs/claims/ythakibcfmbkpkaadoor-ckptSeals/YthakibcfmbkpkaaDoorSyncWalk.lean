/-
  Contracts of disk.Sync, of what it does, and of the document's own SyncedTo: what P3.4 says.
-/
import Derived.Test.YthakibcfmbkpkaaDoorFaceLib
namespace Go.Proofs.YthakibcfmbkpkaaDoor
set_option maxRecDepth 100000
open Go.ChangeShapes Go.WideShapes Go.ChangeAt Go.RowKit

/-- P3.4, of a disk that may be. -/
def syncF (fs : List FileL) (n : ByteArray) : List FileL × Int :=
  if atF fs n < 0 then ([], 7) else (fs.set (atF fs n).toNat { fs.getD (atF fs n).toNat noF with synced := ((fs.getD (atF fs n).toNat noF).data.length : Int) }, 0)
theorem syncF_none {fs : List FileL} {n : ByteArray} (h : atF fs n = -1) : syncF fs n = ([], 7) := by simp [syncF, h]
theorem syncF_some {fs : List FileL} {n : ByteArray} {k : Nat} (h : atF fs n = k) : syncF fs n = (fs.set k { fs.getD k noF with synced := ((fs.getD k noF).data.length : Int) }, 0) := by
  simp only [syncF, h]
  rw [if_neg (by omega)]; simp
theorem syncF_err {fs : List FileL} {n : ByteArray} : (syncF fs n).2 ≠ 0 → (syncF fs n).1 = [] := by
  rcases atF_cases fs n with ⟨k, hk, e, _, _⟩ | ⟨e, _⟩
  · rw [syncF_some e]; simp
  · rw [syncF_none e]; simp

theorem good_sync {fs : List FileL} {n : ByteArray} (hg : Good fs) : Good (syncF fs n).1 := by
  rcases atF_cases fs n with ⟨k, hk, e, _, _⟩ | ⟨e, _⟩
  · rw [syncF_some e]
    exact good_set hg (fun hk => by
      obtain ⟨h1, h2, h3, h4, h5⟩ := hg k hk
      exact ⟨h1, (show (-9223372036854775808 : Int) ≤ ((fs.getD k noF).data.length : Int) by omega), (show ((fs.getD k noF).data.length : Int) ≤ 9223372036854775807 by omega), h4, h5⟩)
  · rw [syncF_none e]; exact good_nil

set_option maxHeartbeats 1000000 in
set_option maxRecDepth 100000 in
theorem sync_any (p B : Nat) (v3 : Value) (fs : List FileL) (vs : List Value) (n : ByteArray) (w : World) (hpB : p < B) (hc : w.cell? ⟨p, 0, none⟩ = some v3) (ho : OwnD w B v3 fs vs) :
    Calls Tryd.prog 35 #[.pointer (some ⟨p, 0, none⟩), .string n] w fun e w4 => ∃ v4, e = .returned (.int .i64 (syncF fs n).2) ∧ w4.cell? ⟨p, 0, none⟩ = some v4 ∧ ((syncF fs n).2 = 0 → DiskR w4 v4 (syncF fs n).1) ∧ Below p w w4 := by
  have lp : p < w.heap.size := World.block_lt_of_cell? w _ hc
  have HO : Hid (OwnD w B v3 fs vs) := ho
  clear ho
  go_enter Tryd.func35, Tryd.ntmps35
  go_wp2_with fail
  refine (find_any p v3 fs n _ hc HO.out.reads).mono ?_
  rintro e w1 ⟨rfl, hb1⟩
  have O1 : Hid (OwnD w1 B v3 fs vs) := HO.out.below hb1 (Nat.le_refl _)
  have c1 : w1.cell? ⟨p, 0, none⟩ = some v3 := (hb1.cell (p := ⟨p, 0, none⟩) lp).trans hc
  have B1 : Hid (Below w.heap.size w w1) := hb1
  clear hb1
  rcases atF_cases fs n with ⟨k, hk, e, _, _⟩ | ⟨e, _⟩
  · have HF : Hid (syncF fs n = (fs.set k { fs.getD k noF with synced := ((fs.getD k noF).data.length : Int) }, 0)) := syncF_some e
    rw [e]
    rcases O1.out.row_or with ⟨_, rfl⟩ | ⟨g, cap, rfl, hg, hrow⟩
    · simp at hk
    have hf := hrow.file k hk
    obtain ⟨f1, f2, f3, da, dc, hdv, hd1, hd2, _, _⟩ := hf
    have hfz := hrow.free (k * 3 + 2)
    have hrf := hrow.setSynced hk ((fs.getD k noF).data.length : Int)
    have HRF : Hid (RowF (w1.setCell ⟨g, k * 3 + 2, none⟩ (.int .i64 ((fs.getD k noF).data.length : Int))) g cap (fs.set k { fs.getD k noF with synced := ((fs.getD k noF).data.length : Int) }) (fun i => vs.getD i undef)) := hrf
    have hcl : fs.length ≤ cap := hrow.le
    have hcm := hrow.max
    have hgl := hrow.lt
    have hlen : (fs.set k { fs.getD k noF with synced := ((fs.getD k noF).data.length : Int) }).length = fs.length := List.length_set
    have HLEN : Hid ((fs.set k { fs.getD k noF with synced := ((fs.getD k noF).data.length : Int) }).length = fs.length) := hlen
    have hpg : p ≠ g := by omega
    rw [hdv] at f2
    unfold maxLen at hcm
    clear hrf hrow hdv hlen e
    have q0 : (0 : Int) ≤ (k : Int) := by omega
    have q1 : (k : Int) < (fs.length : Int) := by omega
    generalize hF : fs.getD k noF = f at *
    have HHF : Hid (fs.getD k noF = f) := hF
    clear hF
    go_wp2_with fail
    go_region
    all_goals
      go_wp2_with fail
      go_ret
      refine ⟨_, by rw [HF.out]; rfl, by rw [World.cell?_drew, World.cell?_setCell_other _ _ _ _ (fun e => hpg (congrArg Addr.block e).symm)]; exact c1, fun _ => ?_, ?_⟩
      · rw [HF.out]
        have h9 := HRF.out.reads
        rw [HLEN.out] at h9
        exact h9.drew
      · exact ((B1.out.mono (Nat.le_of_lt lp)).setCell (p := ⟨g, k * 3 + 2, none⟩) (show p ≤ g by omega) _).drew
  · have HF : Hid (syncF fs n = ([], 7)) := syncF_none e
    rw [e]
    clear e
    go_wp2_with fail
    go_ret
    exact ⟨v3, by rw [HF.out]; rfl, c1, fun h => by rw [HF.out] at h; simp at h, B1.out.mono (Nat.le_of_lt lp)⟩

set_option maxHeartbeats 400000 in
theorem sync1_any (p B q : Nat) (v3 : Value) (fs : List FileL) (vs : List Value) (n : ByteArray) (w : World) (hpB : p < B) (hq : w.cell? ⟨q, 0, none⟩ = some (.string n)) (hc : w.cell? ⟨p, 0, none⟩ = some v3) (ho : OwnD w B v3 fs vs) :
    Calls Tryd.prog 34 #[.pointer (some ⟨p, 0, none⟩), .pointer (some ⟨q, 0, none⟩)] w fun e w4 => ∃ v4, e = .returned (.int .i64 (syncF fs n).2) ∧ w4.cell? ⟨p, 0, none⟩ = some v4 ∧ ((syncF fs n).2 = 0 → DiskR w4 v4 (syncF fs n).1) ∧ Below p w w4 := by
  have HO : Hid (OwnD w B v3 fs vs) := ho
  clear ho
  go_enter Tryd.func34, Tryd.ntmps34
  go_wp2_with fail
  refine (sync_any p B v3 fs vs n _ hpB hc HO.out).mono ?_
  rintro e w1 ⟨v4, rfl, h1, h2, h3⟩
  have H2 : Hid ((syncF fs n).2 = 0 → DiskR w1 v4 (syncF fs n).1) := h2
  clear h2
  go_wp2_with fail
  go_ret
  exact ⟨v4, rfl, h1, H2.out, h3⟩

theorem enter_sync (args : Array Value) (w : World) : (callFunc 34 args).run Tryd.prog w = .ok (.enter 34 args) w := by go_simp

set_option maxHeartbeats 400000 in
theorem diskSync_any (v : Value) (fs : List FileL) (n : ByteArray) (w : World) (h : DiskR w v fs) (hg : Good fs) :
    Calls Tryd.prog 17 #[.agg #[v], .string n] w fun e w' => ∃ v', e = .returned (.tuple #[.agg #[v'], .int .i64 (chF fs (syncF fs n)).2]) ∧ DiskR w' v' (chF fs (syncF fs n)).1 ∧ Below w.heap.size w w' := by
  have hmf : ∀ (fn : Fn) (first cap : Array Value) (w : World), (Instr.makeFunc fn first cap).run Tryd.prog w = .ok (.func fn first cap) w := fun _ _ _ _ => rfl
  have HG : Hid (Good fs) := hg
  have HD : Hid (DiskR w v fs) := h
  obtain ⟨a, cap, rfl, _, _, _, _⟩ := h
  clear hg
  go_enter Tryd.func17, Tryd.ntmps17
  go_wp2_with fail
  refine (changed_one _ fs (syncF fs n) 34 (.pointer (some ⟨w.heap.size + 1, 0, none⟩)) _ ?_ HG.out syncF_err enter_sync ?_).mono ?_
  · exact diskR_three HD.out _ _ _
  · intro p B w3 v3 vs h1 h2 h3 h4 h5 h6 h7 _
    refine sync1_any p B (w.heap.size + 1) v3 fs vs n w3 h2 ?_ h4 h6
    exact (h7.cell (p := ⟨w.heap.size + 1, 0, none⟩) (by simp)).trans (cell_mid _ _ _ _ _)
  rintro e w1 ⟨v1, rfl, hd1, hb1⟩
  have hb1' : Below (w.heap.size + 3) (((w.alloc (.cells #[.slice a fs.length cap] 24)).alloc (.cells #[.string n] 9)).alloc (.cells #[.slice none 0 0] 24)) w1 := by simpa using hb1
  have hblk : w1.heap[w.heap.size + 2]? = some (.cells #[.slice none 0 0] 24 (0, 0)) := (hb1'.block _ (Nat.lt_succ_self _)).trans (heap_third _ _ _ _ _)
  have t1 : w1.cell? ⟨w.heap.size + 2, 0, none⟩ = some (.slice none 0 0) := by rw [cell_of_row w1 _ _ _ _ _ hblk]; rfl
  have t2 : w1.frozen? ⟨w.heap.size + 2, 0, none⟩ = false := by simp only [World.frozen?, hblk]; simp
  have B1 : Hid (Below w.heap.size w w1) := below_three hb1'
  have D2 : Hid (∀ y, DiskR (w1.setCell ⟨w.heap.size + 2, 0, none⟩ y) v1 (chF fs (syncF fs n)).1) := fun y => hd1.setBox hblk
  obtain ⟨a1, c1, rfl, _, _, _, _⟩ := hd1
  clear hb1 hb1' hblk
  generalize hq : chF fs (syncF fs n) = q at *
  have HQ : Hid (chF fs (syncF fs n) = q) := hq
  clear hq
  go_wp2_with fail
  exact bodyPost_ret (v := .tuple #[.agg #[.slice a1 q.1.length c1], .int .i64 q.2]) (by simp [results, Tryd.results17, go_sem, t1]) rfl ⟨_, by rw [HQ.out], by rw [HQ.out]; exact D2.out _, B1.out.setCell (show w.heap.size ≤ w.heap.size + 2 by omega) _⟩
end Go.Proofs.YthakibcfmbkpkaaDoor
