/-
  Contracts of disk.Remove and of what it does: what P3.7 says.
-/
import Derived.Test.YtdhaccljidhdcabDeleteWalk
namespace Go.Proofs.Ytdhaccljidhdcab
open Go.ChangeShapes Go.WideShapes Go.ChangeAt Go.RowKit

/-- P3.7, of a disk that may be. -/
def removeF (fs : List FileL) (n : ByteArray) : List FileL × Int :=
  if atF fs n < 0 then ([], 7) else (fs.eraseIdx (atF fs n).toNat, 0)
theorem removeF_none {fs : List FileL} {n : ByteArray} (h : atF fs n = -1) : removeF fs n = ([], 7) := by simp [removeF, h]
theorem removeF_some {fs : List FileL} {n : ByteArray} {k : Nat} (h : atF fs n = k) : removeF fs n = (fs.eraseIdx k, 0) := by
  simp only [removeF, h]
  rw [if_neg (by omega)]; simp
theorem removeF_err {fs : List FileL} {n : ByteArray} : (removeF fs n).2 ≠ 0 → (removeF fs n).1 = [] := by
  rcases atF_cases fs n with ⟨k, hk, e, _, _⟩ | ⟨e, _⟩
  · rw [removeF_some e]; simp
  · rw [removeF_none e]; simp
theorem good_erase {fs : List FileL} {k : Nat} (hg : Good fs) (hk : k < fs.length) : Good (fs.eraseIdx k) := fun i hi => by
  rw [List.length_eraseIdx_of_lt hk] at hi
  rw [getD_erase]
  split
  · exact hg i (by omega)
  · exact hg (i + 1) (by omega)
theorem good_remove {fs : List FileL} {n : ByteArray} (hg : Good fs) : Good (removeF fs n).1 := by
  rcases atF_cases fs n with ⟨k, hk, e, _, _⟩ | ⟨e, _⟩
  · rw [removeF_some e]; exact good_erase hg hk
  · rw [removeF_none e]; exact good_nil

set_option maxHeartbeats 1000000 in
set_option maxRecDepth 100000 in
theorem remove_any (p B : Nat) (v3 : Value) (fs : List FileL) (vs : List Value) (n : ByteArray) (w : World) (hpB : p < B) (_hB : B ≤ w.heap.size) (hc : w.cell? ⟨p, 0, none⟩ = some v3) (hf : w.frozen? ⟨p, 0, none⟩ = false) (ho : OwnD w B v3 fs vs) (_hmay : mayB fs = true) (_hn : n.size ≤ maxLen) :
    Calls Try.prog 32 #[.pointer (some ⟨p, 0, none⟩), .string n] w fun e w4 => ∃ v4, e = .returned (.int .i64 (removeF fs n).2) ∧ w4.cell? ⟨p, 0, none⟩ = some v4 ∧ ((removeF fs n).2 = 0 → DiskR w4 v4 (removeF fs n).1) ∧ Below p w w4 := by
  have lp : p < w.heap.size := World.block_lt_of_cell? w _ hc
  have HO : Hid (OwnD w B v3 fs vs) := ho
  clear ho
  go_enter Try.func32, Try.ntmps32
  go_wp2_with fail
  refine (find_any p v3 fs n _ hc HO.out.reads).mono ?_
  rintro e w1 ⟨rfl, hb1⟩
  have O1 : Hid (OwnD w1 B v3 fs vs) := HO.out.below hb1 (Nat.le_refl _)
  have c1 : w1.cell? ⟨p, 0, none⟩ = some v3 := (hb1.cell (p := ⟨p, 0, none⟩) lp).trans hc
  have f1 : w1.frozen? ⟨p, 0, none⟩ = false := (hb1.frozen (p := ⟨p, 0, none⟩) lp).trans hf
  have B1 : Hid (Below p w w1) := hb1.mono (Nat.le_of_lt lp)
  clear hb1
  rcases atF_cases fs n with ⟨k, hk, e, _, _⟩ | ⟨e, _⟩
  · have HF : Hid (removeF fs n = (fs.eraseIdx k, 0)) := removeF_some e
    rw [e]
    clear e
    rcases O1.out.row_or with ⟨_, rfl⟩ | ⟨g, cap, rfl, hg, hrow⟩
    · simp at hk
    have HR : Hid (RowF w1 g cap fs (fun i => vs.getD i undef)) := hrow
    clear hrow
    go_wp2_with fail
    refine (drop_any p g cap k fs _ _ c1 f1 (by omega) HR.out hk).mono ?_
    rintro e w2 ⟨v2, rfl, hc2, hd2, hb2⟩
    have D2 : Hid (DiskR w2 v2 (fs.eraseIdx k)) := hd2
    clear hd2
    go_wp2_with fail
    go_ret
    exact ⟨v2, by rw [HF.out]; rfl, hc2, fun _ => by rw [HF.out]; exact D2.out, B1.out.trans hb2⟩
  · have HF : Hid (removeF fs n = ([], 7)) := removeF_none e
    rw [e]
    clear e
    go_wp2_with fail
    go_ret
    exact ⟨v3, by rw [HF.out]; rfl, c1, fun h => by rw [HF.out] at h; simp at h, B1.out⟩

set_option maxHeartbeats 400000 in
theorem remove1_any (p B q1 : Nat) (v3 : Value) (fs : List FileL) (vs : List Value) (n1 : ByteArray) (w : World) (hpB : p < B) (hB : B ≤ w.heap.size) (hq1 : w.cell? ⟨q1, 0, none⟩ = some (.string n1)) (hc : w.cell? ⟨p, 0, none⟩ = some v3) (hf : w.frozen? ⟨p, 0, none⟩ = false) (ho : OwnD w B v3 fs vs) (hmay : mayB fs = true) (hn1 : n1.size ≤ maxLen) :
    Calls Try.prog 31 #[.pointer (some ⟨p, 0, none⟩), .pointer (some ⟨q1, 0, none⟩)] w fun e w4 => ∃ v4, e = .returned (.int .i64 (removeF fs n1).2) ∧ w4.cell? ⟨p, 0, none⟩ = some v4 ∧ ((removeF fs n1).2 = 0 → DiskR w4 v4 (removeF fs n1).1) ∧ Below p w w4 := by
  have HO : Hid (OwnD w B v3 fs vs) := ho
  have HMAY : Hid (mayB fs = true) := hmay
  clear ho hmay
  go_enter Try.func31, Try.ntmps31
  go_wp2_with fail
  refine (remove_any p B v3 fs vs n1 _ hpB hB hc hf HO.out HMAY.out hn1).mono ?_
  rintro e w1 ⟨v4, rfl, h1, h2, h3⟩
  have H2 : Hid ((removeF fs n1).2 = 0 → DiskR w1 v4 (removeF fs n1).1) := h2
  clear h2
  go_wp2_with fail
  go_ret
  exact ⟨v4, rfl, h1, H2.out, h3⟩

theorem enter_remove (args : Array Value) (w : World) : (callFunc 31 args).run Try.prog w = .ok (.enter 31 args) w := by go_simp

set_option maxHeartbeats 400000 in
theorem diskRemove_any (v : Value) (fs : List FileL) (n1 : ByteArray) (w : World) (h : DiskR w v fs) (hg : Good fs) (hn1 : n1.size ≤ maxLen) :
    Calls Try.prog 18 #[.agg #[v], .string n1] w fun e w' => ∃ v', e = .returned (.tuple #[.agg #[v'], .int .i64 (chF fs (removeF fs n1)).2]) ∧ DiskR w' v' (chF fs (removeF fs n1)).1 ∧ Below w.heap.size w w' := by
  have hmf : ∀ (fn : Fn) (first cap : Array Value) (w : World), (Instr.makeFunc fn first cap).run Try.prog w = .ok (.func fn first cap) w := fun _ _ _ _ => rfl
  have HG : Hid (Good fs) := hg
  have HD : Hid (DiskR w v fs) := h
  obtain ⟨a, cap, rfl, _, _, _, _⟩ := h
  clear hg
  go_enter Try.func18, Try.ntmps18
  go_wp2_with fail
  refine (changed_one _ fs (removeF fs n1) 31 (.pointer (some ⟨w.heap.size + 1, 0, none⟩)) _ ?_ HG.out removeF_err enter_remove ?_).mono ?_
  · exact diskR_three HD.out _ _ _
  · intro p B w3 v3 vs h1 h2 h3 h4 h5 h6 h7 h8
    refine remove1_any p B (w.heap.size + 1) v3 fs vs n1 w3 h2 h3 ?_ h4 h5 h6 h8 hn1
    exact (h7.cell (p := ⟨w.heap.size + 1, 0, none⟩) (by simp)).trans (cell_mid _ _ _ _ _)
  rintro e w1 ⟨v1, rfl, hd1, hb1⟩
  have hb1' : Below (w.heap.size + 3) (((w.alloc (.cells #[.slice a fs.length cap] 26)).alloc (.cells #[.string n1] 9)).alloc (.cells #[.slice none 0 0] 26)) w1 := by simpa using hb1
  have hblk : w1.heap[w.heap.size + 2]? = some (.cells #[.slice none 0 0] 26 (0, 0)) := (hb1'.block _ (Nat.lt_succ_self _)).trans (heap_third _ _ _ _ _)
  have t1 : w1.cell? ⟨w.heap.size + 2, 0, none⟩ = some (.slice none 0 0) := by rw [cell_of_row w1 _ _ _ _ _ hblk]; rfl
  have t2 : w1.frozen? ⟨w.heap.size + 2, 0, none⟩ = false := by simp only [World.frozen?, hblk]; simp
  have B1 : Hid (Below w.heap.size w w1) := below_three hb1'
  have D2 : Hid (∀ y, DiskR (w1.setCell ⟨w.heap.size + 2, 0, none⟩ y) v1 (chF fs (removeF fs n1)).1) := fun y => hd1.setBox hblk
  obtain ⟨a1, c1, rfl, _, _, _, _⟩ := hd1
  clear hb1 hb1' hblk
  generalize hq : chF fs (removeF fs n1) = q at *
  have HQ : Hid (chF fs (removeF fs n1) = q) := hq
  clear hq
  go_wp2_with fail
  exact bodyPost_ret (v := .tuple #[.agg #[.slice a1 q.1.length c1], .int .i64 q.2]) (by simp [results, Try.results18, go_sem, t1]) rfl ⟨_, by rw [HQ.out], by rw [HQ.out]; exact D2.out _, B1.out.setCell (show w.heap.size ≤ w.heap.size + 2 by omega) _⟩
end Go.Proofs.Ytdhaccljidhdcab
