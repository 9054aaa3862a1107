/-
  Contracts of disk.Rename and of what it does: what P3.5 says.
-/
import Derived.Test.YthakibcfmbkpkaaDoorDeleteWalk
namespace Go.Proofs.YthakibcfmbkpkaaDoor
set_option maxRecDepth 100000
open Go.ChangeShapes Go.WideShapes Go.ChangeAt Go.RowKit

/-- A file gets another name, at its place; whatever had that name goes. -/
def moved (fs : List FileL) (k : Nat) (to : ByteArray) : List FileL :=
  if 0 ≤ atF fs to ∧ atF fs to ≠ k then (fs.set k { fs.getD k noF with name := to }).eraseIdx (atF fs to).toNat else fs.set k { fs.getD k noF with name := to }
/-- P3.5, of a disk that may be. -/
def renameF (fs : List FileL) (n to : ByteArray) : List FileL × Int :=
  if nmB to = true then if atF fs n < 0 then ([], 7) else (moved fs (atF fs n).toNat to, 0) else ([], 1)
theorem renameF_size {fs : List FileL} {n to : ByteArray} (h : nmB to = false) : renameF fs n to = ([], 1) := by simp [renameF, h]
theorem renameF_none {fs : List FileL} {n to : ByteArray} (h0 : nmB to = true) (h : atF fs n = -1) : renameF fs n to = ([], 7) := by simp [renameF, h0, h]
theorem renameF_some {fs : List FileL} {n to : ByteArray} {k : Nat} (h0 : nmB to = true) (h : atF fs n = k) : renameF fs n to = (moved fs k to, 0) := by
  simp only [renameF, h0, h, if_true]
  rw [if_neg (by omega)]; simp
theorem renameF_err {fs : List FileL} {n to : ByteArray} : (renameF fs n to).2 ≠ 0 → (renameF fs n to).1 = [] := by
  cases h0 : nmB to with
  | false => rw [renameF_size h0]; simp
  | true =>
    rcases atF_cases fs n with ⟨k, hk, e, _, _⟩ | ⟨e, _⟩
    · rw [renameF_some h0 e]; simp
    · rw [renameF_none h0 e]; simp
theorem good_rename {fs : List FileL} {n to : ByteArray} (hg : Good fs) (ht : to.size ≤ maxLen) : Good (renameF fs n to).1 := by
  cases h0 : nmB to with
  | false => rw [renameF_size h0]; exact good_nil
  | true =>
    rcases atF_cases fs n with ⟨k, hk, e, _, _⟩ | ⟨e, _⟩
    · rw [renameF_some h0 e]
      have hs : Good (fs.set k { fs.getD k noF with name := to }) := good_set hg (fun hk => by
        obtain ⟨h1, h2, h3, h4, h5⟩ := hg k hk
        exact ⟨h1, h2, h3, ht, h5⟩)
      show Good (moved fs k to)
      unfold moved
      split
      · rename_i hh
        rcases atF_cases fs to with ⟨j, hj, e2, _, _⟩ | ⟨e2, _⟩
        · exact good_erase hs (by rw [e2, List.length_set]; simpa using hj)
        · omega
      · exact hs
    · rw [renameF_none h0 e]; exact good_nil

set_option maxHeartbeats 1000000 in
set_option maxRecDepth 100000 in
theorem rename_any (p B : Nat) (v3 : Value) (fs : List FileL) (vs : List Value) (n to : ByteArray) (w : World) (hpB : p < B) (_hB : B ≤ w.heap.size) (hc : w.cell? ⟨p, 0, none⟩ = some v3) (hf : w.frozen? ⟨p, 0, none⟩ = false) (ho : OwnD w B v3 fs vs) (_hmay : mayB fs = true) (_hn : n.size ≤ maxLen) (ht : to.size ≤ maxLen) :
    Calls Tryd.prog 37 #[.pointer (some ⟨p, 0, none⟩), .string n, .string to] w fun e w4 => ∃ v4, e = .returned (.int .i64 (renameF fs n to).2) ∧ w4.cell? ⟨p, 0, none⟩ = some v4 ∧ ((renameF fs n to).2 = 0 → DiskR w4 v4 (renameF fs n to).1) ∧ Below p w w4 := by
  have lp : p < w.heap.size := World.block_lt_of_cell? w _ hc
  have HO : Hid (OwnD w B v3 fs vs) := ho
  clear ho
  go_enter Tryd.func37, Tryd.ntmps37
  go_wp2_with fail
  refine (nameMay_any to _ ht).mono ?_
  rintro e w0 ⟨rfl, rfl⟩
  cases h0 : nmB to with
  | false =>
    have HF : Hid (renameF fs n to = ([], 1)) := renameF_size h0
    clear h0
    go_wp2_with fail
    go_ret
    exact ⟨v3, by rw [HF.out]; rfl, hc, fun h => by rw [HF.out] at h; simp at h, Below.refl _ _⟩
  | true =>
    go_wp2_with fail
    refine (find_any p v3 fs n _ hc HO.out.reads).mono ?_
    rintro e w1 ⟨rfl, hb1⟩
    have O1 : Hid (OwnD w1 B v3 fs vs) := HO.out.below hb1 (Nat.le_refl _)
    have c1 : w1.cell? ⟨p, 0, none⟩ = some v3 := (hb1.cell (p := ⟨p, 0, none⟩) lp).trans hc
    have f1 : w1.frozen? ⟨p, 0, none⟩ = false := (hb1.frozen (p := ⟨p, 0, none⟩) lp).trans hf
    have B1 : Hid (Below p w0 w1) := hb1.mono (Nat.le_of_lt lp)
    have hs1 := hb1.size
    clear hb1
    rcases atF_cases fs n with ⟨k, hk, e, _, _⟩ | ⟨e, _⟩
    · have HF : Hid (renameF fs n to = (moved fs k to, 0)) := renameF_some h0 e
      rw [e]
      clear e h0
      go_wp2_with fail
      refine (find_any p v3 fs to _ c1 O1.out.reads).mono ?_
      rintro e w2 ⟨rfl, hb2⟩
      have O2 : Hid (OwnD w2 B v3 fs vs) := O1.out.below hb2 (Nat.le_refl _)
      have c2 : w2.cell? ⟨p, 0, none⟩ = some v3 := (hb2.cell (p := ⟨p, 0, none⟩) (show p < w1.heap.size by omega)).trans c1
      have f2 : w2.frozen? ⟨p, 0, none⟩ = false := (hb2.frozen (p := ⟨p, 0, none⟩) (show p < w1.heap.size by omega)).trans f1
      have B2 : Hid (Below p w0 w2) := B1.out.trans (hb2.mono (by omega))
      clear hb2
      rcases O2.out.row_or with ⟨_, rfl⟩ | ⟨g, cap, rfl, hg, hrow⟩
      · simp at hk
      have hk1 := (hrow.file k hk).1
      have hfz := hrow.free (k * 3)
      have RN : Hid (RowF (w2.setCell ⟨g, k * 3, none⟩ (.string to)) g cap (fs.set k { fs.getD k noF with name := to }) (fun i => vs.getD i undef)) := hrow.setName hk to
      have hpg : p ≠ g := by omega
      have c3 : (w2.setCell ⟨g, k * 3, none⟩ (.string to)).cell? ⟨p, 0, none⟩ = some (.slice (some ⟨g, 0, none⟩) fs.length cap) := by rw [World.cell?_setCell_other _ _ _ _ (fun e => hpg (congrArg Addr.block e).symm)]; exact c2
      have f3 : (w2.setCell ⟨g, k * 3, none⟩ (.string to)).frozen? ⟨p, 0, none⟩ = false := (World.frozen?_setCell _ _ _ _).trans f2
      have B3 : Hid (Below p w0 (w2.setCell ⟨g, k * 3, none⟩ (.string to))) := B2.out.setCell (p := ⟨g, k * 3, none⟩) (show p ≤ g by omega) _
      have hle := hrow.le
      have hmx := hrow.max
      have HLS : Hid ((fs.set k { fs.getD k noF with name := to }).length = fs.length) := List.length_set
      unfold maxLen at hmx
      clear hrow
      have q0 : (0 : Int) ≤ (k : Int) := by omega
      have q1 : (k : Int) < (fs.length : Int) := by omega
      rcases atF_cases fs to with ⟨j, hj, e2, _, _⟩ | ⟨e2, _⟩
      · by_cases hjk : j = k
        · have HM : Hid (moved fs k to = fs.set k { fs.getD k noF with name := to }) := by
            show moved fs k to = _
            unfold moved
            rw [if_neg (by rw [e2, hjk]; simp)]
          rw [e2]
          subst hjk
          clear e2
          have hne : ((j : Int) != (j : Int)) = false := by simp
          generalize fs.set j { fs.getD j noF with name := to } = fs' at *
          go_wp2_with fail
          go_ret
          exact ⟨_, by rw [HF.out]; rfl, c3, fun _ => by rw [HF.out, HM.out]; have h9 := RN.out.reads; rw [HLS.out] at h9; exact h9, B3.out⟩
        · have HM : Hid (moved fs k to = (fs.set k { fs.getD k noF with name := to }).eraseIdx j) := by
            show moved fs k to = _
            unfold moved
            rw [if_pos (by rw [e2]; exact ⟨by omega, by omega⟩), e2]; simp
          have hj2 : j < (fs.set k { fs.getD k noF with name := to }).length := by rw [List.length_set]; exact hj
          rw [e2]
          clear e2
          have hne : ((j : Int) != (k : Int)) = true := by simp; omega
          have q2 : (0 : Int) ≤ (j : Int) := by omega
          rw [← HLS.out] at c3
          generalize hS : fs.set k { fs.getD k noF with name := to } = fs' at *
          clear hS
          go_wp2_with fail
          refine (drop_any p g cap j fs' _ _ c3 f3 (by omega) RN.out hj2).mono ?_
          rintro e w4 ⟨v4, rfl, hc4, hd4, hb4⟩
          have D4 : Hid (DiskR w4 v4 (fs'.eraseIdx j)) := hd4
          clear hd4
          go_wp2_with fail
          go_ret
          exact ⟨v4, by rw [HF.out]; rfl, hc4, fun _ => by rw [HF.out, HM.out]; exact D4.out, B3.out.trans hb4⟩
      · have HM : Hid (moved fs k to = fs.set k { fs.getD k noF with name := to }) := by
          show moved fs k to = _
          unfold moved
          rw [if_neg (by rw [e2]; omega)]
        rw [e2]
        clear e2
        generalize fs.set k { fs.getD k noF with name := to } = fs' at *
        go_wp2_with fail
        go_ret
        exact ⟨_, by rw [HF.out]; rfl, c3, fun _ => by rw [HF.out, HM.out]; have h9 := RN.out.reads; rw [HLS.out] at h9; exact h9, B3.out⟩
    · have HF : Hid (renameF fs n to = ([], 7)) := renameF_none h0 e
      rw [e]
      clear e h0
      go_wp2_with fail
      go_ret
      exact ⟨v3, by rw [HF.out]; rfl, c1, fun h => by rw [HF.out] at h; simp at h, B1.out⟩

set_option maxHeartbeats 400000 in
theorem rename1_any (p B q1 q2 : Nat) (v3 : Value) (fs : List FileL) (vs : List Value) (n1 : ByteArray) (n2 : ByteArray) (w : World) (hpB : p < B) (hB : B ≤ w.heap.size) (hq1 : w.cell? ⟨q1, 0, none⟩ = some (.string n1)) (hq2 : w.cell? ⟨q2, 0, none⟩ = some (.string n2)) (hc : w.cell? ⟨p, 0, none⟩ = some v3) (hf : w.frozen? ⟨p, 0, none⟩ = false) (ho : OwnD w B v3 fs vs) (hmay : mayB fs = true) (hn1 : n1.size ≤ maxLen) (hn2 : n2.size ≤ maxLen) :
    Calls Tryd.prog 36 #[.pointer (some ⟨p, 0, none⟩), .pointer (some ⟨q1, 0, none⟩), .pointer (some ⟨q2, 0, none⟩)] w fun e w4 => ∃ v4, e = .returned (.int .i64 (renameF fs n1 n2).2) ∧ w4.cell? ⟨p, 0, none⟩ = some v4 ∧ ((renameF fs n1 n2).2 = 0 → DiskR w4 v4 (renameF fs n1 n2).1) ∧ Below p w w4 := by
  have HO : Hid (OwnD w B v3 fs vs) := ho
  have HMAY : Hid (mayB fs = true) := hmay
  clear ho hmay
  go_enter Tryd.func36, Tryd.ntmps36
  go_wp2_with fail
  refine (rename_any p B v3 fs vs n1 n2 _ hpB hB hc hf HO.out HMAY.out hn1 hn2).mono ?_
  rintro e w1 ⟨v4, rfl, h1, h2, h3⟩
  have H2 : Hid ((renameF fs n1 n2).2 = 0 → DiskR w1 v4 (renameF fs n1 n2).1) := h2
  clear h2
  go_wp2_with fail
  go_ret
  exact ⟨v4, rfl, h1, H2.out, h3⟩

theorem enter_rename (args : Array Value) (w : World) : (callFunc 36 args).run Tryd.prog w = .ok (.enter 36 args) w := by go_simp

set_option maxHeartbeats 400000 in
theorem diskRename_any (v : Value) (fs : List FileL) (n1 : ByteArray) (n2 : ByteArray) (w : World) (h : DiskR w v fs) (hg : Good fs) (hn1 : n1.size ≤ maxLen) (hn2 : n2.size ≤ maxLen) :
    Calls Tryd.prog 18 #[.agg #[v], .string n1, .string n2] w fun e w' => ∃ v', e = .returned (.tuple #[.agg #[v'], .int .i64 (chF fs (renameF fs n1 n2)).2]) ∧ DiskR w' v' (chF fs (renameF fs n1 n2)).1 ∧ Below w.heap.size w w' := by
  have hmf : ∀ (fn : Fn) (first cap : Array Value) (w : World), (Instr.makeFunc fn first cap).run Tryd.prog w = .ok (.func fn first cap) w := fun _ _ _ _ => rfl
  have HG : Hid (Good fs) := hg
  have HD : Hid (DiskR w v fs) := h
  obtain ⟨a, cap, rfl, _, _, _, _⟩ := h
  clear hg
  go_enter Tryd.func18, Tryd.ntmps18
  go_wp2_with fail
  refine (changed_two _ fs (renameF fs n1 n2) 36 (.pointer (some ⟨w.heap.size + 1, 0, none⟩)) (.pointer (some ⟨w.heap.size + 2, 0, none⟩)) _ ?_ HG.out renameF_err enter_rename ?_).mono ?_
  · exact diskR_four HD.out _ _ _ _
  · intro p B w3 v3 vs h1 h2 h3 h4 h5 h6 h7 h8
    refine rename1_any p B (w.heap.size + 1) (w.heap.size + 2) v3 fs vs n1 n2 w3 h2 h3 ?_ ?_ h4 h5 h6 h8 hn1 hn2
    · exact (h7.cell (p := ⟨w.heap.size + 1, 0, none⟩) (by simp)).trans (cell_mid2 _ _ _ _ _ _)
    · exact (h7.cell (p := ⟨w.heap.size + 2, 0, none⟩) (by simp)).trans (cell_mid3 _ _ _ _ _ _)
  rintro e w1 ⟨v1, rfl, hd1, hb1⟩
  have hb1' : Below (w.heap.size + 4) ((((w.alloc (.cells #[.slice a fs.length cap] 24)).alloc (.cells #[.string n1] 9)).alloc (.cells #[.string n2] 9)).alloc (.cells #[.slice none 0 0] 24)) w1 := by simpa using hb1
  have hblk : w1.heap[w.heap.size + 3]? = some (.cells #[.slice none 0 0] 24 (0, 0)) := (hb1'.block _ (Nat.lt_succ_self _)).trans (heap_fourth _ _ _ _ _ _)
  have t1 : w1.cell? ⟨w.heap.size + 3, 0, none⟩ = some (.slice none 0 0) := by rw [cell_of_row w1 _ _ _ _ _ hblk]; rfl
  have t2 : w1.frozen? ⟨w.heap.size + 3, 0, none⟩ = false := by simp only [World.frozen?, hblk]; simp
  have B1 : Hid (Below w.heap.size w w1) := below_four hb1'
  have D2 : Hid (∀ y, DiskR (w1.setCell ⟨w.heap.size + 3, 0, none⟩ y) v1 (chF fs (renameF fs n1 n2)).1) := fun y => hd1.setBox hblk
  obtain ⟨a1, c1, rfl, _, _, _, _⟩ := hd1
  clear hb1 hb1' hblk
  generalize hq : chF fs (renameF fs n1 n2) = q at *
  have HQ : Hid (chF fs (renameF fs n1 n2) = q) := hq
  clear hq
  go_wp2_with fail
  exact bodyPost_ret (v := .tuple #[.agg #[.slice a1 q.1.length c1], .int .i64 q.2]) (by simp [results, Tryd.results18, go_sem, t1]) rfl ⟨_, by rw [HQ.out], by rw [HQ.out]; exact D2.out _, B1.out.setCell (show w.heap.size ≤ w.heap.size + 3 by omega) _⟩
end Go.Proofs.YthakibcfmbkpkaaDoor
