/-
  Contracts of disk.Read and of the document's own ReadFile: what P3.3 says.
-/
import Derived.Test.YthakibcfmbkpkaaDoorFindWalk
import Derived.Test.YthakibcfmbkpkaaDoorCopyWalk
namespace Go.Proofs.YthakibcfmbkpkaaDoor
set_option maxRecDepth 100000
open Go.ChangeShapes Go.WideShapes Go.ChangeAt Go.RowKit

/-- P3.3 -/
def readF (fs : List FileL) (n : ByteArray) : List Int × Int :=
  if mayB fs = true then if atF fs n < 0 then ([], 7) else ((fs.getD (atF fs n).toNat noF).data, 0) else ([], 9)
theorem readF_may {fs : List FileL} {n : ByteArray} (h : mayB fs = false) : readF fs n = ([], 9) := by simp [readF, h]
theorem readF_none {fs : List FileL} {n : ByteArray} (h : mayB fs = true) (ha : atF fs n = -1) : readF fs n = ([], 7) := by simp [readF, h, ha]
theorem readF_some {fs : List FileL} {n : ByteArray} {k : Nat} (h : mayB fs = true) (ha : atF fs n = k) : readF fs n = ((fs.getD k noF).data, 0) := by
  simp only [readF, h, ha, if_true]
  rw [if_neg (by omega)]; simp
theorem reads_nil (w : World) : Reads .u8 w (.slice none 0 0) [] := ⟨none, 0, rfl, by simp, by simp [maxLen], fun _ => rfl, fun x hx => by cases hx⟩
theorem readF_bytes {fs : List FileL} {n : ByteArray} (hg : Good fs) : ∀ x ∈ (readF fs n).1, 0 ≤ x ∧ x ≤ 255 := by
  cases hm : mayB fs with
  | false => rw [readF_may hm]; simp
  | true =>
    rcases atF_cases fs n with ⟨k, hk, e, _, _⟩ | ⟨e, _⟩
    · rw [readF_some hm e]; exact (hg k hk).1
    · rw [readF_none hm e]; simp

set_option maxHeartbeats 800000 in
set_option maxRecDepth 100000 in
theorem read_own (v : Value) (fs : List FileL) (n : ByteArray) (w : World) (h : DiskR w v fs) (hg : Good fs) :
    Calls Tryd.prog 24 #[.agg #[v], .string n] w fun e w' => ∃ v', e = .returned (.tuple #[v', .int .i64 (readF fs n).2]) ∧ w'.ownsRow w.heap.size 5 1 v' (readF fs n).1.length ((readF fs n).1.map (Value.int .u8)) ∧ Below w.heap.size w w' := by
  have HG : Hid (Good fs) := hg
  have HD : Hid (DiskR w v fs) := h
  obtain ⟨a, cap, rfl, hc, hm, ha, hel⟩ := h
  have HEL : Hid (0 < fs.length → ∃ b off, a = some ⟨b, off, none⟩ ∧ b < w.heap.size ∧ ∃ vs : Nat → Value, ∀ i, i < fs.length → FileC w b (off + i * 3) (vs i) (fs.getD i noF)) := hel
  clear ha hel hg
  unfold maxLen at hm
  have HD2 : Hid (∀ o1 o2, DiskR ((w.alloc o1).alloc o2) (.slice a fs.length cap) fs) := fun o1 o2 => (HD.out.below (below_alloc _ o1) (Nat.le_refl _)).below (below_alloc _ o2) (Nat.le_refl _)
  go_enter Tryd.func24, Tryd.ntmps24
  go_wp2_with fail
  refine (mayBe_any (w.heap.size + 1) (.slice a fs.length cap) fs _ ?_ ?_ HG.out).mono ?_
  · exact cell_second _ _ _ _
  · exact HD2.out _ _
  rintro e w1 ⟨rfl, hb1⟩
  have hb1' : Below (w.heap.size + 2) ((w.alloc (.cells #[.slice a fs.length cap] 24)).alloc (.cells #[.slice a fs.length cap] 62)) w1 := by simpa using hb1
  have r1 : w1.cell? ⟨w.heap.size + 1, 0, none⟩ = some (.slice a fs.length cap) := (hb1'.cell (p := ⟨w.heap.size + 1, 0, none⟩) (Nat.lt_succ_self _)).trans (cell_second _ _ _ _)
  have B1 : Hid (Below w.heap.size w w1) := below_two hb1'
  have D1 : Hid (DiskR w1 (.slice a fs.length cap) fs) := HD.out.below B1.out (Nat.le_refl _)
  have hs1 : w.heap.size + 2 ≤ w1.heap.size := by have := hb1'.size; simp at this; omega
  clear hb1 hb1'
  cases hmay : mayB fs with
  | false =>
    have HF : Hid (readF fs n = ([], 9)) := readF_may hmay
    clear hmay
    go_wp2_with fail
    go_ret2
    exact ⟨.slice none 0 0, by rw [HF.out]; rfl, by rw [HF.out]; exact World.ownsRow_nil _ _ _ _, B1.out⟩
  | true =>
    go_wp2_with fail
    refine (find_any (w.heap.size + 1) (.slice a fs.length cap) fs n _ r1 D1.out).mono ?_
    rintro e w2 ⟨rfl, hb2⟩
    have r2 : w2.cell? ⟨w.heap.size + 1, 0, none⟩ = some (.slice a fs.length cap) := (hb2.cell (p := ⟨w.heap.size + 1, 0, none⟩) (show w.heap.size + 1 < w1.heap.size by omega)).trans r1
    have B2 : Hid (Below w.heap.size w w2) := B1.out.trans (hb2.mono (by omega))
    clear hb2
    rcases atF_cases fs n with ⟨k, hk, e, _, _⟩ | ⟨e, _⟩
    · have HF : Hid (readF fs n = ((fs.getD k noF).data, 0)) := readF_some hmay e
      obtain ⟨b, off, rfl, lt, vs, hv⟩ := HEL.out (by omega)
      obtain ⟨c1, c2, c3, c4⟩ := (hv k hk).below B2.out (Nat.le_refl _)
      have RD : Hid (Reads .u8 w2 (vs k) (fs.getD k noF).data) := c4
      have hdl : (fs.getD k noF).data.length ≤ 140737488355328 := by have := (HG.out k hk).2.2.2.2; omega
      obtain ⟨da, dn, dc, hdv⟩ : ∃ a n c, vs k = .slice a n c := by obtain ⟨a, c, h, _⟩ := c4; exact ⟨_, _, _, h⟩
      rw [hdv] at c2
      rw [hdv] at RD
      rw [e]
      clear c1 c3 c4 hv hdv e hmay
      generalize fs.getD k noF = f at *
      go_wp2_with fail
      refine (clone_any _ f.data _ RD.out hdl).mono ?_
      rintro e w3 ⟨v3, rfl, ho3, hb3⟩
      have R3 : Hid (w3.ownsRow w.heap.size 5 1 v3 f.data.length (f.data.map (Value.int .u8))) := own_lower ho3 B2.out.size
      have B3 : Hid (Below w.heap.size w w3) := B2.out.trans (hb3.mono B2.out.size)
      clear ho3 hb3
      go_wp2_with fail
      go_ret2
      exact ⟨v3, by rw [HF.out]; rfl, by rw [HF.out]; exact R3.out, B3.out⟩
    · have HF : Hid (readF fs n = ([], 7)) := readF_none hmay e
      rw [e]
      clear e hmay
      go_wp2_with fail
      go_ret2
      exact ⟨.slice none 0 0, by rw [HF.out]; rfl, by rw [HF.out]; exact World.ownsRow_nil _ _ _ _, B2.out⟩

theorem read_any (v : Value) (fs : List FileL) (n : ByteArray) (w : World) (h : DiskR w v fs) (hg : Good fs) :
    Calls Tryd.prog 24 #[.agg #[v], .string n] w fun e w' => ∃ v', e = .returned (.tuple #[v', .int .i64 (readF fs n).2]) ∧ Reads .u8 w' v' (readF fs n).1 ∧ Below w.heap.size w w' :=
  (read_own v fs n w h hg).mono fun _ _ ⟨v', h1, h2, h3⟩ => ⟨v', h1, reads_own h2, h3⟩

set_option maxHeartbeats 800000 in
set_option maxRecDepth 100000 in
theorem readFile_any (v : Value) (fs : List FileL) (n : ByteArray) (w : World) (h : DiskR w v fs) (hg : Good fs) :
    Calls Tryd.prog 26 #[.agg #[v], .string n] w fun e w' => ∃ v', e = .returned (.tuple #[v', .int .i64 (readF fs n).2]) ∧ Reads .u8 w' v' (readF fs n).1 ∧ Below w.heap.size w w' := by
  have HG : Hid (Good fs) := hg
  have HD : Hid (DiskR w v fs) := h
  obtain ⟨a, cap, rfl, hc, hm, ha, hel⟩ := h
  have HEL : Hid (0 < fs.length → ∃ b off, a = some ⟨b, off, none⟩ ∧ b < w.heap.size ∧ ∃ vs : Nat → Value, ∀ i, i < fs.length → FileC w b (off + i * 3) (vs i) (fs.getD i noF)) := hel
  clear ha hel hg
  unfold maxLen at hm
  go_enter Tryd.func26, Tryd.ntmps26
  go_wp2_with fail
  refine (diskMay_any _ fs _ ?_).mono ?_
  · exact HD.out.below (below_alloc _ _) (Nat.le_refl _)
  rintro e w1 ⟨rfl, hb1⟩
  have hb1' : Below (w.heap.size + 1) (w.alloc (.cells #[.slice a fs.length cap] 24)) w1 := by simpa using hb1
  have r1 := box_cell hb1'
  have B1 : Hid (Below w.heap.size w w1) := box_below hb1'
  have D1 : Hid (DiskR w1 (.slice a fs.length cap) fs) := HD.out.below B1.out (Nat.le_refl _)
  have hs1 : w.heap.size + 1 ≤ w1.heap.size := by have := hb1'.size; simpa using this
  clear hb1 hb1'
  cases hmay : mayB fs with
  | false =>
    have HF : Hid (readF fs n = ([], 9)) := readF_may hmay
    clear hmay
    go_wp2_with fail
    go_ret2
    exact ⟨_, by rw [HF.out]; rfl, by rw [HF.out]; exact reads_nil _, B1.out⟩
  | true =>
    go_wp2_with fail
    refine (fileAt_any _ fs n _ D1.out).mono ?_
    rintro e w2 ⟨rfl, hb2⟩
    have r2 : w2.cell? ⟨w.heap.size, 0, none⟩ = some (.slice a fs.length cap) := (hb2.cell (p := ⟨w.heap.size, 0, none⟩) (show w.heap.size < w1.heap.size by omega)).trans r1
    have B2 : Hid (Below w.heap.size w w2) := B1.out.trans (hb2.mono (by omega))
    clear hb2
    rcases atF_cases fs n with ⟨k, hk, e, _, _⟩ | ⟨e, _⟩
    · have HF : Hid (readF fs n = ((fs.getD k noF).data, 0)) := readF_some hmay e
      obtain ⟨b, off, rfl, lt, vs, hv⟩ := HEL.out (by omega)
      obtain ⟨c1, c2, c3, c4⟩ := (hv k hk).below B2.out (Nat.le_refl _)
      have RD : Hid (Reads .u8 w2 (vs k) (fs.getD k noF).data) := c4
      have hdl : (fs.getD k noF).data.length ≤ 140737488355328 := by have := (HG.out k hk).2.2.2.2; omega
      obtain ⟨da, dn, dc, hdv⟩ : ∃ a n c, vs k = .slice a n c := by obtain ⟨a, c, h, _⟩ := c4; exact ⟨_, _, _, h⟩
      rw [hdv] at c2
      rw [hdv] at RD
      rw [e]
      clear c1 c3 c4 hv hdv e hmay
      generalize fs.getD k noF = f at *
      go_wp2_with fail
      refine (bytesOf_any _ f.data _ RD.out hdl).mono ?_
      rintro e w3 ⟨v3, rfl, ho3, hb3⟩
      have R3 : Hid (Reads .u8 w3 v3 f.data) := reads_own ho3
      have B3 : Hid (Below w.heap.size w w3) := B2.out.trans (hb3.mono B2.out.size)
      clear ho3 hb3
      go_wp2_with fail
      go_ret2
      exact ⟨v3, by rw [HF.out]; rfl, by rw [HF.out]; exact R3.out, B3.out⟩
    · have HF : Hid (readF fs n = ([], 7)) := readF_none hmay e
      rw [e]
      clear e hmay
      go_wp2_with fail
      go_ret2
      exact ⟨_, by rw [HF.out]; rfl, by rw [HF.out]; exact reads_nil _, B2.out⟩
end Go.Proofs.YthakibcfmbkpkaaDoor
