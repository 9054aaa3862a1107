/-
  One cell of a file is written: what the disk reads as then.
-/
import Derived.Test.YthakibcfmbkpkaaDoorChanged
namespace Go.Proofs.YthakibcfmbkpkaaDoor
set_option maxRecDepth 100000
open Go.ChangeShapes Go.WideShapes Go.ChangeAt Go.RowKit

theorem getD_set_eq {fs : List FileL} {k : Nat} {f : FileL} (h : k < fs.length) : (fs.set k f).getD k noF = f := by
  rw [List.getD_eq_getElem?_getD, List.getElem?_set_self h]; rfl
theorem getD_set_ne {fs : List FileL} {k i : Nat} {f : FileL} (h : i ≠ k) : (fs.set k f).getD i noF = fs.getD i noF := by
  rw [List.getD_eq_getElem?_getD, List.getD_eq_getElem?_getD, List.getElem?_set_ne (fun e => h e.symm)]

theorem addr_ne {g o o' : Nat} (h : o ≠ o') : (⟨g, o, none⟩ : Addr) ≠ ⟨g, o', none⟩ := fun e => h (congrArg Addr.off e)

theorem fileC_other {w : World} {g i k r : Nat} {v x u : Value} {f : FileL} (h : FileC w g (i * 3) v f) (hp : w.cell? ⟨g, k * 3 + r, none⟩ = some u) (hu : ∀ n, u ≠ .int .u8 n) (hr : r < 3) (hne : i ≠ k) : FileC (w.setCell ⟨g, k * 3 + r, none⟩ x) g (i * 3) v f := by
  obtain ⟨c1, c2, c3, c4⟩ := h
  refine ⟨?_, ?_, ?_, c4.set hp hu⟩
  · rw [World.cell?_setCell_other _ _ _ _ (addr_ne (by omega))]; exact c1
  · rw [World.cell?_setCell_other _ _ _ _ (addr_ne (by omega))]; exact c2
  · rw [World.cell?_setCell_other _ _ _ _ (addr_ne (by omega))]; exact c3
theorem fileC_synced {w : World} {g o : Nat} {v : Value} {f : FileL} {s : Int} (h : FileC w g o v f) : FileC (w.setCell ⟨g, o + 2, none⟩ (.int .i64 s)) g o v { f with synced := s } := by
  obtain ⟨c1, c2, c3, c4⟩ := h
  refine ⟨?_, ?_, ?_, c4.set c3 (fun n hh => by cases hh)⟩
  · rw [World.cell?_setCell_other _ _ _ _ (addr_ne (by omega))]; exact c1
  · rw [World.cell?_setCell_other _ _ _ _ (addr_ne (by omega))]; exact c2
  · exact World.cell?_setCell_same _ _ _ c3
theorem fileC_name {w : World} {g o : Nat} {v : Value} {f : FileL} {n : ByteArray} (h : FileC w g o v f) : FileC (w.setCell ⟨g, o, none⟩ (.string n)) g o v { f with name := n } := by
  obtain ⟨c1, c2, c3, c4⟩ := h
  refine ⟨?_, ?_, ?_, c4.set c1 (fun n hh => by cases hh)⟩
  · exact World.cell?_setCell_same _ _ _ c1
  · rw [World.cell?_setCell_other _ _ _ _ (addr_ne (by omega))]; exact c2
  · rw [World.cell?_setCell_other _ _ _ _ (addr_ne (by omega))]; exact c3
theorem fileC_data {w : World} {g o : Nat} {v v' : Value} {f : FileL} {l : List Int} (h : FileC w g o v f) (hr : Reads .u8 w v' l) : FileC (w.setCell ⟨g, o + 1, none⟩ v') g o v' { f with data := l } := by
  obtain ⟨c1, c2, c3, c4⟩ := h
  refine ⟨?_, ?_, ?_, hr.set c2 (fun n hh => ?_)⟩
  · rw [World.cell?_setCell_other _ _ _ _ (addr_ne (by omega))]; exact c1
  · exact World.cell?_setCell_same _ _ _ c2
  · rw [World.cell?_setCell_other _ _ _ _ (addr_ne (by omega))]; exact c3
  · obtain ⟨a, c, e, _⟩ := c4
    rw [e] at hh; cases hh

/-- Files that stand in a row from a block's head on. -/
structure RowF (w : World) (g cap : Nat) (fs : List FileL) (vs : Nat → Value) : Prop where
  le : fs.length ≤ cap
  max : cap ≤ maxLen
  lt : g < w.heap.size
  file : ∀ i, i < fs.length → FileC w g (i * 3) (vs i) (fs.getD i noF)
  free : ∀ j, w.frozen? ⟨g, j, none⟩ = false

theorem RowF.reads {w : World} {g cap : Nat} {fs : List FileL} {vs : Nat → Value} (h : RowF w g cap fs vs) : DiskR w (.slice (some ⟨g, 0, none⟩) fs.length cap) fs :=
  ⟨_, cap, rfl, h.le, h.max, fun e => (by cases e), fun _ => ⟨g, 0, rfl, h.lt, vs, fun i hi => by simpa using h.file i hi⟩⟩
theorem RowF.below {w w' : World} {g cap B : Nat} {fs : List FileL} {vs : Nat → Value} (h : RowF w g cap fs vs) (hb : Below B w w') (hB : w.heap.size ≤ B) : RowF w' g cap fs vs :=
  ⟨h.le, h.max, Nat.lt_of_lt_of_le h.lt hb.size, fun i hi => (h.file i hi).below hb hB, fun j => (hb.frozen (p := ⟨g, j, none⟩) (Nat.lt_of_lt_of_le h.lt hB)).trans (h.free j)⟩
theorem OwnD.rowF {w : World} {base g n cap : Nat} {fs : List FileL} {vs : List Value} (h : OwnD w base (.slice (some ⟨g, 0, none⟩) n cap) fs vs) : RowF w g cap fs (fun i => vs.getD i undef) ∧ n = fs.length := by
  rcases h.shape with ⟨e, _⟩ | ⟨g', cap', e, _, hlt, hc, hm⟩
  · cases e
  · injection e with e1 e2 e3
    injection e1 with e1
    injection e1 with e1
    subst e1 e2 e3
    exact ⟨⟨hc, hm, hlt, h.files rfl, h.frozen⟩, rfl⟩
theorem RowF.set {w : World} {g cap k r : Nat} {fs : List FileL} {vs : Nat → Value} {f : FileL} {v x : Value} {u : Value} (h : RowF w g cap fs vs) (hk : k < fs.length) (hp : w.cell? ⟨g, k * 3 + r, none⟩ = some u) (hu : ∀ n, u ≠ .int .u8 n) (hr : r < 3)
    (hf : FileC (w.setCell ⟨g, k * 3 + r, none⟩ x) g (k * 3) v f) : RowF (w.setCell ⟨g, k * 3 + r, none⟩ x) g cap (fs.set k f) (fun i => if i = k then v else vs i) := by
  refine ⟨by rw [List.length_set]; exact h.le, h.max, by rw [size_setCell]; exact h.lt, fun i hi => ?_, fun j => (World.frozen?_setCell _ _ _ _).trans (h.free j)⟩
  rw [List.length_set] at hi
  by_cases e : i = k
  · subst e
    rw [getD_set_eq hk, if_pos rfl]
    exact hf
  · rw [getD_set_ne e, if_neg e]
    exact fileC_other (h.file i hi) hp hu hr e
theorem RowF.setSynced {w : World} {g cap k : Nat} {fs : List FileL} {vs : Nat → Value} (h : RowF w g cap fs vs) (hk : k < fs.length) (s : Int) :
    RowF (w.setCell ⟨g, k * 3 + 2, none⟩ (.int .i64 s)) g cap (fs.set k { fs.getD k noF with synced := s }) vs := by
  have := h.set hk (h.file k hk).2.2.1 (fun n hh => by cases hh) (by omega) (fileC_synced (s := s) (h.file k hk))
  refine ⟨this.le, this.max, this.lt, fun i hi => ?_, this.free⟩
  have h2 := this.file i hi
  by_cases e : i = k
  · subst e; simpa using h2
  · simpa [e] using h2
theorem RowF.setName {w : World} {g cap k : Nat} {fs : List FileL} {vs : Nat → Value} (h : RowF w g cap fs vs) (hk : k < fs.length) (n : ByteArray) :
    RowF (w.setCell ⟨g, k * 3, none⟩ (.string n)) g cap (fs.set k { fs.getD k noF with name := n }) vs := by
  have := h.set (r := 0) hk (h.file k hk).1 (fun n hh => by cases hh) (by omega) (fileC_name (n := n) (h.file k hk))
  refine ⟨this.le, this.max, this.lt, fun i hi => ?_, this.free⟩
  have h2 := this.file i hi
  by_cases e : i = k
  · subst e; simpa using h2
  · simpa [e] using h2
theorem RowF.setData {w : World} {g cap k : Nat} {fs : List FileL} {vs : Nat → Value} {v' : Value} {l : List Int} (h : RowF w g cap fs vs) (hk : k < fs.length) (hr : Reads .u8 w v' l) :
    RowF (w.setCell ⟨g, k * 3 + 1, none⟩ v') g cap (fs.set k { fs.getD k noF with data := l }) (fun i => if i = k then v' else vs i) :=
  h.set hk (h.file k hk).2.1 (fun n hh => by obtain ⟨a, c, e, _⟩ := (h.file k hk).2.2.2; rw [e] at hh; cases hh) (by omega) (fileC_data (h.file k hk) hr)
/-- A disk of the call's own: none, or a row. -/
theorem OwnD.row_or {w : World} {base : Nat} {v : Value} {fs : List FileL} {vs : List Value} (h : OwnD w base v fs vs) :
    (v = .slice none 0 0 ∧ fs = []) ∨ ∃ g cap, v = .slice (some ⟨g, 0, none⟩) fs.length cap ∧ base ≤ g ∧ RowF w g cap fs (fun i => vs.getD i undef) := by
  rcases h.shape with h1 | ⟨g, cap, e, hg, _⟩
  · exact .inl h1
  · subst e
    exact .inr ⟨g, cap, rfl, hg, h.rowF.1⟩
end Go.Proofs.YthakibcfmbkpkaaDoor
