/-
  What a disk reads as: its files, three cells each; how that is kept.
-/
import Derived.Test.YthakibcfmbkpkaaDoorBase
namespace Go.Proofs.YthakibcfmbkpkaaDoor
set_option maxRecDepth 100000
open Go.ChangeShapes Go.WideShapes Go.ChangeAt Go.RowKit

structure FileL where
  name : ByteArray
  data : List Int
  synced : Int

/-- No file. -/
def noF : FileL := ⟨ByteArray.empty, [], 0⟩

/-- The three cells of a file, from the offset o of the block b on; its data reads. -/
def FileC (w : World) (b o : Nat) (v : Value) (f : FileL) : Prop :=
  w.cell? ⟨b, o, none⟩ = some (.string f.name) ∧ w.cell? ⟨b, o + 1, none⟩ = some v ∧ w.cell? ⟨b, o + 2, none⟩ = some (.int .i64 f.synced) ∧ Reads .u8 w v f.data

/-- A slice of files reads as fs. -/
def DiskR (w : World) (v : Value) (fs : List FileL) : Prop :=
  ∃ a cap, v = .slice a fs.length cap ∧ fs.length ≤ cap ∧ cap ≤ maxLen ∧ (a = none → cap = 0) ∧
    (0 < fs.length → ∃ b off, a = some ⟨b, off, none⟩ ∧ b < w.heap.size ∧ ∃ vs : Nat → Value, ∀ i, i < fs.length → FileC w b (off + i * 3) (vs i) (fs.getD i noF))

theorem FileC.below {w w' : World} {b o B : Nat} {v : Value} {f : FileL} (h : FileC w b o v f) (hb : Below B w w') (hB : w.heap.size ≤ B) : FileC w' b o v f := by
  obtain ⟨h1, h2, h3, h4⟩ := h
  have lt : b < B := Nat.lt_of_lt_of_le (World.block_lt_of_cell? w _ h1) hB
  exact ⟨(hb.cell (p := ⟨b, o, none⟩) lt).trans h1, (hb.cell (p := ⟨b, o + 1, none⟩) lt).trans h2, (hb.cell (p := ⟨b, o + 2, none⟩) lt).trans h3, h4.below hb hB⟩

theorem DiskR.below {w w' : World} {v : Value} {fs : List FileL} {B : Nat} (h : DiskR w v fs) (hb : Below B w w') (hB : w.heap.size ≤ B) : DiskR w' v fs := by
  obtain ⟨a, cap, rfl, hc, hm, ha, hel⟩ := h
  refine ⟨a, cap, rfl, hc, hm, ha, fun hn => ?_⟩
  obtain ⟨b, off, e, lt, vs, hv⟩ := hel hn
  exact ⟨b, off, e, Nat.lt_of_lt_of_le lt hb.size, vs, fun i hi => (hv i hi).below hb hB⟩

/-- The numbers in a disk are what their types allow. -/
def Good (fs : List FileL) : Prop := ∀ i, i < fs.length → (∀ x ∈ (fs.getD i noF).data, 0 ≤ x ∧ x ≤ 255) ∧ -9223372036854775808 ≤ (fs.getD i noF).synced ∧ (fs.getD i noF).synced ≤ 9223372036854775807 ∧ (fs.getD i noF).name.size ≤ maxLen ∧ (fs.getD i noF).data.length ≤ 140737488351232

/-- The place of a name among the files; -1: none. -/
def atF : List FileL → ByteArray → Int
  | [], _ => -1
  | f :: r, n => if f.name = n then 0 else if atF r n < 0 then -1 else atF r n + 1
end Go.Proofs.YthakibcfmbkpkaaDoor
