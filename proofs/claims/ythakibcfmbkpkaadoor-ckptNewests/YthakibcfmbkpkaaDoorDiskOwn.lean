/-
  A disk that lies in memory of the call's own: its files' row, and a row of each file's data.
-/
import Derived.Test.YthakibcfmbkpkaaDoorMayWalk
namespace Go.Proofs.YthakibcfmbkpkaaDoor
set_option maxRecDepth 100000
open Go.ChangeShapes Go.WideShapes Go.ChangeAt Go.RowKit

theorem Tryd.infoF : (Tryd.prog.info? 46).map (fun i => (i.zero, i.size, i.bytes)) = some (some (.agg #[.string ByteArray.empty, .slice none 0 0, .int .i64 0]), 3, 48) := by kernel_rfl

/-- The cells of files. -/
def rows : List FileL → List Value → List Value
  | f :: r, v :: vs => .string f.name :: v :: .int .i64 f.synced :: rows r vs
  | _, _ => []
theorem rows_len : ∀ {fs : List FileL} {vs : List Value}, vs.length = fs.length → (rows fs vs).length = fs.length * 3
  | [], [], _ => rfl
  | f :: r, v :: vs, h => by
    have := rows_len (fs := r) (vs := vs) (by simpa using h)
    simp only [rows, List.length_cons, this]; omega
theorem rows_snoc : ∀ {fs : List FileL} {vs : List Value} (f : FileL) (v : Value), vs.length = fs.length → rows (fs ++ [f]) (vs ++ [v]) = rows fs vs ++ [.string f.name, v, .int .i64 f.synced]
  | [], [], f, v, _ => rfl
  | g :: r, u :: vs, f, v, h => by
    have := rows_snoc (fs := r) (vs := vs) f v (by simpa using h)
    simp only [List.cons_append, rows, this]
theorem rows_at : ∀ {fs : List FileL} {vs : List Value} (i : Nat), vs.length = fs.length → i < fs.length →
    (rows fs vs)[i * 3]? = some (.string (fs.getD i noF).name) ∧ (rows fs vs)[i * 3 + 1]? = some (vs.getD i undef) ∧ (rows fs vs)[i * 3 + 2]? = some (.int .i64 (fs.getD i noF).synced)
  | [], _, i, _, h => by simp at h
  | f :: r, [], i, h, _ => by simp at h
  | f :: r, v :: vs, 0, _, _ => by simp [rows]
  | f :: r, v :: vs, i + 1, h, hi => by
    have := rows_at (fs := r) (vs := vs) i (by simpa using h) (by simpa using hi)
    have e1 : (i + 1) * 3 = i * 3 + 3 := by omega
    rw [e1]
    simpa [rows] using this

/-- A disk of the call's own. -/
structure OwnD (w : World) (base : Nat) (v : Value) (fs : List FileL) (vs : List Value) : Prop where
  len : vs.length = fs.length
  row : w.ownsRow base 46 3 v fs.length (rows fs vs)
  data : ∀ i, i < fs.length → w.ownsRow base 5 1 (vs.getD i undef) (fs.getD i noF).data.length ((fs.getD i noF).data.map (Value.int .u8))
  apart : ∀ i j, i < j → j < fs.length → (vs.getD j undef).ownBlock = none ∨ (vs.getD j undef).ownBlock ≠ (vs.getD i undef).ownBlock

theorem OwnD.nil (w : World) (base : Nat) : OwnD w base (.slice none 0 0) [] [] := ⟨rfl, World.ownsRow_nil _ _ _ _, fun i hi => by simp at hi, fun i j _ hj => by simp at hj⟩
theorem OwnD.below {w w' : World} {base B : Nat} {v : Value} {fs : List FileL} {vs : List Value} (h : OwnD w base v fs vs) (hb : Below B w w') (hB : w.heap.size ≤ B) : OwnD w' base v fs vs :=
  ⟨h.len, own_below h.row hb hB, fun i hi => own_below (h.data i hi) hb hB, h.apart⟩
theorem OwnD.lower {w : World} {base B : Nat} {v : Value} {fs : List FileL} {vs : List Value} (h : OwnD w B v fs vs) (hB : base ≤ B) : OwnD w base v fs vs :=
  ⟨h.len, own_lower h.row hB, fun i hi => own_lower (h.data i hi) hB, h.apart⟩
theorem OwnD.files {w : World} {base : Nat} {v : Value} {fs : List FileL} {vs : List Value} (h : OwnD w base v fs vs) {g n cap : Nat} (hv : v = .slice (some ⟨g, 0, none⟩) n cap) :
    ∀ i, i < fs.length → FileC w g (i * 3) (vs.getD i undef) (fs.getD i noF) := fun i hi => by
  subst hv
  obtain ⟨r1, r2, r3⟩ := rows_at i h.len hi
  have c1 := h.row.cells rfl _ _ r1
  have c2 := h.row.cells rfl _ _ r2
  have c3 := h.row.cells rfl _ _ r3
  rw [addr_add] at c1 c2 c3
  exact ⟨c1, c2, c3, reads_own (h.data i hi)⟩
theorem OwnD.shape {w : World} {base : Nat} {v : Value} {fs : List FileL} {vs : List Value} (h : OwnD w base v fs vs) :
    (v = .slice none 0 0 ∧ fs = []) ∨ ∃ g cap, v = .slice (some ⟨g, 0, none⟩) fs.length cap ∧ base ≤ g ∧ g < w.heap.size ∧ fs.length ≤ cap ∧ cap ≤ maxLen := by
  rcases h.row.2 with ⟨hv, h0⟩ | ⟨g, cap, cur, hv, hg, hgg, hc, hm, _⟩
  · exact .inl ⟨hv, List.eq_nil_of_length_eq_zero h0⟩
  · exact .inr ⟨g, cap, hv, hg, (Array.getElem?_eq_some_iff.1 hgg).1, hc, hm⟩
theorem OwnD.reads {w : World} {base : Nat} {v : Value} {fs : List FileL} {vs : List Value} (h : OwnD w base v fs vs) : DiskR w v fs := by
  rcases h.shape with ⟨rfl, rfl⟩ | ⟨g, cap, hv, hg, lt, hc, hm⟩
  · exact ⟨none, 0, rfl, by simp, by simp [maxLen], fun _ => rfl, fun hn => by simp at hn⟩
  · have hf := h.files hv
    subst hv
    refine ⟨_, cap, rfl, hc, hm, fun e => (by cases e), fun _ => ⟨g, 0, rfl, lt, fun i => vs.getD i undef, fun i hi => ?_⟩⟩
    have := hf i hi
    simpa using this
theorem OwnD.frozen {w : World} {base : Nat} {fs : List FileL} {vs : List Value} {g n cap : Nat} (h : OwnD w base (.slice (some ⟨g, 0, none⟩) n cap) fs vs) (j : Nat) : w.frozen? ⟨g, j, none⟩ = false := by
  rcases h.row.2 with ⟨hv, _⟩ | ⟨g', cap', cur, hv, _, hgg, _⟩
  · cases hv
  · injection hv with h1 _ _
    injection h1 with h1
    injection h1 with h1
    subst h1
    simp only [World.frozen?, hgg]
    simp
/-- One file more, behind the others: its data lies apart from theirs. -/
theorem OwnD.snoc {w w' : World} {base B : Nat} {v v' dv : Value} {fs : List FileL} {vs : List Value} {f : FileL} (h : OwnD w base v fs vs)
    (hrow : w'.ownsRow base 46 3 v' (fs.length + 1) (rows fs vs ++ [.string f.name, dv, .int .i64 f.synced])) (hg : w.grownBy w' v.ownBlock)
    (hd : w.ownsRow B 5 1 dv f.data.length (f.data.map (Value.int .u8))) (hB : base ≤ B) (hnew : ∀ i, i < fs.length → ∀ k, (vs.getD i undef).ownBlock = some k → k < B) : OwnD w' base v' (fs ++ [f]) (vs ++ [dv]) := by
  refine ⟨by simp [h.len], by rw [rows_snoc _ _ h.len]; simpa using hrow, ?_, ?_⟩
  · intro i hi
    by_cases hlt : i < fs.length
    · rw [getD_app_left (by rw [h.len]; exact hlt), getD_app_left hlt]
      exact (h.data i hlt).kept hg (own_apart (h.data i hlt) h.row (by decide))
    · have e : i = fs.length := by simp at hi; omega
      subst e
      rw [getD_app_last]
      have e2 : (vs ++ [dv]).getD fs.length undef = dv := by rw [← h.len]; exact getD_app_last
      rw [e2]
      exact (own_lower hd hB).kept hg (own_apart hd h.row (by decide))
  · intro i j hij hj
    by_cases hlt : j < fs.length
    · rw [getD_app_left (by rw [h.len]; exact hlt), getD_app_left (by rw [h.len]; omega)]
      exact h.apart i j hij hlt
    · have e : j = fs.length := by simp at hj; omega
      subst e
      have e2 : (vs ++ [dv]).getD fs.length undef = dv := by rw [← h.len]; exact getD_app_last
      rw [e2, getD_app_left (by rw [h.len]; omega)]
      rcases hd.2 with ⟨hv, _⟩ | ⟨g, cap, cur, hv, hgB, _⟩
      · subst hv; exact .inl rfl
      · subst hv
        refine .inr fun e => ?_
        have := hnew i (by omega) g e.symm
        omega
theorem OwnD.lt {w : World} {base : Nat} {v : Value} {fs : List FileL} {vs : List Value} (h : OwnD w base v fs vs) : ∀ i, i < fs.length → ∀ k, (vs.getD i undef).ownBlock = some k → k < w.heap.size := fun i hi k hk => ((h.data i hi).lt k hk).2

theorem OwnD.drew {w : World} {base : Nat} {v : Value} {fs : List FileL} {vs : List Value} (h : OwnD w base v fs vs) : OwnD w.drew base v fs vs := ⟨h.len, h.row.drew, fun i hi => (h.data i hi).drew, h.apart⟩
theorem OwnD.alloc {w : World} {base : Nat} {v : Value} {fs : List FileL} {vs : List Value} (h : OwnD w base v fs vs) (o : Obj) : OwnD (w.alloc o) base v fs vs := h.below (below_alloc w o) (Nat.le_refl _)
/-- A cell below the base is written. -/
theorem OwnD.setBelow {w : World} {base : Nat} {v : Value} {fs : List FileL} {vs : List Value} (h : OwnD w base v fs vs) {p : Addr} (hp : p.block < base) (x : Value) : OwnD (w.setCell p x) base v fs vs :=
  ⟨h.len, ownsRow_setCell_below h.row hp x, fun i hi => ownsRow_setCell_below (h.data i hi) hp x, h.apart⟩
theorem OwnD.not {w : World} {base k : Nat} {v : Value} {fs : List FileL} {vs : List Value} (h : OwnD w base v fs vs) (hk : k < base) : some k ≠ v.ownBlock := fun e => by have := (h.row.lt k e.symm).1; omega
theorem file_oneCell (f : FileL) {v : Value} (h : v.oneCell' = true) : ∀ u ∈ [Value.string f.name, v, .int .i64 f.synced], u.oneCell' = true := by
  intro u hu
  simp at hu
  rcases hu with rfl | rfl | rfl
  · rfl
  · exact h
  · rfl
end Go.Proofs.YthakibcfmbkpkaaDoor
