/-
  Slices of bools: what they read as, what a call owns; make([]bool, n).
-/
import Derived.Test.YtbmkgnlfccigpabRowNew
namespace Go.Proofs.Ytbmkgnlfccigpab
set_option maxRecDepth 100000
open Go.ChangeShapes Go.WideShapes Go.ChangeAt Go.RowKit

def encT (b : Bool) : List Value := [.bool b]
theorem encT_len (b : Bool) : (encT b).length = 1 := rfl
theorem encT_one (b : Bool) : ∀ u ∈ encT b, u.oneCell' = true := by intro u hu; simp [encT] at hu; subst hu; rfl
theorem flatT (xs : List Bool) : xs.flatMap encT = xs.map Value.bool := by
  induction xs with
  | nil => rfl
  | cons x xs ih => rw [List.flatMap_cons, ih]; rfl
abbrev BlR := RowK encT 1
theorem Try.info4 : (Try.prog.info? 4).map (fun i => (i.zero, i.size, i.bytes)) = some (some (.bool false), 1, 1) := by kernel_rfl
def kT : ElK Bool := ⟨encT, 1, 73, 4, 1, .bool false, Try.underlying73, Try.info4, rfl, by decide, encT_len, encT_one⟩
theorem BlR.at {w : World} {v : Value} {es : List Bool} (h : BlR w v es) (hn : 0 < es.length) :
    ∃ b off cap, v = .slice (some ⟨b, off, none⟩) es.length cap ∧ es.length ≤ cap ∧ cap ≤ maxLen ∧ b < w.heap.size ∧ ∀ i x, es[i]? = some x → w.cell? ⟨b, off + i, none⟩ = some (.bool x) := by
  obtain ⟨a, cap, rfl, hc, hm, _, hel⟩ := h
  obtain ⟨b, off, rfl, lt, hv⟩ := hel hn
  exact ⟨b, off, cap, rfl, hc, hm, lt, fun i x hx => by have := hv i x hx 0 _ rfl; rwa [Nat.mul_one] at this⟩
theorem BlR.ownd {w : World} {base : Nat} {v : Value} {es : List Bool} (h : w.ownsRow base 4 1 v es.length (es.flatMap encT)) : BlR w v es := RowK.own encT_len h
theorem made_falses (m : Nat) : (madeCells (Value.bool false).cells (m * 1)).toList = (List.replicate m false).flatMap encT := by
  rw [flatT]
  simp [madeCells, Value.cells]
  refine List.ext_getElem? fun v => ?_
  rcases Nat.lt_or_ge v m with hv | hv
  · rw [List.getElem?_map, List.getElem?_range hv, List.getElem?_replicate, if_pos hv]
    simp [Nat.mod_one]
  · rw [List.getElem?_eq_none (by simpa using hv), List.getElem?_eq_none (by simpa using hv)]
/-- make([]bool, m). -/
theorem make_bools (w : World) (m : Nat) (hm : m ≤ 1000000) :
    ∃ w', (Instr.makeSlice 73 (.int .i64 (m : Int)) (.int .i64 (m : Int))).run Try.prog w = .ok (.slice (some ⟨w.heap.size, 0, none⟩) m m) w' ∧
      w'.ownsRow w.heap.size 4 1 (.slice (some ⟨w.heap.size, 0, none⟩) m m) m ((List.replicate m false).flatMap encT) ∧ Below w.heap.size w w' := by
  obtain ⟨i0, hi, hz0, hz1, hz2⟩ := info_parts Try.info4
  obtain ⟨w', h1, h2, h3⟩ := run_makeSlice_full (P := Try.prog) w w.heap.size 73 4 i0 (.bool false) 1 Try.underlying73 hi hz0 hz1 .i64 .i64 m (by omega) (by rw [hz2]; omega) (by unfold maxLen; omega) (Nat.le_refl _)
  rw [made_falses] at h2
  exact ⟨w', h1, h2, (Below.refl _ _).grown h3 (Nat.le_refl _) (fun k hk => by cases hk)⟩
theorem own_setB {w : World} {base g n cap j : Nat} {xs : List Bool} {x : Bool} (h : w.ownsRow base 4 1 (.slice (some ⟨g, 0, none⟩) n cap) n (xs.flatMap encT)) : (w.setCell ⟨g, j, none⟩ (.bool x)).ownsRow base 4 1 (.slice (some ⟨g, 0, none⟩) n cap) n ((xs.set j x).flatMap encT) := by
  have := own_setRow (j := j) (x := .bool x) h
  rw [flatT] at this ⊢
  rwa [List.map_set]
theorem own_atB {w : World} {base g n cap : Nat} {xs : List Bool} (h : w.ownsRow base 4 1 (.slice (some ⟨g, 0, none⟩) n cap) n (xs.flatMap encT)) {i : Nat} {x : Bool} (hx : xs[i]? = some x) : w.cell? ⟨g, i, none⟩ = some (.bool x) := by
  have := h.cells rfl i (.bool x) (by rw [flatT, List.getElem?_map, hx]; rfl)
  rwa [addr_add] at this
end Go.Proofs.Ytbmkgnlfccigpab
