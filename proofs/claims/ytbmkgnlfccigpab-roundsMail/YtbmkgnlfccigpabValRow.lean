/-
  Rows of values of the call's own: make([]api.Value, m), a store into them.
-/
import Derived.Test.YtbmkgnlfccigpabStaMem
namespace Go.Proofs.Ytbmkgnlfccigpab
set_option maxRecDepth 100000
open Go.ChangeShapes Go.WideShapes Go.ChangeAt Go.RowKit

theorem flat_setM : ∀ (xs : List Ml) (p : Nat) (e : Ml), p < xs.length → (xs.set p e).flatMap encM = ((xs.flatMap encM).set (p * 2) (.int .i64 e.1)).set (p * 2 + 1) (.int .i64 e.2)
  | [], p, e, h => by simp at h
  | x :: xs, 0, e, _ => by simp [encM]
  | x :: xs, p + 1, e, h => by
    have := flat_setM xs p e (by simpa using h)
    rw [List.set_cons_succ, List.flatMap_cons, this, List.flatMap_cons, show (p + 1) * 2 = p * 2 + 2 by omega]
    simp [encM]
/-- Two stores: a value. -/
def putV (w : World) (g o : Nat) (e : Ml) : World := (w.setCell ⟨g, o, none⟩ (.int .i64 e.1)).setCell ⟨g, o + 1, none⟩ (.int .i64 e.2)
theorem own_putV {w : World} {base g n cap p : Nat} {xs : List Ml} (h : w.ownsRow base 44 2 (.slice (some ⟨g, 0, none⟩) n cap) n (xs.flatMap encM)) (hp : p < xs.length) (e : Ml) :
    (putV w g (p * 2) e).ownsRow base 44 2 (.slice (some ⟨g, 0, none⟩) n cap) n ((xs.set p e).flatMap encM) := by
  rw [flat_setM xs p e hp]
  exact own_setRow (own_setRow h)
theorem kept_putV (w : World) (g o : Nat) (e : Ml) : Kept (fun k => k = g) w (putV w g o e) := (Kept.box w g o _).trans (Kept.box _ g (o + 1) _)
theorem below_putV {w w' : World} {B g o : Nat} (h : Below B w w') (hg : B ≤ g) (e : Ml) : Below B w (putV w' g o e) := (h.setCell (p := ⟨g, o, none⟩) hg _).setCell (p := ⟨g, o + 1, none⟩) hg _
theorem own_atV {w : World} {base g n cap : Nat} {xs : List Ml} (h : w.ownsRow base 44 2 (.slice (some ⟨g, 0, none⟩) n cap) n (xs.flatMap encM)) {i : Nat} {x : Ml} (hx : xs[i]? = some x) :
    w.cell? ⟨g, i * 2, none⟩ = some (.int .i64 x.1) ∧ w.cell? ⟨g, i * 2 + 1, none⟩ = some (.int .i64 x.2) := by
  have c : ∀ j u, (encM x)[j]? = some u → w.cell? ⟨g, i * 2 + j, none⟩ = some u := fun j u hu => by
    have := h.cells rfl _ _ (flat_at encM_len hx hu)
    rwa [addr_add] at this
  exact ⟨c 0 _ rfl, c 1 _ rfl⟩
theorem made_vals (m : Nat) : (madeCells (Value.agg #[.int .i64 0, .int .i64 0]).cells (m * 2)).toList = (List.replicate m ((0, 0) : Ml)).flatMap encM := by
  refine List.ext_getElem? fun v => ?_
  rcases Nat.lt_or_ge v (m * 2) with hv | hv
  · have h1 : v / 2 < m := by omega
    have h2 := flat_at (enc := encM) encM_len (xs := List.replicate m ((0, 0) : Ml)) (i := v / 2) (j := v % 2) (x := (0, 0)) (u := .int .i64 0) (by rw [List.getElem?_replicate, if_pos h1]) (by
      rcases (show v % 2 = 0 ∨ v % 2 = 1 by omega) with e | e <;> rw [e] <;> rfl)
    rw [show v / 2 * 2 + v % 2 = v by omega] at h2
    rw [h2]
    simp [madeCells, Value.cells, hv]
    rcases (show v % 2 = 0 ∨ v % 2 = 1 by omega) with e | e <;> rw [e] <;> rfl
  · rw [List.getElem?_eq_none (by simpa [madeCells] using hv), List.getElem?_eq_none (by rw [flat_len encM_len]; simpa using hv)]
/-- make([]api.Value, m). -/
theorem make_vals (w : World) (m : Nat) (hm : m ≤ 1000000) :
    ∃ w', (Instr.makeSlice 31 (.int .i64 (m : Int)) (.int .i64 (m : Int))).run Try.prog w = .ok (.slice (some ⟨w.heap.size, 0, none⟩) m m) w' ∧
      w'.ownsRow w.heap.size 44 2 (.slice (some ⟨w.heap.size, 0, none⟩) m m) m ((List.replicate m ((0, 0) : Ml)).flatMap encM) ∧ Below w.heap.size w w' := by
  obtain ⟨i0, hi, hz0, hz1, hz2⟩ := info_parts Try.infoV
  obtain ⟨w', h1, h2, h3⟩ := run_makeSlice_full (P := Try.prog) w w.heap.size 31 44 i0 (.agg #[.int .i64 0, .int .i64 0]) 2 Try.underlying31 hi hz0 hz1 .i64 .i64 m (by omega) (by rw [hz2]; omega) (by unfold maxLen; omega) (Nat.le_refl _)
  rw [made_vals] at h2
  exact ⟨w', h1, h2, (Below.refl _ _).grown h3 (Nat.le_refl _) (fun k hk => by cases hk)⟩
end Go.Proofs.Ytbmkgnlfccigpab
