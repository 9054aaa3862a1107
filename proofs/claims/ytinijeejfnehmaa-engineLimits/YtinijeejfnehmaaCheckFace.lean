/-
  Contracts of slices.IndexFunc and ContainsFunc over Check's closure, and of graph.Check itself.
-/
import Derived.Test.YtinijeejfnehmaaCheckWalk
namespace Go.Proofs.Ytinijeejfnehmaa
set_option maxRecDepth 100000
open Go.ChangeShapes Go.WideShapes Go.ChangeAt Go.RowKit

attribute [local go_sem] store_func_run

set_option maxHeartbeats 1000000 in
/-- slices.IndexFunc over Check's closure: is there an edge outside? -/
theorem indexOut_any (v : Value) (es : List Ed) (n : Int) (p q : Nat) (w : World) (h : EdR w v es) (hp : w.cell? ⟨p, 0, none⟩ = some (insF q)) (hq : w.cell? ⟨q, 0, none⟩ = some (.int .i64 n)) :
    Calls Try.prog 46 #[v, .func (.func 33) #[] #[.pointer (some ⟨p, 0, none⟩)]] w fun e w' => (∃ r : Int, e = .returned (.int .i64 r) ∧ decide (0 ≤ r) = es.any (outE n)) ∧ Below w.heap.size w w' := by
  have lp : p < w.heap.size := World.block_lt_of_cell? w _ hp
  have lq : q < w.heap.size := World.block_lt_of_cell? w _ hq
  have HR : Hid (EdR w v es) := h
  obtain ⟨a, cap, rfl, hc, hm, _, _⟩ := h
  unfold maxLen at hm
  go_enter Try.func46, Try.ntmps46
  go_wp2_with fail
  go_loopw [8] (fun i wr => ∃ k : Nat, k ≤ es.length ∧ i = .int .i64 k ∧ (es.take k).any (outE n) = false ∧ Below w.heap.size w wr) (fun i _ => es.length - (intOf i).toNat)
  case atStart => exact ⟨0, by omega, rfl, rfl, Below.refl _ _⟩
  case round =>
    obtain ⟨k, hk, rfl, hno, hbel⟩ := hrel
    have HNO : Hid ((es.take k).any (outE n) = false) := hno
    have HB : Hid (Below w.heap.size w wr) := hbel
    have hpr : wr.cell? ⟨p, 0, none⟩ = some (insF q) := (hbel.cell (p := ⟨p, 0, none⟩) lp).trans hp
    have hqr : wr.cell? ⟨q, 0, none⟩ = some (.int .i64 n) := (hbel.cell (p := ⟨q, 0, none⟩) lq).trans hq
    have hsr := hbel.size
    clear hno hbel
    by_cases hlt : k < es.length
    · obtain ⟨b, off, cap', e1, _, _, lt, hv⟩ := EdR.at (HR.out.below HB.out (Nat.le_refl _)) (by omega)
      injection e1 with e1 _ e3
      subst e1 e3
      obtain ⟨x, hx⟩ := getE hlt
      obtain ⟨c1, c2, c3⟩ := hv k x hx
      have HX : Hid (es[k]? = some x) := hx
      clear hv hx
      cases ho : outE n x
      · have HN2 : Hid ((es.take (k + 1)).any (outE n) = false) := any_step HX.out HNO.out ho
        go_wp2_with fail
        refine (outside_any n x p q _ hpr hqr).mono ?_
        rw [ho]
        rintro e w2 ⟨rfl, hb2⟩
        go_wp2_with fail
        go_roundw
        case rel => exact ⟨k + 1, by omega, by go_num, HN2.out, HB.out.trans (hb2.mono hsr)⟩
        case measure => simp [intOf]; omega
      · have HA : Hid (es.any (outE n) = true) := any_hit HX.out ho
        go_wp2_with fail
        refine (outside_any n x p q _ hpr hqr).mono ?_
        rw [ho]
        rintro e w2 ⟨rfl, hb2⟩
        go_wp2_with fail
        go_ret
        exact ⟨⟨k, rfl, by rw [HA.out]; simp⟩, HB.out.trans (hb2.mono hsr)⟩
    · have ek : k = es.length := by omega
      have HA : Hid (es.any (outE n) = false) := any_miss (by rw [← ek]; exact HNO.out)
      clear ek
      go_wp2_with fail
      go_ret
      exact ⟨⟨-1, rfl, by rw [HA.out]; rfl⟩, HB.out⟩

set_option maxHeartbeats 400000 in
theorem containsOut_any (v : Value) (es : List Ed) (n : Int) (p q : Nat) (w : World) (h : EdR w v es) (hp : w.cell? ⟨p, 0, none⟩ = some (insF q)) (hq : w.cell? ⟨q, 0, none⟩ = some (.int .i64 n)) :
    Calls Try.prog 34 #[v, .func (.func 33) #[] #[.pointer (some ⟨p, 0, none⟩)]] w fun e w' => e = .returned (.bool (es.any (outE n))) ∧ Below w.heap.size w w' := by
  have hcon := indexOut_any v es n p q w h hp hq
  obtain ⟨a, cap, rfl⟩ := h.shape
  generalize es.any (outE n) = r at hcon ⊢
  clear h
  go_enter Try.func34, Try.ntmps34
  go_wp2_with fail
  refine hcon.mono ?_
  rintro e w2 ⟨⟨j, rfl, hj⟩, hb2⟩
  have HJ : Hid (decide (0 ≤ j) = r) := hj
  clear hj
  go_wp2_with fail
  go_ret
  exact ⟨ret_bool HJ.out, hb2⟩
/-- A box of a graph: two cells. -/
theorem gbox_cells {w w' : World} {n : Int} {v : Value} (h : Below (w.heap.size + 1) (w.alloc (.cells #[.int .i64 n, v] 24)) w') : w'.cell? ⟨w.heap.size, 0, none⟩ = some (.int .i64 n) ∧ w'.cell? ⟨w.heap.size, 1, none⟩ = some v :=
  ⟨(h.cell (p := ⟨w.heap.size, 0, none⟩) (Nat.lt_succ_self _)).trans (by simp), (h.cell (p := ⟨w.heap.size, 1, none⟩) (Nat.lt_succ_self _)).trans (by simp)⟩
set_option maxHeartbeats 1000000 in
/-- graph.Check. -/
theorem check_any (v : Value) (es : List Ed) (n : Int) (w : World) (h : EdR w v es) :
    Calls Try.prog 19 #[.agg #[.int .i64 n, v]] w fun e w' => e = .returned (.int .i64 (faultE n es)) ∧ Below w.heap.size w w' := by
  have HR : Hid (EdR w v es) := h
  obtain ⟨a, cap, rfl, hc, hm, _, _⟩ := h
  unfold maxLen at hm
  have hmf := makeFunc_run
  by_cases hs : n < 0 ∨ 200 < n ∨ 600 < es.length
  · rw [fault_size hs]
    by_cases h0 : n < 0
    · go_enter Try.func19, Try.ntmps19
      go_wp2_with fail
      go_ret
      exact ⟨rfl, below_alloc _ _⟩
    · by_cases h1 : 200 < n
      · go_enter Try.func19, Try.ntmps19
        go_wp2_with fail
        go_ret
        exact ⟨rfl, below_alloc _ _⟩
      · have h2 : (600 : Int) < (es.length : Int) := by omega
        go_enter Try.func19, Try.ntmps19
        go_wp2_with fail
        go_ret
        exact ⟨rfl, below_alloc _ _⟩
  · have h0 : ¬ n < 0 := by omega
    have h1 : ¬ 200 < n := by omega
    have h2 : ¬ (600 : Int) < (es.length : Int) := by omega
    have HF : Hid (∀ b : Bool, es.any (outE n) = b → faultE n es = if b then 2 else 0) := fun b hb => fault_any hs b hb
    generalize faultE n es = fe at *
    clear hs
    go_enter Try.func19, Try.ntmps19
    go_wp2_with fail
    refine (insideOf_any n _).mono ?_
    rintro e w1 ⟨rfl, rfl⟩
    unfold insF
    go_wp2_with fail
    refine (containsOut_any _ es n (w.heap.size + 2) (w.heap.size + 1) _ ?_ ?_ ?_).mono ?_
    · exact HR.out.below (((below_alloc w _).alloc (by simp) _).alloc (by simp; omega) _) (Nat.le_refl _)
    · exact cell_third _ _ _ _ _
    · exact ((below_alloc _ _).cell (p := ⟨w.heap.size + 1, 0, none⟩) (by simp)).trans (cell_second _ _ _ _)
    rintro e w2 ⟨rfl, hb2⟩
    have B2 : Hid (Below w.heap.size w w2) := (((below_alloc w _).alloc (by simp) _).alloc (by simp; omega) _).trans (hb2.mono (by simp; omega))
    have HF2 := HF.out _ rfl
    clear hb2 HF
    generalize es.any (outE n) = r at HF2 ⊢
    cases r
    · go_wp2_with fail
      go_ret
      exact ⟨by rw [HF2]; rfl, B2.out⟩
    · go_wp2_with fail
      go_ret
      exact ⟨by rw [HF2]; rfl, B2.out⟩
end Go.Proofs.Ytinijeejfnehmaa
