/-
  Contracts of pacelinekeep's own times and sameMail.
-/
import Derived.Test.YtkddfjichkelnaaMailMath
import Derived.Deep.QuietTactic
import Derived.BigQuiet
namespace Go.Proofs.Ytkddfjichkelnaa
set_option maxRecDepth 100000
open Go.ChangeShapes Go.WideShapes Go.ChangeAt Go.RowKit

/-- The same piece of mail. -/
def eqM (x y : Ml) : Bool := decide (x.1 = y.1 ∧ x.2 = y.2)
theorem eqM_true {x y : Ml} : eqM x y = true ↔ x = y := by
  unfold eqM
  rw [decide_eq_true_iff]
  exact ⟨fun h => Prod.ext h.1 h.2, fun h => by rw [h]; exact ⟨rfl, rfl⟩⟩
/-- How often m stands in a list. -/
def timesM (l : List Ml) (m : Ml) : Nat := l.countP fun x => eqM x m
theorem timesM_perm {a b : List Ml} (h : a.Perm b) (m : Ml) : timesM a m = timesM b m := h.countP_eq _
theorem timesM_pos {l : List Ml} {m : Ml} (h : m ∈ l) : 0 < timesM l m := List.countP_pos_iff.2 ⟨m, h, eqM_true.2 rfl⟩
theorem timesM_le (l : List Ml) (m : Ml) : timesM l m ≤ l.length := List.countP_le_length
theorem timesM_take {l : List Ml} {k : Nat} {x m : Ml} (hx : l[k]? = some x) : timesM (l.take (k + 1)) m = timesM (l.take k) m + (if eqM x m then 1 else 0) := by
  unfold timesM
  rw [take_snoc hx, List.countP_append]
  simp

set_option maxHeartbeats 1000000 in
set_option maxRecDepth 100000 in
theorem sameMailK_yes (va vb : Value) (es : List Ml) (w : World) (ha : MlR w va es) (hb : MlR w vb es) :
    Calls Try.prog 23 #[va, vb] w fun e w' => e = .returned (.bool true) ∧ Below w.heap.size w w' := by
  have HA : Hid (MlR w va es) := ha
  have HB : Hid (MlR w vb es) := hb
  obtain ⟨a, ca, rfl, hca, hma, _, _⟩ := ha
  obtain ⟨b, cb, rfl, hcb, hmb, _, _⟩ := hb
  unfold maxLen at hma hmb
  have hll : ((es.length : Int) != (es.length : Int)) = false := by simp
  go_enter Try.func23, Try.ntmps23
  go_wp2_with fail
  go_loopw [5] (fun i wr => ∃ k : Nat, k ≤ es.length ∧ i = .int .i64 k ∧ Below w.heap.size w wr) (fun i _ => es.length - (intOf i).toNat)
  case atStart => exact ⟨0, by omega, rfl, Below.refl _ _⟩
  case round =>
    obtain ⟨k, hk, rfl, hbel⟩ := hrel
    have HBL : Hid (Below w.heap.size w wr) := hbel
    clear hbel
    by_cases hlt : k < es.length
    · obtain ⟨xa, oa, cap', e1, _, _, la, hva⟩ := MlR.at (HA.out.below HBL.out (Nat.le_refl _)) (by omega)
      injection e1 with e1 _ e3
      subst e1 e3
      obtain ⟨xb, ob, cap', e1, _, _, lb, hvb⟩ := MlR.at (HB.out.below HBL.out (Nat.le_refl _)) (by omega)
      injection e1 with e1 _ e3
      subst e1 e3
      obtain ⟨x, hx⟩ := getX hlt
      have p0 : (0 : Int) ≤ (k : Int) := by omega
      have p1 : (k : Int) < (es.length : Int) := by omega
      obtain ⟨c1, c2⟩ := hva k x hx
      obtain ⟨d1, d2⟩ := hvb k x hx
      obtain ⟨xt, xc⟩ := x
      simp only at c1 c2 d1 d2
      clear hva hvb hx
      go_wp2_with fail
      go_quiet (fail)
      go_wp2_with fail
      go_roundw
      case rel => exact ⟨k + 1, by omega, by go_num, below_drewN HBL.out _⟩
      case measure => simp [intOf]; omega
    · go_wp2_with fail
      go_ret
      exact ⟨rfl, HBL.out⟩


set_option maxHeartbeats 1000000 in
set_option maxRecDepth 100000 in
theorem times_any (v : Value) (l : List Ml) (m : Ml) (w : World) (h : MlR w v l) :
    Calls Try.prog 21 #[v, .agg #[.int .i64 m.1, .int .i64 m.2]] w fun e w' => e = .returned (.int .i64 (timesM l m : Nat)) ∧ Below w.heap.size w w' := by
  have HR : Hid (MlR w v l) := h
  obtain ⟨a, cap, rfl, hc, hm, _, _⟩ := h
  unfold maxLen at hm
  go_enter Try.func21, Try.ntmps21
  go_wp2_with fail
  have HX0 : Hid ((w.alloc (.cells #[.int .i64 m.1, .int .i64 m.2] 40)).heap[w.heap.size]? = some (.cells #[.int .i64 m.1, .int .i64 m.2] 40 (0, 0))) := heap_alloc_new w _
  have HB0 : Hid (Below w.heap.size w (w.alloc (.cells #[.int .i64 m.1, .int .i64 m.2] 40))) := below_alloc w _
  generalize w.alloc (.cells #[.int .i64 m.1, .int .i64 m.2] 40) = w0 at *
  go_loopw [5, 6] (fun s i wr => ∃ k : Nat, k ≤ l.length ∧ i = .int .i64 k ∧ s = .int .i64 (timesM (l.take k) m : Nat) ∧ Below w.heap.size w wr ∧ wr.heap[w.heap.size]? = some (.cells #[.int .i64 m.1, .int .i64 m.2] 40 (0, 0))) (fun _ i _ => l.length - (intOf i).toNat)
  case atStart => exact ⟨0, by omega, rfl, rfl, HB0.out, HX0.out⟩
  case round =>
    obtain ⟨k, hk, rfl, rfl, hbel, hbox⟩ := hrel
    have HB : Hid (Below w.heap.size w wr) := hbel
    have HX : Hid (wr.heap[w.heap.size]? = some (.cells #[.int .i64 m.1, .int .i64 m.2] 40 (0, 0))) := hbox
    have m1 : wr.cell? ⟨w.heap.size, 0, none⟩ = some (.int .i64 m.1) := by rw [cell_of_row _ _ _ _ _ _ hbox]; rfl
    have m2 : wr.cell? ⟨w.heap.size, 1, none⟩ = some (.int .i64 m.2) := by rw [cell_of_row _ _ _ _ _ _ hbox]; rfl
    have htl : timesM (l.take k) m ≤ k := by
      have := timesM_le (l.take k) m
      rw [List.length_take] at this
      omega
    clear hbel hbox
    by_cases hlt : k < l.length
    · obtain ⟨b, off, cap', e1, _, _, lt, hv⟩ := MlR.at (HR.out.below HB.out (Nat.le_refl _)) (by omega)
      injection e1 with e1 _ e3
      subst e1 e3
      obtain ⟨x, hx⟩ := getX hlt
      obtain ⟨c1, c2⟩ := hv k x hx
      have HT : Hid (timesM (l.take (k + 1)) m = timesM (l.take k) m + (if eqM x m then 1 else 0)) := timesM_take hx
      have p0 : (0 : Int) ≤ (k : Int) := by omega
      have p1 : (k : Int) < (l.length : Int) := by omega
      clear hv hx
      generalize timesM (l.take k) m = t at *
      by_cases he : x = m
      · subst he
        have HT2 : Hid (timesM (l.take (k + 1)) x = t + 1) := by show _ = _; rw [HT.out, if_pos (eqM_true.2 rfl)]
        obtain ⟨x0, x1⟩ := x
        simp only at c1 c2 m1 m2
        go_wp2_with fail
        go_quiet (fail)
        go_wp2_with fail
        go_roundw
        case rel => exact ⟨k + 1, by omega, by go_num, by rw [HT2.out]; go_num, below_drewN HB.out _, HX.out⟩
        case measure => simp [intOf]; omega
      · have HT2 : Hid (timesM (l.take (k + 1)) m = t) := by show _ = _; rw [HT.out, if_neg (fun h => he (eqM_true.1 h))]; rfl
        have hne : ¬ (x.1 = m.1 ∧ x.2 = m.2) := fun h => he (Prod.ext h.1 h.2)
        obtain ⟨x0, x1⟩ := x
        obtain ⟨y0, y1⟩ := m
        simp only at c1 c2 m1 m2 hne
        by_cases h0 : x0 = y0
        · have q0 : (x0 == y0) = true := by simpa using h0
          have q1 : (x1 == y1) = false := by simp; intro h; exact hne ⟨h0, h⟩
          clear he hne h0
          go_wp2_with fail
          go_quiet (fail)
          go_wp2_with fail
          go_roundw
          case rel => exact ⟨k + 1, by omega, by go_num, by rw [HT2.out], below_drewN HB.out _, HX.out⟩
          case measure => simp [intOf]; omega
        · have q0 : (x0 == y0) = false := by simpa using h0
          clear he hne h0
          go_wp2_with fail
          go_quiet (fail)
          go_wp2_with fail
          go_roundw
          case rel => exact ⟨k + 1, by omega, by go_num, by rw [HT2.out], below_drewN HB.out _, HX.out⟩
          case measure => simp [intOf]; omega
    · have ek : l.take k = l := List.take_of_length_le (by omega)
      rw [ek]
      clear ek htl
      generalize hte : timesM l m = t
      have HTE : Hid (timesM l m = t) := hte
      clear hte
      go_wp2_with fail
      go_ret
      exact ⟨by rw [HTE.out]; rfl, HB.out⟩
end Go.Proofs.Ytkddfjichkelnaa
