/-
  Contracts of the document's own GraphFault.
-/
import Derived.Test.YtinijeejfnehmaaCheckFace
import Derived.Test.YtinijeejfnehmaaInWalk
namespace Go.Proofs.Ytinijeejfnehmaa
set_option maxRecDepth 100000
open Go.ChangeShapes Go.WideShapes Go.ChangeAt Go.RowKit

/-- What the document's own test says of an edge. -/
theorem out_in (n : Int) (e : Ed) : outE n e = (!inB e.1 0 (n - 1) || !inB e.2.1 0 (n - 1) || !inB e.2.2 0 1099511627776) := by
  unfold outE inB
  have h1 : decide (e.1 ≤ n - 1) = decide (e.1 < n) := by congr 1; exact propext ⟨fun _ => by omega, fun _ => by omega⟩
  have h2 : decide (e.2.1 ≤ n - 1) = decide (e.2.1 < n) := by congr 1; exact propext ⟨fun _ => by omega, fun _ => by omega⟩
  rw [h1, h2, Bool.or_assoc, Bool.or_assoc, Bool.or_assoc]
  congr 2
  by_cases h3 : e.2.2 < 0
  · have h4 : ¬ 0 ≤ e.2.2 := by omega
    simp [h3, h4]
  · have h4 : 0 ≤ e.2.2 := by omega
    by_cases h5 : 1099511627776 < e.2.2
    · have h6 : ¬ e.2.2 ≤ 1099511627776 := by omega
      simp [h3, h4, h5, h6]
    · have h6 : e.2.2 ≤ 1099511627776 := by omega
      simp [h3, h4, h5, h6]

set_option maxHeartbeats 2000000 in
set_option maxRecDepth 100000 in
theorem fault_walk (v : Value) (es : List Ed) (n : Int) (w : World) (h : EdR w v es) :
    Calls Try.prog 22 #[.agg #[.int .i64 n, v]] w fun e w' => e = .returned (.int .i64 (faultE n es)) ∧ Below w.heap.size w w' := by
  have HR : Hid (EdR w v es) := h
  obtain ⟨a, cap, rfl, hc, hm, _, _⟩ := h
  unfold maxLen at hm
  by_cases hn : 0 ≤ n ∧ n ≤ 200
  · have i0 := in_yes hn
    by_cases h2 : 600 < es.length
    · rw [fault_size (by omega)]
      have h2' : (600 : Int) < (es.length : Int) := by omega
      go_enter Try.func22, Try.ntmps22
      go_wp2_with (go_at_call 14; refine (in_any _ _ _ _).mono ?_; rw [i0]; rintro e w1 ⟨rfl, rfl⟩)
      go_ret
      exact ⟨rfl, below_alloc _ _⟩
    · have h2' : ¬ (600 : Int) < (es.length : Int) := by omega
      have HF : Hid (∀ b : Bool, es.any (outE n) = b → faultE n es = if b then 2 else 0) := fun b hb => fault_any (by omega) b hb
      generalize faultE n es = fe at *
      have hw1 : IntKind.i64.wrap (n - 1) = n - 1 := wrap_id64 (by omega) (by omega)
      go_enter Try.func22, Try.ntmps22
      go_wp2_with (go_at_call 14; refine (in_any _ _ _ _).mono ?_; rw [i0]; rintro e w1 ⟨rfl, rfl⟩)
      go_loopw [3] (fun i wr => ∃ k : Nat, k ≤ es.length ∧ i = .int .i64 k ∧ (es.take k).any (outE n) = false ∧ Below (w.heap.size + 1) (w.alloc (.cells #[.int .i64 n, .slice a es.length cap] 24)) wr) (fun i _ => es.length - (intOf i).toNat)
      case atStart => exact ⟨0, by omega, rfl, rfl, Below.refl _ _⟩
      case round =>
        obtain ⟨k, hk, rfl, hno, hbel⟩ := hrel
        have HNO : Hid ((es.take k).any (outE n) = false) := hno
        obtain ⟨b0, b1⟩ := gbox_cells hbel
        have HB : Hid (Below w.heap.size w wr) := box_below hbel
        have HB' : Hid (Below (w.heap.size + 1) (w.alloc (.cells #[.int .i64 n, .slice a es.length cap] 24)) wr) := hbel
        have hsr : w.heap.size + 1 ≤ wr.heap.size := by have := hbel.size; simpa using this
        clear hno hbel
        by_cases hlt : k < es.length
        · obtain ⟨b, off, cap', e1, _, _, lt, hv⟩ := EdR.at (HR.out.below HB.out (Nat.le_refl _)) (by omega)
          injection e1 with e1 _ e3
          subst e1 e3
          obtain ⟨x, hx⟩ := getE hlt
          obtain ⟨c1, c2, c3⟩ := hv k x hx
          have HX : Hid (es[k]? = some x) := hx
          have HO := out_in n x
          clear hv hx
          obtain ⟨xf, xt, xc⟩ := x
          simp only at c1 c2 c3 HO
          have q0 : ∀ X, (wr.alloc X).cell? ⟨w.heap.size, 0, none⟩ = some (.int .i64 n) := fun X => ((below_alloc wr X).cell (p := ⟨w.heap.size, 0, none⟩) (show w.heap.size < wr.heap.size by omega)).trans b0
          cases j1 : inB xf 0 (n - 1)
          · have HA : Hid (es.any (outE n) = true) := any_hit HX.out (by rw [HO, j1]; rfl)
            go_wp2_with (go_at_call 14; refine (in_any _ _ _ _).mono ?_; rw [j1]; rintro e w1 ⟨rfl, rfl⟩)
            go_ret
            exact ⟨by rw [HF.out _ HA.out]; rfl, HB.out.trans ((below_alloc _ _).mono (by omega))⟩
          · cases j2 : inB xt 0 (n - 1)
            · have HA : Hid (es.any (outE n) = true) := any_hit HX.out (by rw [HO, j1, j2]; rfl)
              go_wp2_with (go_at_call 14; refine (in_any _ _ _ _).mono ?_; (first | rw [j1] | rw [j2]); rintro e w1 ⟨rfl, rfl⟩)
              go_ret
              exact ⟨by rw [HF.out _ HA.out]; rfl, HB.out.trans ((below_alloc _ _).mono (by omega))⟩
            · cases j3 : inB xc 0 1099511627776
              · have HA : Hid (es.any (outE n) = true) := any_hit HX.out (by rw [HO, j1, j2, j3]; rfl)
                go_wp2_with (go_at_call 14; refine (in_any _ _ _ _).mono ?_; (first | rw [j1] | rw [j2] | rw [j3]); rintro e w1 ⟨rfl, rfl⟩)
                go_ret
                exact ⟨by rw [HF.out _ HA.out]; rfl, HB.out.trans ((below_alloc _ _).mono (by omega))⟩
              · have HN2 : Hid ((es.take (k + 1)).any (outE n) = false) := any_step HX.out HNO.out (by rw [HO, j1, j2, j3]; rfl)
                go_wp2_with (go_at_call 14; refine (in_any _ _ _ _).mono ?_; (first | rw [j1] | rw [j2] | rw [j3]); rintro e w1 ⟨rfl, rfl⟩)
                go_roundw
                case rel => exact ⟨k + 1, by omega, by go_num, HN2.out, HB'.out.trans ((below_alloc _ _).mono (by omega))⟩
                case measure => simp [intOf]; omega
        · have ek : k = es.length := by omega
          have HA : Hid (es.any (outE n) = false) := any_miss (by rw [← ek]; exact HNO.out)
          clear ek
          go_wp2_with fail
          go_ret
          exact ⟨by rw [HF.out _ HA.out]; rfl, HB.out⟩
  · have i0 := in_no hn
    rw [fault_size (by omega)]
    go_enter Try.func22, Try.ntmps22
    go_wp2_with (go_at_call 14; refine (in_any _ _ _ _).mono ?_; rw [i0]; rintro e w1 ⟨rfl, rfl⟩)
    go_ret
    exact ⟨rfl, below_alloc _ _⟩
end Go.Proofs.Ytinijeejfnehmaa
