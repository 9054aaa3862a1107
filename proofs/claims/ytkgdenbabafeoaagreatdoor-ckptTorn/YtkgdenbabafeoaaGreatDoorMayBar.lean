/-
  Contracts of queue.anyBarred and what it calls.
-/
import Derived.Test.YtkgdenbabafeoaaGreatDoorQueueMath
namespace Go.Proofs.YtkgdenbabafeoaaGreatDoor
set_option maxRecDepth 100000
open Go.ChangeShapes Go.WideShapes Go.ChangeAt Go.RowKit

set_option maxHeartbeats 1000000 in
/-- anyBarred's closure. -/
theorem barred1_any (m : Ml) (w : World) : Calls Tryz.prog 115 #[.agg #[.int .i64 m.1, .int .i64 m.2]] w fun e w' => e = .returned (.bool (!mayM m)) ∧ Below w.heap.size w w' := by
  obtain ⟨a, b⟩ := m
  simp only
  have hb : ∀ o, Below w.heap.size w (w.alloc o) := fun o => below_alloc w o
  have HY : Hid (¬ (0 ≤ a ∧ a < 200 ∧ 0 ≤ b ∧ b ≤ 4398046511104) → (!mayM (a, b)) = true) := fun h => by rw [mayM_no.2 h]; rfl
  have HN : Hid ((0 ≤ a ∧ a < 200 ∧ 0 ≤ b ∧ b ≤ 4398046511104) → (!mayM (a, b)) = false) := fun h => by rw [mayM_iff.2 h]; rfl
  generalize (!mayM (a, b)) = r at *
  by_cases h0 : a < 0
  · have e := HY.out (by omega)
    subst e
    clear HY HN
    go_enter Tryz.func115, Tryz.ntmps115
    go_wp2_with fail
    go_ret
    exact ⟨rfl, hb _⟩
  · by_cases h1 : 200 ≤ a
    · have e := HY.out (by omega)
      subst e
      clear HY HN
      go_enter Tryz.func115, Tryz.ntmps115
      go_wp2_with fail
      go_ret
      exact ⟨rfl, hb _⟩
    · by_cases h2 : b < 0
      · have e := HY.out (by omega)
        subst e
        clear HY HN
        go_enter Tryz.func115, Tryz.ntmps115
        go_wp2_with fail
        go_ret
        exact ⟨rfl, hb _⟩
      · by_cases h3 : 4398046511104 < b
        · have e := HY.out (by omega)
          subst e
          clear HY HN
          go_enter Tryz.func115, Tryz.ntmps115
          go_wp2_with fail
          go_ret
          exact ⟨rfl, hb _⟩
        · have e := HN.out (by omega)
          subst e
          clear HY HN
          go_enter Tryz.func115, Tryz.ntmps115
          go_wp2_with fail
          go_ret
          exact ⟨rfl, hb _⟩

theorem mayA_cut {l : List Ml} {k : Nat} {x : Ml} (hx : l[k]? = some x) (h : mayA (l.take k) = true) (hm : mayM x = true) : mayA (l.take (k + 1)) = true := by
  rw [take_snoc hx, mayA_app, h]
  show (true && (mayM x && true)) = true
  rw [hm]; rfl
theorem mayA_hit {l : List Ml} {k : Nat} {x : Ml} (hx : l[k]? = some x) (hm : mayM x = false) : mayA l = false := by
  rw [Bool.eq_false_iff]
  intro h
  rw [mayA_iff.1 h x (List.mem_of_getElem? hx)] at hm
  cases hm

set_option maxHeartbeats 1000000 in
theorem indexBar_any (v : Value) (l : List Ml) (w : World) (h : MlR w v l) :
    Calls Tryz.prog 65 #[v, .func (.func 115) #[] #[]] w fun e w' => (∃ r : Int, e = .returned (.int .i64 r) ∧ decide (0 ≤ r) = !mayA l) ∧ Below w.heap.size w w' := by
  have HR : Hid (MlR w v l) := h
  obtain ⟨a, cap, rfl, hc, hm, _, _⟩ := h
  unfold maxLen at hm
  go_enter Tryz.func65, Tryz.ntmps65
  go_wp2_with fail
  go_loopw [8] (fun i wr => ∃ k : Nat, k ≤ l.length ∧ i = .int .i64 k ∧ mayA (l.take k) = true ∧ Below w.heap.size w wr) (fun i _ => l.length - (intOf i).toNat)
  case atStart => exact ⟨0, by omega, rfl, rfl, Below.refl _ _⟩
  case round =>
    obtain ⟨k, hk, rfl, hno, hbel⟩ := hrel
    have HNO : Hid (mayA (l.take k) = true) := hno
    have HB : Hid (Below w.heap.size w wr) := hbel
    have hsr := hbel.size
    clear hno hbel
    by_cases hlt : k < l.length
    · obtain ⟨b, off, cap', e1, _, _, lt, hv⟩ := MlR.at (HR.out.below HB.out (Nat.le_refl _)) (by omega)
      injection e1 with e1 e2 e3
      subst e1 e3
      clear e2
      obtain ⟨x, hx⟩ := getX hlt
      obtain ⟨c1, c2⟩ := hv k x hx
      have HX : Hid (l[k]? = some x) := hx
      clear hv hx
      cases ho : mayM x
      · have HA : Hid (mayA l = false) := mayA_hit HX.out ho
        go_wp2_with fail
        refine (barred1_any x _).mono ?_
        rw [ho]
        rintro e w2 ⟨rfl, hb2⟩
        go_wp2_with fail
        go_ret
        exact ⟨⟨k, rfl, by rw [HA.out]; simp⟩, HB.out.trans (hb2.mono hsr)⟩
      · have HN2 : Hid (mayA (l.take (k + 1)) = true) := mayA_cut HX.out HNO.out ho
        go_wp2_with fail
        refine (barred1_any x _).mono ?_
        rw [ho]
        rintro e w2 ⟨rfl, hb2⟩
        go_wp2_with fail
        go_roundw
        case rel => exact ⟨k + 1, by omega, by go_num, HN2.out, HB.out.trans (hb2.mono hsr)⟩
        case measure => simp [intOf]; omega
    · have ek : l.take k = l := List.take_of_length_le (by omega)
      have HA : Hid (mayA l = true) := by have := HNO.out; rwa [ek] at this
      clear ek
      go_wp2_with fail
      go_ret
      exact ⟨⟨-1, rfl, by rw [HA.out]; rfl⟩, HB.out⟩

set_option maxHeartbeats 400000 in
theorem containsBar_any (v : Value) (l : List Ml) (w : World) (h : MlR w v l) :
    Calls Tryz.prog 40 #[v, .func (.func 115) #[] #[]] w fun e w' => e = .returned (.bool (!mayA l)) ∧ Below w.heap.size w w' := by
  have hcon := indexBar_any v l w h
  obtain ⟨a, cap, rfl⟩ := h.shape
  generalize (!mayA l) = r at hcon ⊢
  clear h
  go_enter Tryz.func40, Tryz.ntmps40
  go_wp2_with fail
  refine hcon.mono ?_
  rintro e w2 ⟨⟨j, rfl, hj⟩, hb2⟩
  have HJ : Hid (decide (0 ≤ j) = r) := hj
  clear hj
  go_wp2_with fail
  go_ret
  exact ⟨ret_bool HJ.out, hb2⟩

set_option maxHeartbeats 400000 in
theorem anyBarred_any (v : Value) (l : List Ml) (w : World) (h : MlR w v l) :
    Calls Tryz.prog 107 #[v] w fun e w' => e = .returned (.bool (!mayA l)) ∧ Below w.heap.size w w' := by
  have hcon := containsBar_any v l w h
  obtain ⟨a, cap, rfl⟩ := h.shape
  generalize (!mayA l) = r at hcon ⊢
  clear h
  go_enter Tryz.func107, Tryz.ntmps107
  go_wp2_with fail
  refine hcon.mono ?_
  rintro e w2 ⟨rfl, hb2⟩
  have HB : Hid (Below w.heap.size w w2) := hb2
  clear hb2
  go_wp2_with fail
  go_ret
  exact ⟨rfl, HB.out⟩
end Go.Proofs.YtkgdenbabafeoaaGreatDoor
