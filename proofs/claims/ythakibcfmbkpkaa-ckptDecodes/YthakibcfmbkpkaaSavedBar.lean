/-
  Contracts of ckpt.valueBarred and mailBarred, and of slices.ContainsFunc over them.
-/
import Derived.Test.YthakibcfmbkpkaaSavedMath
import Derived.Test.YthakibcfmbkpkaaMayBar
import Derived.Test.YthakibcfmbkpkaaQueueCount
import Derived.Test.YthakibcfmbkpkaaBoxMem
namespace Go.Proofs.Ythakibcfmbkpkaa
set_option maxRecDepth 100000
open Go.ChangeShapes Go.WideShapes Go.ChangeAt Go.RowKit

theorem mlR_new {w : World} {g : Nat} {m : Ml} {t : TypeId} (h : w.heap[g]? = some (.cells #[.int .i64 m.1, .int .i64 m.2] t)) : MlR w (.slice (some ⟨g, 0, none⟩) 1 1) [m] := by
  refine ⟨some ⟨g, 0, none⟩, 1, rfl, by simp, by simp [maxLen], fun h => (by cases h), fun _ => ⟨g, 0, rfl, ?_, ?_⟩⟩
  · exact (Array.getElem?_eq_some_iff.1 h).1
  · intro i x hx j u hu
    cases i with
    | succ i => simp at hx
    | zero =>
      simp only [List.getElem?_cons_zero, Option.some.injEq] at hx
      subst hx
      cases j with
      | zero =>
        have e : u = .int .i64 m.1 := by simpa [encM] using hu.symm
        rw [e, cell_of_row _ _ _ _ _ _ h]; rfl
      | succ j =>
        cases j with
        | zero =>
          have e : u = .int .i64 m.2 := by simpa [encM] using hu.symm
          rw [e, cell_of_row _ _ _ _ _ _ h]; rfl
        | succ j => simp [encM] at hu
set_option maxHeartbeats 1000000 in
theorem valBarred_any (m : Ml) (w : World) : Calls Try.prog 35 #[.agg #[.int .i64 m.1, .int .i64 m.2]] w fun e w' => e = .returned (.bool (!valS m)) ∧ Below w.heap.size w w' := by
  obtain ⟨a, b⟩ := m
  simp only
  have hb : ∀ o, Below w.heap.size w (w.alloc o) := fun o => below_alloc w o
  have HY : Hid (¬ (-1 ≤ a ∧ a ≤ 4398046511104 ∧ -1 ≤ b ∧ b < 200) → (!valS (a, b)) = true) := fun h => by rw [valS_no.2 h]; rfl
  have HN : Hid ((-1 ≤ a ∧ a ≤ 4398046511104 ∧ -1 ≤ b ∧ b < 200) → (!valS (a, b)) = false) := fun h => by rw [valS_iff.2 h]; rfl
  generalize (!valS (a, b)) = r at *
  by_cases h0 : a < -1
  · have e := HY.out (by omega)
    subst e
    clear HY HN
    go_enter Try.func35, Try.ntmps35
    go_wp2_with fail
    go_ret
    exact ⟨rfl, hb _⟩
  · by_cases h1 : 4398046511104 < a
    · have e := HY.out (by omega)
      subst e
      clear HY HN
      go_enter Try.func35, Try.ntmps35
      go_wp2_with fail
      go_ret
      exact ⟨rfl, hb _⟩
    · by_cases h2 : b < -1
      · have e := HY.out (by omega)
        subst e
        clear HY HN
        go_enter Try.func35, Try.ntmps35
        go_wp2_with fail
        go_ret
        exact ⟨rfl, hb _⟩
      · by_cases h3 : 200 ≤ b
        · have e := HY.out (by omega)
          subst e
          clear HY HN
          go_enter Try.func35, Try.ntmps35
          go_wp2_with fail
          go_ret
          exact ⟨rfl, hb _⟩
        · have e := HN.out (by omega)
          subst e
          clear HY HN
          go_enter Try.func35, Try.ntmps35
          go_wp2_with fail
          go_ret
          exact ⟨rfl, hb _⟩

set_option maxHeartbeats 1000000 in
theorem indexVal_any (v : Value) (l : List Ml) (w : World) (h : MlR w v l) :
    Calls Try.prog 46 #[v, .func (.func 35) #[] #[]] w fun e w' => (∃ r : Int, e = .returned (.int .i64 r) ∧ decide (0 ≤ r) = !valA l) ∧ Below w.heap.size w w' := by
  have HR : Hid (MlR w v l) := h
  obtain ⟨a, cap, rfl, hc, hm, _, _⟩ := h
  unfold maxLen at hm
  go_enter Try.func46, Try.ntmps46
  go_wp2_with fail
  go_loopw [8] (fun i wr => ∃ k : Nat, k ≤ l.length ∧ i = .int .i64 k ∧ valA (l.take k) = true ∧ Below w.heap.size w wr) (fun i _ => l.length - (intOf i).toNat)
  case atStart => exact ⟨0, by omega, rfl, rfl, Below.refl _ _⟩
  case round =>
    obtain ⟨k, hk, rfl, hno, hbel⟩ := hrel
    have HNO : Hid (valA (l.take k) = true) := hno
    have HB : Hid (Below w.heap.size w wr) := hbel
    have hsr := hbel.size
    clear hno hbel
    by_cases hlt : k < l.length
    · obtain ⟨b, off, cap', e1, _, _, lt, hv⟩ := MlR.at (HR.out.below HB.out (Nat.le_refl _)) (by omega)
      injection e1 with e1 e2 e3
      subst e1 e3
      clear e2
      obtain ⟨x, hx⟩ := getX hlt
      obtain ⟨c1, c2⟩ := hv k x hx
      have HX : Hid (l[k]? = some x) := hx
      clear hv hx
      cases ho : valS x
      · have HA : Hid (valA l = false) := valA_hit HX.out ho
        go_wp2_with fail
        refine (valBarred_any x _).mono ?_
        rw [ho]
        rintro e w2 ⟨rfl, hb2⟩
        go_wp2_with fail
        go_ret
        exact ⟨⟨k, rfl, by rw [HA.out]; simp⟩, HB.out.trans (hb2.mono hsr)⟩
      · have HN2 : Hid (valA (l.take (k + 1)) = true) := valA_cut HX.out HNO.out ho
        go_wp2_with fail
        refine (valBarred_any x _).mono ?_
        rw [ho]
        rintro e w2 ⟨rfl, hb2⟩
        go_wp2_with fail
        go_roundw
        case rel => exact ⟨k + 1, by omega, by go_num, HN2.out, HB.out.trans (hb2.mono hsr)⟩
        case measure => simp [intOf]; omega
    · have ek : l.take k = l := List.take_of_length_le (by omega)
      have HA : Hid (valA l = true) := by have := HNO.out; rwa [ek] at this
      clear ek
      go_wp2_with fail
      go_ret
      exact ⟨⟨-1, rfl, by rw [HA.out]; rfl⟩, HB.out⟩

set_option maxHeartbeats 400000 in
theorem containsVal_any (v : Value) (l : List Ml) (w : World) (h : MlR w v l) :
    Calls Try.prog 34 #[v, .func (.func 35) #[] #[]] w fun e w' => e = .returned (.bool (!valA l)) ∧ Below w.heap.size w w' := by
  have hcon := indexVal_any v l w h
  obtain ⟨a, cap, rfl⟩ := h.shape
  generalize (!valA l) = r at hcon ⊢
  clear h
  go_enter Try.func34, Try.ntmps34
  go_wp2_with fail
  refine hcon.mono ?_
  rintro e w2 ⟨⟨j, rfl, hj⟩, hb2⟩
  have HJ : Hid (decide (0 ≤ j) = r) := hj
  clear hj
  go_wp2_with fail
  go_ret
  exact ⟨ret_bool HJ.out, hb2⟩

set_option maxHeartbeats 1000000 in
set_option maxRecDepth 100000 in
/-- A queue with this one piece may not be for one thing alone. -/
theorem mailBarred_any (m : Ml) (w : World) (hB : mlB m) : Calls Try.prog 38 #[.agg #[.int .i64 m.1, .int .i64 m.2]] w fun e w' => e = .returned (.bool (!mayM m)) ∧ Below w.heap.size w w' := by
  have CQ : Hid (∀ X v, MlR X v [m] → Calls Try.prog 49 #[.agg #[.int .i64 1000, v, .slice none 0 0]] X fun e w' => ∃ c : Int, e = .returned (.tuple #[.int .i64 c, .int .i64 (if mayM m then 0 else 9)]) ∧ Below X.heap.size X w') := fun X v hX => by
    have h1 := queueCount_any 1000 v (.slice none 0 0) [m] [] X ⟨hX, BsR.nil X⟩ ⟨⟨fun x hx => by simp only [List.mem_cons, List.not_mem_nil, or_false] at hx; subst hx; exact hB, by simp⟩, fun l hl => by simp at hl, by simp⟩
    have e1 : mayA [m] = mayM m := by unfold mayA; simp
    have hE : errQ (quF 1000 [m] []) = if mayM m then 0 else 9 := by
      cases hm : mayM m with
      | false =>
        have h0 : okQ 1000 [m] ([] : List (List Int)).length = false := by
          unfold okQ
          rw [e1, hm]; simp
        rw [quF_no h0]; rfl
      | true =>
        have h0 : okQ 1000 [m] ([] : List (List Int)).length = true := okQ_iff.2 ⟨⟨by omega, by omega, by simp, by simp⟩, e1.trans hm⟩
        rw [quF_yes h0]; rfl
    exact h1.mono fun e w' h => ⟨_, by rw [← hE]; exact h.1, h.2⟩
  have HE : Hid (((if mayM m then (0 : Int) else 9) != 0) = !mayM m) := by show _ = _; cases mayM m <;> rfl
  obtain ⟨a, b⟩ := m
  simp only
  generalize (!mayM (a, b)) = r at *
  obtain ⟨z, hz⟩ : ∃ z : Int, (if mayM (a, b) then (0 : Int) else 9) = z := ⟨_, rfl⟩
  rw [hz] at CQ HE
  clear hz hB
  have X0 : BX 45 (w.alloc (.cells #[.int .i64 a, .int .i64 b] 45)) w.heap.size #[.int .i64 a, .int .i64 b] := BX.new _ _ _
  have R1 : Hid (MlR ((w.alloc (.cells #[.int .i64 a, .int .i64 b] 45)).alloc (.cells #[.int .i64 a, .int .i64 b] 45)) (.slice (some ⟨w.heap.size + 1, 0, none⟩) 1 1) [(a, b)]) := by
    have h1 : ((w.alloc (.cells #[.int .i64 a, .int .i64 b] 45)).alloc (.cells #[.int .i64 a, .int .i64 b] 45)).heap[w.heap.size + 1]? = some (.cells #[.int .i64 a, .int .i64 b] 45) := by
      have := heap_alloc_new (w.alloc (.cells #[.int .i64 a, .int .i64 b] 45)) (.cells #[.int .i64 a, .int .i64 b] 45)
      simpa using this
    exact mlR_new h1
  have B1 : Hid (Below w.heap.size w ((w.alloc (.cells #[.int .i64 a, .int .i64 b] 45)).alloc (.cells #[.int .i64 a, .int .i64 b] 45))) := (below_alloc w _).alloc (by simp) _
  obtain ⟨m0, m1, _⟩ := X0.all2
  clear X0
  go_enter Try.func38, Try.ntmps38
  go_wp2_with fail
  refine (CQ.out _ _ R1.out).mono ?_
  rintro e w2 ⟨c, rfl, hb2⟩
  have B2 : Hid (Below w.heap.size w w2) := B1.out.trans (hb2.mono B1.out.size)
  clear hb2 m0 m1 B1 R1 CQ
  go_wp2_with fail
  go_ret
  exact ⟨ret_bool HE.out, B2.out⟩
set_option maxHeartbeats 1000000 in
theorem indexMal_any (v : Value) (l : List Ml) (w : World) (h : MlR w v l) (hB : ∀ x ∈ l, mlB x) :
    Calls Try.prog 48 #[v, .func (.func 38) #[] #[]] w fun e w' => (∃ r : Int, e = .returned (.int .i64 r) ∧ decide (0 ≤ r) = !mayA l) ∧ Below w.heap.size w w' := by
  have HR : Hid (MlR w v l) := h
  have HB0 : Hid (∀ x ∈ l, mlB x) := hB
  clear hB
  obtain ⟨a, cap, rfl, hc, hm, _, _⟩ := h
  unfold maxLen at hm
  go_enter Try.func48, Try.ntmps48
  go_wp2_with fail
  go_loopw [8] (fun i wr => ∃ k : Nat, k ≤ l.length ∧ i = .int .i64 k ∧ mayA (l.take k) = true ∧ Below w.heap.size w wr) (fun i _ => l.length - (intOf i).toNat)
  case atStart => exact ⟨0, by omega, rfl, rfl, Below.refl _ _⟩
  case round =>
    obtain ⟨k, hk, rfl, hno, hbel⟩ := hrel
    have HNO : Hid (mayA (l.take k) = true) := hno
    have HB : Hid (Below w.heap.size w wr) := hbel
    have hsr := hbel.size
    clear hno hbel
    by_cases hlt : k < l.length
    · obtain ⟨b, off, cap', e1, _, _, lt, hv⟩ := MlR.at (HR.out.below HB.out (Nat.le_refl _)) (by omega)
      injection e1 with e1 e2 e3
      subst e1 e3
      clear e2
      obtain ⟨x, hx⟩ := getX hlt
      obtain ⟨c1, c2⟩ := hv k x hx
      have HX : Hid (l[k]? = some x) := hx
      clear hv hx
      cases ho : mayM x
      · have HA : Hid (mayA l = false) := mayA_hit HX.out ho
        go_wp2_with fail
        refine (mailBarred_any x _ (HB0.out x (List.mem_of_getElem? HX.out))).mono ?_
        rw [ho]
        rintro e w2 ⟨rfl, hb2⟩
        go_wp2_with fail
        go_ret
        exact ⟨⟨k, rfl, by rw [HA.out]; simp⟩, HB.out.trans (hb2.mono hsr)⟩
      · have HN2 : Hid (mayA (l.take (k + 1)) = true) := mayA_cut HX.out HNO.out ho
        go_wp2_with fail
        refine (mailBarred_any x _ (HB0.out x (List.mem_of_getElem? HX.out))).mono ?_
        rw [ho]
        rintro e w2 ⟨rfl, hb2⟩
        go_wp2_with fail
        go_roundw
        case rel => exact ⟨k + 1, by omega, by go_num, HN2.out, HB.out.trans (hb2.mono hsr)⟩
        case measure => simp [intOf]; omega
    · have ek : l.take k = l := List.take_of_length_le (by omega)
      have HA : Hid (mayA l = true) := by have := HNO.out; rwa [ek] at this
      clear ek
      go_wp2_with fail
      go_ret
      exact ⟨⟨-1, rfl, by rw [HA.out]; rfl⟩, HB.out⟩

set_option maxHeartbeats 400000 in
theorem containsMal_any (v : Value) (l : List Ml) (w : World) (h : MlR w v l) (hB : ∀ x ∈ l, mlB x) :
    Calls Try.prog 37 #[v, .func (.func 38) #[] #[]] w fun e w' => e = .returned (.bool (!mayA l)) ∧ Below w.heap.size w w' := by
  have hcon := indexMal_any v l w h hB
  obtain ⟨a, cap, rfl⟩ := h.shape
  generalize (!mayA l) = r at hcon ⊢
  clear h hB
  go_enter Try.func37, Try.ntmps37
  go_wp2_with fail
  refine hcon.mono ?_
  rintro e w2 ⟨⟨j, rfl, hj⟩, hb2⟩
  have HJ : Hid (decide (0 ≤ j) = r) := hj
  clear hj
  go_wp2_with fail
  go_ret
  exact ⟨ret_bool HJ.out, hb2⟩

end Go.Proofs.Ythakibcfmbkpkaa
