/-
  Contracts of board.outside and heardOf, and of slices.ContainsFunc over them.
-/
import Derived.Test.YtpikfiegmnmbmaaBoardMem
namespace Go.Proofs.Ytpikfiegmnmbmaa
set_option maxRecDepth 100000
open Go.ChangeShapes Go.WideShapes Go.ChangeAt Go.RowKit

theorem numB_hit {l : List Int} {k : Nat} {x : Int} (hx : l[k]? = some x) (h : numB x = false) : l.all numB = false := by
  rw [Bool.eq_false_iff]
  intro g
  rw [List.all_eq_true] at g
  have := g x (List.mem_of_getElem? hx)
  rw [h] at this
  cases this
theorem numB_cut {l : List Int} {k : Nat} {x : Int} (hx : l[k]? = some x) (h : (l.take k).all numB = true) (h1 : numB x = true) : (l.take (k + 1)).all numB = true := by
  rw [take_snoc hx, List.all_append, h, List.all_cons, h1]
  rfl
theorem byB_hit {l : List RpL} {n : Int} {k : Nat} {x : RpL} (hx : l[k]? = some x) (h : x.worker = n) : byB l n = true := byB_iff.2 ⟨x, List.mem_of_getElem? hx, h⟩
theorem byB_cut {l : List RpL} {n : Int} {k : Nat} {x : RpL} (hx : l[k]? = some x) (h : byB (l.take k) n = false) (h1 : x.worker ≠ n) : byB (l.take (k + 1)) n = false := by
  rw [take_snoc hx, byB_no]
  intro r hr
  rcases List.mem_append.1 hr with hr | hr
  · exact byB_no.1 h r hr
  · rw [List.mem_singleton] at hr
    subst hr
    exact h1

set_option maxHeartbeats 400000 in
theorem outside_any (n : Int) (w : World) : Calls Try.prog 19 #[.int .i64 n] w fun e w' => e = .returned (.bool (!numB n)) ∧ w' = w := by
  have HY : Hid (¬ (0 ≤ n ∧ n ≤ 1099511627776) → (!numB n) = true) := fun h => by rw [numB_no.2 h]; rfl
  have HN : Hid ((0 ≤ n ∧ n ≤ 1099511627776) → (!numB n) = false) := fun h => by rw [numB_iff.2 h]; rfl
  generalize (!numB n) = r at *
  by_cases h0 : n < 0
  · have e := HY.out (by omega)
    subst e
    clear HY HN
    go_enter Try.func19, Try.ntmps19
    go_wp2_with fail
    go_ret
    exact ⟨rfl, rfl⟩
  · by_cases h1 : 1099511627776 < n
    · have e := HY.out (by omega)
      subst e
      clear HY HN
      go_enter Try.func19, Try.ntmps19
      go_wp2_with fail
      go_ret
      exact ⟨rfl, rfl⟩
    · have e := HN.out (by omega)
      subst e
      clear HY HN
      go_enter Try.func19, Try.ntmps19
      go_wp2_with fail
      go_ret
      exact ⟨rfl, rfl⟩

set_option maxHeartbeats 1000000 in
theorem indexOutN_any (v : Value) (l : List Int) (w : World) (h : InR w v l) :
    Calls Try.prog 38 #[v, .func (.func 19) #[] #[]] w fun e w' => (∃ r : Int, e = .returned (.int .i64 r) ∧ decide (0 ≤ r) = !l.all numB) ∧ Below w.heap.size w w' := by
  have HR : Hid (InR w v l) := h
  obtain ⟨a, cap, rfl, hc, hm, _, _⟩ := h
  unfold maxLen at hm
  go_enter Try.func38, Try.ntmps38
  go_wp2_with fail
  go_loopw [8] (fun i wr => ∃ k : Nat, k ≤ l.length ∧ i = .int .i64 k ∧ (l.take k).all numB = true ∧ Below w.heap.size w wr) (fun i _ => l.length - (intOf i).toNat)
  case atStart => exact ⟨0, by omega, rfl, rfl, Below.refl _ _⟩
  case round =>
    obtain ⟨k, hk, rfl, hno, hbel⟩ := hrel
    have HNO : Hid ((l.take k).all numB = true) := hno
    have HB : Hid (Below w.heap.size w wr) := hbel
    have hsr := hbel.size
    clear hno hbel
    by_cases hlt : k < l.length
    · obtain ⟨b, off, cap', e1, _, _, lt, hv⟩ := InR.at (HR.out.below HB.out (Nat.le_refl _)) (by omega)
      injection e1 with e1 e2 e3
      subst e1 e3
      clear e2
      obtain ⟨x, hx⟩ := getX hlt
      have c1 := hv k x hx
      have HX : Hid (l[k]? = some x) := hx
      clear hv hx
      cases ho : numB x
      · have HA : Hid (l.all numB = false) := numB_hit HX.out ho
        go_wp2_with fail
        refine (outside_any x _).mono ?_
        rw [ho]
        rintro e w2 ⟨rfl, e2⟩
        have hb2 : Hid (Below w.heap.size w w2) := by rw [e2]; exact HB.out
        clear e2
        go_wp2_with fail
        go_ret
        exact ⟨⟨k, rfl, by rw [HA.out]; simp⟩, hb2.out⟩
      · have HN2 : Hid ((l.take (k + 1)).all numB = true) := numB_cut HX.out HNO.out ho
        go_wp2_with fail
        refine (outside_any x _).mono ?_
        rw [ho]
        rintro e w2 ⟨rfl, e2⟩
        have hb2 : Hid (Below w.heap.size w w2) := by rw [e2]; exact HB.out
        clear e2
        go_wp2_with fail
        go_roundw
        case rel => exact ⟨k + 1, by omega, by go_num, HN2.out, hb2.out⟩
        case measure => simp [intOf]; omega
    · have ek : l.take k = l := List.take_of_length_le (by omega)
      have HA : Hid (l.all numB = true) := by have := HNO.out; rwa [ek] at this
      clear ek
      go_wp2_with fail
      go_ret
      exact ⟨⟨-1, rfl, by rw [HA.out]; rfl⟩, HB.out⟩

set_option maxHeartbeats 400000 in
theorem containsOutN_any (v : Value) (l : List Int) (w : World) (h : InR w v l) :
    Calls Try.prog 33 #[v, .func (.func 19) #[] #[]] w fun e w' => e = .returned (.bool (!l.all numB)) ∧ Below w.heap.size w w' := by
  have hcon := indexOutN_any v l w h
  obtain ⟨a, cap, rfl⟩ := h.shape
  generalize (!l.all numB) = r at hcon ⊢
  clear h
  go_enter Try.func33, Try.ntmps33
  go_wp2_with fail
  refine hcon.mono ?_
  rintro e w2 ⟨⟨j, rfl, hj⟩, hb2⟩
  have HJ : Hid (decide (0 ≤ j) = r) := hj
  clear hj
  go_wp2_with fail
  go_ret
  exact ⟨ret_bool HJ.out, hb2⟩

set_option maxHeartbeats 400000 in
theorem heardOne_any (r : RpL) (vs vg : Value) (n : Int) (q : Nat) (w : World) (hq : w.cell? ⟨q, 0, none⟩ = some (.int .i64 n)) :
    Calls Try.prog 35 #[.agg #[.int .i64 r.worker, .int .i64 r.epoch, .int .i64 r.step, vs, vg, .int .i64 r.waking, .int .i64 r.opn], .pointer (some ⟨q, 0, none⟩)] w fun e w' => e = .returned (.bool (r.worker == n)) ∧ Below w.heap.size w w' := by
  have lt : q < w.heap.size := World.block_lt_of_cell? w _ hq
  have B0 : Hid (Below w.heap.size w (w.alloc (.cells #[.int .i64 r.worker, .int .i64 r.epoch, .int .i64 r.step, vs, vg, .int .i64 r.waking, .int .i64 r.opn] 32))) := below_alloc _ _
  have X0 : BX 32 (w.alloc (.cells #[.int .i64 r.worker, .int .i64 r.epoch, .int .i64 r.step, vs, vg, .int .i64 r.waking, .int .i64 r.opn] 32)) w.heap.size #[.int .i64 r.worker, .int .i64 r.epoch, .int .i64 r.step, vs, vg, .int .i64 r.waking, .int .i64 r.opn] := BX.new _ _ _
  have c0 := X0.cell 0
  have c1 := (B0.out.cell (p := ⟨q, 0, none⟩) lt).trans hq
  clear X0 hq
  go_enter Try.func35, Try.ntmps35
  go_wp2_with fail
  go_ret
  exact ⟨rfl, B0.out⟩

set_option maxHeartbeats 1000000 in
theorem indexRep_any (v : Value) (l : List RpL) (n : Int) (q : Nat) (w : World) (h : RpsR w v l) (hq : w.cell? ⟨q, 0, none⟩ = some (.int .i64 n)) :
    Calls Try.prog 39 #[v, .func (.func 35) #[] #[.pointer (some ⟨q, 0, none⟩)]] w fun e w' => (∃ r : Int, e = .returned (.int .i64 r) ∧ decide (0 ≤ r) = byB l n) ∧ Below w.heap.size w w' := by
  have HR : Hid (RpsR w v l) := h
  have HQ : Hid (∀ X, Below w.heap.size w X → X.cell? ⟨q, 0, none⟩ = some (.int .i64 n)) := fun X hX => (hX.cell (p := ⟨q, 0, none⟩) (World.block_lt_of_cell? w _ hq)).trans hq
  clear hq
  obtain ⟨a, cap, rfl⟩ := h.shape
  clear h
  go_enter Try.func39, Try.ntmps39
  go_wp2_with fail
  go_loopw [8] (fun i wr => ∃ k : Nat, k ≤ l.length ∧ i = .int .i64 k ∧ byB (l.take k) n = false ∧ Below w.heap.size w wr) (fun i _ => l.length - (intOf i).toNat)
  case atStart => exact ⟨0, by omega, rfl, rfl, Below.refl _ _⟩
  case round =>
    obtain ⟨k, hk, rfl, hno, hbel⟩ := hrel
    have HNO : Hid (byB (l.take k) n = false) := hno
    have HB : Hid (Below w.heap.size w wr) := hbel
    have hsr := hbel.size
    clear hno hbel
    by_cases hlt : k < l.length
    · obtain ⟨b, off, cap', e1, _, hm, lt, hv⟩ := RpsR.at (HR.out.below HB.out (Nat.le_refl _)) (by omega)
      unfold maxLen at hm
      injection e1 with e1 e2 e3
      subst e1 e3
      clear e2
      obtain ⟨x, hx⟩ := getX hlt
      obtain ⟨sa, sc, ga, gc, ⟨c0, c1, c2, c3, c4, c5, c6⟩, _, _⟩ := hv k x hx
      have HX : Hid (l[k]? = some x) := hx
      clear hv hx
      have CH : Hid (Calls Try.prog 35 #[.agg #[.int .i64 x.worker, .int .i64 x.epoch, .int .i64 x.step, .slice sa x.sent.length sc, .slice ga x.got.length gc, .int .i64 x.waking, .int .i64 x.opn], .pointer (some ⟨q, 0, none⟩)] wr fun e w' => e = .returned (.bool (x.worker == n)) ∧ Below wr.heap.size wr w') := heardOne_any x _ _ n q wr (HQ.out wr HB.out)
      by_cases ho : x.worker = n
      · have HA : Hid (byB l n = true) := byB_hit HX.out ho
        have eo : (x.worker == n) = true := by simpa using ho
        rw [eo] at CH
        clear ho eo
        go_wp2_with fail
        refine CH.out.mono ?_
        rintro e w2 ⟨rfl, hb2⟩
        go_wp2_with fail
        go_ret
        exact ⟨⟨k, rfl, by rw [HA.out]; simp⟩, HB.out.trans (hb2.mono hsr)⟩
      · have HN2 : Hid (byB (l.take (k + 1)) n = false) := byB_cut HX.out HNO.out ho
        have eo : (x.worker == n) = false := by simpa using ho
        rw [eo] at CH
        clear ho eo
        go_wp2_with fail
        refine CH.out.mono ?_
        rintro e w2 ⟨rfl, hb2⟩
        go_wp2_with fail
        go_roundw
        case rel => exact ⟨k + 1, by omega, by go_num, HN2.out, HB.out.trans (hb2.mono hsr)⟩
        case measure => simp [intOf]; omega
    · have ek : l.take k = l := List.take_of_length_le (by omega)
      have HA : Hid (byB l n = false) := by have := HNO.out; rwa [ek] at this
      clear ek
      go_wp2_with fail
      go_ret
      exact ⟨⟨-1, rfl, by rw [HA.out]; rfl⟩, HB.out⟩

set_option maxHeartbeats 400000 in
theorem containsRep_any (v : Value) (l : List RpL) (n : Int) (q : Nat) (w : World) (h : RpsR w v l) (hq : w.cell? ⟨q, 0, none⟩ = some (.int .i64 n)) :
    Calls Try.prog 34 #[v, .func (.func 35) #[] #[.pointer (some ⟨q, 0, none⟩)]] w fun e w' => e = .returned (.bool (byB l n)) ∧ Below w.heap.size w w' := by
  have hcon := indexRep_any v l n q w h hq
  obtain ⟨a, cap, rfl⟩ := h.shape
  generalize byB l n = r at hcon ⊢
  clear h hq
  go_enter Try.func34, Try.ntmps34
  go_wp2_with fail
  refine hcon.mono ?_
  rintro e w2 ⟨⟨j, rfl, hj⟩, hb2⟩
  have HJ : Hid (decide (0 ≤ j) = r) := hj
  clear hj
  go_wp2_with fail
  go_ret
  exact ⟨ret_bool HJ.out, hb2⟩

set_option maxHeartbeats 400000 in
theorem heardOf_any (v : Value) (l : List RpL) (n : Int) (w : World) (h : RpsR w v l) :
    Calls Try.prog 25 #[v, .int .i64 n] w fun e w' => e = .returned (.bool (byB l n)) ∧ Below w.heap.size w w' := by
  have CC : Hid (Calls Try.prog 34 #[v, .func (.func 35) #[] #[.pointer (some ⟨w.heap.size, 0, none⟩)]] (w.alloc (.cells #[.int .i64 n] 3)) fun e w' => e = .returned (.bool (byB l n)) ∧ Below (w.alloc (.cells #[.int .i64 n] 3)).heap.size (w.alloc (.cells #[.int .i64 n] 3)) w') := containsRep_any v l n w.heap.size _ (h.below (below_alloc _ _) (Nat.le_refl _)) (BX.new 3 w #[.int .i64 n]).all1.1
  have B0 : Hid (Below w.heap.size w (w.alloc (.cells #[.int .i64 n] 3))) := below_alloc _ _
  obtain ⟨a, cap, rfl⟩ := h.shape
  generalize byB l n = r at *
  clear h
  go_enter Try.func25, Try.ntmps25
  go_wp2_with fail
  refine CC.out.mono ?_
  rintro e w2 ⟨rfl, hb2⟩
  have B2 : Hid (Below w.heap.size w w2) := B0.out.trans (hb2.mono B0.out.size)
  clear hb2 CC
  go_wp2_with fail
  go_ret
  exact ⟨rfl, B2.out⟩
end Go.Proofs.Ytpikfiegmnmbmaa
