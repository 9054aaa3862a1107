/-
  Contracts of prog's lowered, of hear of Dist and Weak; slices.Index and Contains of numbers.
-/
import Derived.Test.YtinijeejfnehmaaProgValue
namespace Go.Proofs.Ytinijeejfnehmaa
set_option maxRecDepth 100000
open Go.ChangeShapes Go.WideShapes Go.ChangeAt Go.RowKit

theorem fold_snoc {α β : Type} (f : β → α → β) (s : β) {xs : List α} {k : Nat} {x : α} (h : xs[k]? = some x) : (xs.take (k + 1)).foldl f s = f ((xs.take k).foldl f s) x := by
  rw [take_snoc h, List.foldl_append]; rfl

set_option maxHeartbeats 2000000 in
set_option maxRecDepth 100000 in
theorem lowered_any (x : Ml) (v : Value) (m : List Int) (w : World) (h : InR w v m) :
    Calls Try.prog 103 #[.agg #[.int .i64 x.1, .int .i64 x.2], v] w (ValP w (lowV x m)) := by
  have HR : Hid (InR w v m) := h
  obtain ⟨a, cap, rfl, hca, hma, _, _⟩ := h
  unfold maxLen at hma
  have HE : Hid (∀ (s : Int × Bool) w', m.foldl lowS (x.1, false) = s → Below w.heap.size w w' → ValP w (lowV x m) (.returned (.tuple #[.agg #[.int .i64 s.1, .int .i64 x.2], .bool s.2])) w') := fun s w' hs hw => ⟨by unfold lowV lowF; rw [hs], hw⟩
  generalize ValP w (lowV x m) = P at *
  go_enter Try.func103, Try.ntmps103
  go_upto_region 1 with fail
  obtain ⟨Q0, T0, B0, s1, s2⟩ := boxes2 w #[.int .i64 x.1, .int .i64 x.2] #[.int .i64 0, .int .i64 0] 53 53 _ rfl
  generalize (w.alloc (.cells #[.int .i64 x.1, .int .i64 x.2] 53)).alloc (.cells #[.int .i64 0, .int .i64 0] 53) = W0 at *
  have Q1 : Hid (BX 53 W0 w.heap.size #[.int .i64 x.1, .int .i64 x.2]) := Q0
  have T1 : Hid (BX 53 W0 (w.heap.size + 1) #[.int .i64 0, .int .i64 0]) := T0
  have BH : Hid (Below w.heap.size w W0) := B0
  clear Q0 T0 B0
  go_wp2_with fail
  go_loopw [6, 11] (fun u i wr => ∃ (k : Nat) (s : Int × Bool), k ≤ m.length ∧ i = .int .i64 k ∧ u = .bool s.2 ∧ (m.take k).foldl lowS (x.1, false) = s ∧ BX 53 wr w.heap.size #[.int .i64 s.1, .int .i64 x.2] ∧ BX 53 wr (w.heap.size + 1) #[.int .i64 0, .int .i64 0] ∧ Below w.heap.size w wr) (fun _ i _ => m.length - (intOf i).toNat)
  case atStart => exact ⟨0, (x.1, false), by omega, rfl, rfl, rfl, Q1.out, T1.out, BH.out⟩
  case round =>
    obtain ⟨k, s, hk, rfl, rfl, hs, hQ, hT, hbel⟩ := hrel
    have HS : Hid ((m.take k).foldl lowS (x.1, false) = s) := hs
    have HQ : Hid (BX 53 wr w.heap.size #[.int .i64 s.1, .int .i64 x.2]) := hQ
    have HT : Hid (BX 53 wr (w.heap.size + 1) #[.int .i64 0, .int .i64 0]) := hT
    have HBL : Hid (Below w.heap.size w wr) := hbel
    clear hs hQ hT hbel
    by_cases hlt : k < m.length
    · obtain ⟨xa, oa, cap', e1, _, _, la, hva⟩ := InR.at (HR.out.below HBL.out (Nat.le_refl _)) (by omega)
      injection e1 with e1 _ e3
      subst e1 e3
      obtain ⟨y, hy⟩ := getX hlt
      have p0 : (0 : Int) ≤ (k : Int) := by omega
      have p1 : (k : Int) < (m.length : Int) := by omega
      have c1 := hva k y hy
      have HY : Hid (m[k]? = some y) := hy
      clear hva hy
      obtain ⟨q0, q1, q2, q3⟩ := HQ.out.all2
      obtain ⟨sa, sb⟩ := s
      simp only at q0
      have HN : Hid (BX 53 (wr.setCell ⟨w.heap.size, 0, none⟩ (.int .i64 y)) w.heap.size #[.int .i64 y, .int .i64 x.2]) := HQ.out.set 0 _
      have HM : Hid (BX 53 (wr.setCell ⟨w.heap.size, 0, none⟩ (.int .i64 y)) (w.heap.size + 1) #[.int .i64 0, .int .i64 0]) := HT.out.other (by omega)
      have HL : Hid (Below w.heap.size w (wr.setCell ⟨w.heap.size, 0, none⟩ (.int .i64 y))) := HBL.out.setCell (Nat.le_refl _) _
      by_cases e1 : sa = -1
      · have HF : Hid ((m.take (k + 1)).foldl lowS (x.1, false) = (y, true)) := by
          show (m.take (k + 1)).foldl lowS (x.1, false) = (y, true)
          rw [fold_snoc _ _ HY.out, HS.out]
          exact if_pos (.inl e1)
        have d1 : (sa == -1) = true := by simpa using e1
        clear e1
        go_wp2_with fail
        go_roundw
        case rel => exact ⟨k + 1, (y, true), by omega, by go_num, rfl, HF.out, HN.out, HM.out, HL.out⟩
        case measure => simp [intOf]; omega
      · have d1 : (sa == -1) = false := by simpa using e1
        by_cases e2 : y < sa
        · have HF : Hid ((m.take (k + 1)).foldl lowS (x.1, false) = (y, true)) := by
            show (m.take (k + 1)).foldl lowS (x.1, false) = (y, true)
            rw [fold_snoc _ _ HY.out, HS.out]
            exact if_pos (.inr e2)
          clear e1
          go_wp2_with fail
          go_roundw
          case rel => exact ⟨k + 1, (y, true), by omega, by go_num, rfl, HF.out, HN.out, HM.out, HL.out⟩
          case measure => simp [intOf]; omega
        · have HF : Hid ((m.take (k + 1)).foldl lowS (x.1, false) = (sa, sb)) := by
            show (m.take (k + 1)).foldl lowS (x.1, false) = (sa, sb)
            rw [fold_snoc _ _ HY.out, HS.out]
            exact if_neg (fun h => by rcases h with h | h; exact e1 h; exact e2 h)
          clear e1
          go_wp2_with fail
          go_roundw
          case rel => exact ⟨k + 1, (sa, sb), by omega, by go_num, rfl, HF.out, HQ.out, HT.out, HBL.out⟩
          case measure => simp [intOf]; omega
    · have HF : Hid (m.foldl lowS (x.1, false) = s) := by
        show m.foldl lowS (x.1, false) = s
        have := HS.out
        rwa [List.take_of_length_le (by omega)] at this
      obtain ⟨q0, q1, _⟩ := HQ.out.all2
      obtain ⟨t0, t1, t2, t3⟩ := HT.out.all2
      have HX : Hid (P (.returned (.tuple #[.agg #[.int .i64 s.1, .int .i64 x.2], .bool s.2])) (put2 wr (w.heap.size + 1) (.int .i64 s.1) (.int .i64 x.2))) := HE.out _ _ HF.out (below_put2 HBL.out (by omega) _ _)
      have RX : Hid (BX 53 (put2 wr (w.heap.size + 1) (.int .i64 s.1) (.int .i64 x.2)) (w.heap.size + 1) #[.int .i64 s.1, .int .i64 x.2]) := HT.out.put2 _ _
      go_wp2_with fail
      obtain ⟨r0, r1, _⟩ := RX.out.all2
      unfold put2 at r0 r1
      exact bodyPost_ret (v := .tuple #[.agg #[.int .i64 s.1, .int .i64 x.2], .bool s.2]) (by simp [results, Try.results103, go_sem, r0, r1]) rfl HX.out

set_option maxHeartbeats 2000000 in
theorem dHear_any (x : Ml) (v : Value) (m : List Int) (w : World) (h : InR w v m) :
    Calls Try.prog 100 #[.agg #[], .agg #[.int .i64 x.1, .int .i64 x.2], v] w (ValP w (lowV x m)) := by
  have HR : Hid (InR w v m) := h
  obtain ⟨a, cap, rfl⟩ := h.shape
  clear h
  have HC : Hid (∀ X, InR X (.slice a m.length cap) m → Calls Try.prog 103 #[.agg #[.int .i64 x.1, .int .i64 x.2], .slice a m.length cap] X (ValP X (lowV x m))) := fun X hX => lowered_any x _ m X hX
  unfold ValP at *
  generalize lowV x m = r at *
  go_enter Try.func100, Try.ntmps100
  go_upto_region 1 with fail
  obtain ⟨_, Q0, T0, B0, s1, s2⟩ := boxes3 w #[] #[.int .i64 x.1, .int .i64 x.2] #[.int .i64 0, .int .i64 0] 84 53 53 _ rfl
  generalize ((w.alloc (.cells #[] 84)).alloc (.cells #[.int .i64 x.1, .int .i64 x.2] 53)).alloc (.cells #[.int .i64 0, .int .i64 0] 53) = W0 at *
  have T1 : Hid (BX 53 W0 (w.heap.size + 2) #[.int .i64 0, .int .i64 0]) := T0
  have BH : Hid (Below w.heap.size w W0) := B0
  obtain ⟨q0, q1, _⟩ := Q0.all2
  clear Q0 T0 B0
  go_wp2_with fail
  refine (HC.out _ (HR.out.below BH.out (Nat.le_refl _))).mono ?_
  rintro e w1 ⟨rfl, hb1⟩
  have B1 : Hid (Below w.heap.size w w1) := BH.out.trans (hb1.mono (by omega))
  have T2 : Hid (BX 53 w1 (w.heap.size + 2) #[.int .i64 0, .int .i64 0]) := T1.out.below hb1 (by omega)
  clear hb1 q0 q1
  obtain ⟨t0, t1, t2, t3⟩ := T2.out.all2
  have RX : Hid (BX 53 (put2 w1 (w.heap.size + 2) (.int .i64 r.1.1) (.int .i64 r.1.2)) (w.heap.size + 2) #[.int .i64 r.1.1, .int .i64 r.1.2]) := T2.out.put2 _ _
  have HX : Hid (Below w.heap.size w (put2 w1 (w.heap.size + 2) (.int .i64 r.1.1) (.int .i64 r.1.2))) := below_put2 B1.out (by omega) _ _
  go_wp2_with fail
  obtain ⟨r0, r1, _⟩ := RX.out.all2
  unfold put2 at r0 r1
  exact bodyPost_ret (v := .tuple #[.agg #[.int .i64 r.1.1, .int .i64 r.1.2], .bool r.2]) (by simp [results, Try.results100, go_sem, r0, r1]) rfl ⟨rfl, HX.out⟩
set_option maxHeartbeats 2000000 in
theorem wHear_any (x : Ml) (v : Value) (m : List Int) (w : World) (h : InR w v m) :
    Calls Try.prog 106 #[.agg #[], .agg #[.int .i64 x.1, .int .i64 x.2], v] w (ValP w (lowV x m)) := by
  have HR : Hid (InR w v m) := h
  obtain ⟨a, cap, rfl⟩ := h.shape
  clear h
  have HC : Hid (∀ X, InR X (.slice a m.length cap) m → Calls Try.prog 103 #[.agg #[.int .i64 x.1, .int .i64 x.2], .slice a m.length cap] X (ValP X (lowV x m))) := fun X hX => lowered_any x _ m X hX
  unfold ValP at *
  generalize lowV x m = r at *
  go_enter Try.func106, Try.ntmps106
  go_upto_region 1 with fail
  obtain ⟨_, Q0, T0, B0, s1, s2⟩ := boxes3 w #[] #[.int .i64 x.1, .int .i64 x.2] #[.int .i64 0, .int .i64 0] 85 53 53 _ rfl
  generalize ((w.alloc (.cells #[] 85)).alloc (.cells #[.int .i64 x.1, .int .i64 x.2] 53)).alloc (.cells #[.int .i64 0, .int .i64 0] 53) = W0 at *
  have T1 : Hid (BX 53 W0 (w.heap.size + 2) #[.int .i64 0, .int .i64 0]) := T0
  have BH : Hid (Below w.heap.size w W0) := B0
  obtain ⟨q0, q1, _⟩ := Q0.all2
  clear Q0 T0 B0
  go_wp2_with fail
  refine (HC.out _ (HR.out.below BH.out (Nat.le_refl _))).mono ?_
  rintro e w1 ⟨rfl, hb1⟩
  have B1 : Hid (Below w.heap.size w w1) := BH.out.trans (hb1.mono (by omega))
  have T2 : Hid (BX 53 w1 (w.heap.size + 2) #[.int .i64 0, .int .i64 0]) := T1.out.below hb1 (by omega)
  clear hb1 q0 q1
  obtain ⟨t0, t1, t2, t3⟩ := T2.out.all2
  have RX : Hid (BX 53 (put2 w1 (w.heap.size + 2) (.int .i64 r.1.1) (.int .i64 r.1.2)) (w.heap.size + 2) #[.int .i64 r.1.1, .int .i64 r.1.2]) := T2.out.put2 _ _
  have HX : Hid (Below w.heap.size w (put2 w1 (w.heap.size + 2) (.int .i64 r.1.1) (.int .i64 r.1.2))) := below_put2 B1.out (by omega) _ _
  go_wp2_with fail
  obtain ⟨r0, r1, _⟩ := RX.out.all2
  unfold put2 at r0 r1
  exact bodyPost_ret (v := .tuple #[.agg #[.int .i64 r.1.1, .int .i64 r.1.2], .bool r.2]) (by simp [results, Try.results106, go_sem, r0, r1]) rfl ⟨rfl, HX.out⟩

set_option maxHeartbeats 1000000 in
/-- Where a number stands: its first place, or -1. -/
theorem index_any (v : Value) (m : List Int) (z : Int) (w : World) (h : InR w v m) :
    Calls Try.prog 114 #[v, .int .i64 z] w fun e w' => (∃ n : Int, e = .returned (.int .i64 n) ∧ decide (0 ≤ n) = hasB m z) ∧ w' = w := by
  have HR : Hid (InR w v m) := h
  obtain ⟨a, cap, rfl, hca, hma, _, _⟩ := h
  unfold maxLen at hma
  go_enter Try.func114, Try.ntmps114
  go_wp2_with fail
  go_loopw [8] (fun i wr => ∃ k : Nat, k ≤ m.length ∧ i = .int .i64 k ∧ hasB (m.take k) z = false ∧ wr = w) (fun i _ => m.length - (intOf i).toNat)
  case atStart => exact ⟨0, by omega, rfl, rfl, rfl⟩
  case round =>
    obtain ⟨k, hk, rfl, hh, rfl⟩ := hrel
    have HH : Hid (hasB (m.take k) z = false) := hh
    clear hh
    by_cases hlt : k < m.length
    · obtain ⟨xa, oa, cap', e1, _, _, la, hva⟩ := InR.at HR.out (by omega)
      injection e1 with e1 _ e3
      subst e1 e3
      obtain ⟨y, hy⟩ := getX hlt
      have p0 : (0 : Int) ≤ (k : Int) := by omega
      have p1 : (k : Int) < (m.length : Int) := by omega
      have c1 := hva k y hy
      have HY : Hid (m[k]? = some y) := hy
      clear hva hy
      by_cases e : z = y
      · have d1 : (z == y) = true := by simpa using e
        have HA : Hid (hasB m z = true) := hasB_iff.2 (by rw [e]; exact List.mem_of_getElem? HY.out)
        clear e
        go_wp2_with fail
        go_ret
        exact ⟨⟨_, rfl, by rw [HA.out]; simp⟩, rfl⟩
      · have d1 : (z == y) = false := by simpa using e
        have HF : Hid (hasB (m.take (k + 1)) z = false) := by
          show hasB (m.take (k + 1)) z = false
          have := HH.out
          unfold hasB at this ⊢
          rw [take_snoc HY.out, List.any_append, this]
          simp only [List.any_cons, List.any_nil, Bool.or_false, Bool.false_or]
          simpa using fun h => e h.symm
        clear e
        go_wp2_with fail
        go_roundw
        case rel => exact ⟨k + 1, by omega, by go_num, HF.out, trivial⟩
        case measure => simp [intOf]; omega
    · have HF : Hid (hasB m z = false) := by
        show hasB m z = false
        have := HH.out
        rwa [List.take_of_length_le (by omega)] at this
      go_wp2_with fail
      go_ret
      exact ⟨⟨_, rfl, by rw [HF.out]; rfl⟩, rfl⟩
set_option maxHeartbeats 1000000 in
theorem contains_any (v : Value) (m : List Int) (z : Int) (w : World) (h : InR w v m) :
    Calls Try.prog 113 #[v, .int .i64 z] w fun e w' => e = .returned (.bool (hasB m z)) ∧ w' = w := by
  have HC := fun X hX => index_any v m z X hX
  have HR : Hid (InR w v m) := h
  obtain ⟨a, cap, rfl⟩ := h.shape
  generalize hasB m z = r at *
  clear h
  have HC' : Hid (∀ X, InR X (.slice a m.length cap) m → Calls Try.prog 114 #[.slice a m.length cap, .int .i64 z] X fun e w' => (∃ n : Int, e = .returned (.int .i64 n) ∧ decide (0 ≤ n) = r) ∧ w' = X) := HC
  clear HC
  go_enter Try.func113, Try.ntmps113
  go_wp2_with fail
  refine (HC'.out _ HR.out).mono ?_
  rintro e w1 ⟨⟨n, rfl, hn⟩, hw⟩
  replace hw := hw.symm
  subst hw
  have HN : Hid (decide (0 ≤ n) = r) := hn
  clear hn HC'
  go_wp2_with fail
  go_ret
  exact ⟨ret_bool (by rw [← HN.out]), rfl⟩
end Go.Proofs.Ytinijeejfnehmaa
