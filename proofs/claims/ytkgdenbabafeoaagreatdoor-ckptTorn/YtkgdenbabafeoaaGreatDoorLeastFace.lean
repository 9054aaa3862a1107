/-
  Contract of merge.Least.
-/
import Derived.Test.YtkgdenbabafeoaaGreatDoorMailCmp
import Derived.Test.YtkgdenbabafeoaaGreatDoorMailRes
namespace Go.Proofs.YtkgdenbabafeoaaGreatDoor
set_option maxRecDepth 100000
open Go.ChangeShapes Go.WideShapes Go.ChangeAt Go.RowKit

set_option maxHeartbeats 2000000 in
set_option maxRecDepth 100000 in
theorem least_any (v : Value) (l : List Ml) (w : World) (h : MlR w v l) : Calls Tryz.prog 39 #[v] w (RefP w (errL l) (lowM l)) := by
  have HR : Hid (MlR w v l) := h
  obtain ⟨a, cap, rfl, hc, hm, _, _⟩ := h
  unfold maxLen at hm
  by_cases hn : l.length > 5000
  · rw [show errL l = 1 from if_pos hn]
    have HE : Hid (RefP w 1 (lowM l) (.returned (.tuple #[.slice none 0 0, .int .i64 1])) w) := RefP.no (by decide) (Below.refl _ _)
    generalize RefP w 1 (lowM l) = P at *
    go_enter Tryz.func39, Tryz.ntmps39
    go_wp2_with fail
    exact HE.out
  · have HC : Hid (∀ X, MlR X (.slice a l.length cap) l → Calls Tryz.prog 64 #[.slice a l.length cap] X fun e w' => e = .returned (.bool (srtMb l)) ∧ Below X.heap.size X w') := fun X hX => inOrderM_any _ l X hX
    have hel : errL l = if srtMb l then 0 else 3 := if_neg hn
    rw [hel]
    clear hel
    cases hso : srtMb l with
    | false =>
      rw [hso] at HC
      rw [if_neg (by decide)]
      have HE : Hid (∀ w', Below w.heap.size w w' → RefP w 3 (lowM l) (.returned (.tuple #[.slice none 0 0, .int .i64 3])) w') := fun w' hb => RefP.no (by decide) hb
      generalize RefP w 3 (lowM l) = P at *
      clear hso
      go_enter Tryz.func39, Tryz.ntmps39
      go_wp2_with fail
      refine (HC.out _ HR.out).mono ?_
      rintro e w1 ⟨rfl, hb1⟩
      have HX : Hid (P (.returned (.tuple #[.slice none 0 0, .int .i64 3])) w1) := HE.out _ hb1
      clear hb1
      go_wp2_with fail
      exact HX.out
    | true =>
      rw [hso] at HC
      rw [if_pos rfl]
      have HE : Hid (∀ v' w', w'.ownsRow w.heap.size 62 2 v' (lowM l).length ((lowM l).flatMap encM) → Below w.heap.size w w' → RefP w 0 (lowM l) (.returned (.tuple #[v', .int .i64 0])) w') := fun v' w' h1 h2 => RefP.yes h1 h2
      generalize RefP w 0 (lowM l) = P at *
      clear hso
      go_enter Tryz.func39, Tryz.ntmps39
      go_wp2_with fail
      refine (HC.out _ HR.out).mono ?_
      rintro e w1 ⟨rfl, hb1⟩
      have HB1 : Hid (Below w.heap.size w w1) := hb1
      clear hb1 HC
      go_wp2_with fail
      go_loopw [4, 15] (fun u i wr => ∃ k : Nat, k ≤ l.length ∧ i = .int .i64 k ∧ wr.ownsRow w.heap.size 62 2 u (lowT l k).length ((lowT l k).flatMap encM) ∧ Below w.heap.size w wr) (fun _ i _ => l.length - (intOf i).toNat)
      case atStart => exact ⟨0, by omega, rfl, World.ownsRow_nil _ _ _ _, HB1.out⟩
      case round =>
        obtain ⟨k, hk, rfl, hown, hbel⟩ := hrel
        have OW : Hid (wr.ownsRow w.heap.size 62 2 u4 (lowT l k).length ((lowT l k).flatMap encM)) := hown
        have HB : Hid (Below w.heap.size w wr) := hbel
        have hsr := hbel.size
        have hll := lowT_len l k
        clear hown hbel
        by_cases hlt : k < l.length
        · obtain ⟨b, off, cap', e1, _, _, lt, hv⟩ := MlR.at (HR.out.below HB.out (Nat.le_refl _)) (by omega)
          injection e1 with e1 _ e3
          subst e1 e3
          obtain ⟨x, hx⟩ := getX hlt
          obtain ⟨c1, c2⟩ := hv k x hx
          have p0 : (0 : Int) ≤ (k : Int) := by omega
          have p1 : (k : Int) < (l.length : Int) := by omega
          cases k with
          | zero =>
            have HY : Hid (lowT l 1 = lowT l 0 ++ [x]) := lowT_yes hx (keepB_zero l)
            simp only [Nat.zero_mul, Nat.add_zero] at c1 c2
            have q1 : (((0 : Nat) : Int) == 0) = true := by simp
            clear hv hx
            generalize lowT l 0 = t at *
            go_wp2_with fail
            go_quiet (fail)
            have O2 : Hid (((wr.alloc (.cells #[.int .i64 x.1, .int .i64 x.2] 62)).drewN nq).ownsRow w.heap.size 62 2 u4 t.length (t.flatMap encM)) := ⟨OW.out.1, (OW.out.alloc _).2⟩
            have HB2 : Hid (Below w.heap.size w ((wr.alloc (.cells #[.int .i64 x.1, .int .i64 x.2] 62)).drewN nq)) := below_drewN (HB.out.alloc hsr _) nq
            have hbx : ((wr.alloc (.cells #[.int .i64 x.1, .int .i64 x.2] 62)).drewN nq).heap[wr.heap.size]? = some (.cells #[.int .i64 x.1, .int .i64 x.2] 62 (0, 0)) := heap_alloc_new wr _
            generalize (wr.alloc (.cells #[.int .i64 x.1, .int .i64 x.2] 62)).drewN nq = w2 at *
            have hs2 := HB2.out.size
            have d1 : w2.cell? ⟨wr.heap.size, 0, none⟩ = some (.int .i64 x.1) := by rw [cell_of_row _ _ _ _ _ _ hbx]; rfl
            have d2 : w2.cell? ⟨wr.heap.size, 1, none⟩ = some (.int .i64 x.2) := by rw [cell_of_row _ _ _ _ _ _ hbx]; rfl
            clear c1 c2 hbx
            go_wp2_with (at_builtin; refine wpList_append_newK kM rfl _ _ rfl w.heap.size _ t rfl (O2.out.alloc _) w2.heap.size x rfl #[.int .i64 x.1, .int .i64 x.2] rfl (0, 0) (heap_alloc_new _ _) (by simp [kM]; omega) (by unfold maxLen; omega) (by simp; omega) ?_)
            intro g c w3 hown3 hb3 _
            have O3 : Hid (w3.ownsRow w.heap.size 62 2 (.slice (some ⟨g, 0, none⟩) (t.length + 1) c) (lowT l (0 + 1)).length ((lowT l (0 + 1)).flatMap encM)) := by
              show World.ownsRow _ _ _ _ _ _ _
              rw [HY.out, flat_snoc, List.length_append]; exact hown3
            have HB3 : Hid (Below w.heap.size w w3) := (HB2.out.alloc hs2 _).trans hb3
            clear hown3 hb3
            go_wp2_with fail
            go_roundw
            case rel => exact ⟨0 + 1, by omega, by go_num, O3.out, HB3.out⟩
            case measure => simp [intOf]; omega
          | succ j =>
            obtain ⟨y, hy⟩ := getX (show j < l.length by omega)
            obtain ⟨y1, _⟩ := hv j y hy
            have HKB : Hid (keepB l (j + 1) = decide (x.1 ≠ y.1)) := keepB_succ hx hy
            have HYY : Hid (keepB l (j + 1) = true → lowT l (j + 1 + 1) = lowT l (j + 1) ++ [x]) := fun h => lowT_yes hx h
            have HYN : Hid (keepB l (j + 1) = false → lowT l (j + 1 + 1) = lowT l (j + 1)) := fun h => lowT_no h
            have q1 : (((j + 1 : Nat) : Int) == 0) = false := by simp; omega
            have q2 : ((j : Int) + 1 == 0) = false := by simp; omega
            have q3 : (0 : Int) ≤ (j : Int) := by omega
            have q4 : (j : Int) < (l.length : Int) := by omega
            have q5 : IntKind.i64.wrap ((j : Int) + 1 - 1) = (j : Int) := by rw [Int.add_sub_cancel]; exact wrap_id64 (by omega) (by omega)
            have q6 : (0 : Int) ≤ (j : Int) + 1 := by omega
            have q7 : (j : Int) + 1 < (l.length : Int) := by omega
            clear hv hx hy
            generalize lowT l (j + 1) = t at *
            by_cases hxy : x.1 = y.1
            · have HY : Hid (lowT l (j + 1 + 1) = t) := HYN.out (by rw [HKB.out]; simpa using hxy)
              have r1 : (x.1 != y.1) = false := by simpa using hxy
              clear hxy HYY HYN HKB
              go_wp2_with fail
              go_quiet (fail)
              have O2 : Hid (((wr.alloc (.cells #[.int .i64 x.1, .int .i64 x.2] 62)).drewN nq).ownsRow w.heap.size 62 2 u4 t.length (t.flatMap encM)) := ⟨OW.out.1, (OW.out.alloc _).2⟩
              have HB2 : Hid (Below w.heap.size w ((wr.alloc (.cells #[.int .i64 x.1, .int .i64 x.2] 62)).drewN nq)) := below_drewN (HB.out.alloc hsr _) nq
              have hbx : ((wr.alloc (.cells #[.int .i64 x.1, .int .i64 x.2] 62)).drewN nq).heap[wr.heap.size]? = some (.cells #[.int .i64 x.1, .int .i64 x.2] 62 (0, 0)) := heap_alloc_new wr _
              generalize (wr.alloc (.cells #[.int .i64 x.1, .int .i64 x.2] 62)).drewN nq = w2 at *
              have hs2 := HB2.out.size
              have d1 : w2.cell? ⟨wr.heap.size, 0, none⟩ = some (.int .i64 x.1) := by rw [cell_of_row _ _ _ _ _ _ hbx]; rfl
              have d2 : w2.cell? ⟨wr.heap.size, 1, none⟩ = some (.int .i64 x.2) := by rw [cell_of_row _ _ _ _ _ _ hbx]; rfl
              clear c1 c2 hbx
              go_wp2_with fail
              go_roundw
              case rel => exact ⟨j + 1 + 1, by omega, by go_num, by rw [HY.out]; exact O2.out, HB2.out⟩
              case measure => simp [intOf]; omega
            · have HY : Hid (lowT l (j + 1 + 1) = t ++ [x]) := HYY.out (by rw [HKB.out]; simpa using hxy)
              have r1 : (x.1 != y.1) = true := by simpa using hxy
              clear hxy HYY HYN HKB
              go_wp2_with fail
              go_quiet (fail)
              have O2 : Hid (((wr.alloc (.cells #[.int .i64 x.1, .int .i64 x.2] 62)).drewN nq).ownsRow w.heap.size 62 2 u4 t.length (t.flatMap encM)) := ⟨OW.out.1, (OW.out.alloc _).2⟩
              have HB2 : Hid (Below w.heap.size w ((wr.alloc (.cells #[.int .i64 x.1, .int .i64 x.2] 62)).drewN nq)) := below_drewN (HB.out.alloc hsr _) nq
              have hbx : ((wr.alloc (.cells #[.int .i64 x.1, .int .i64 x.2] 62)).drewN nq).heap[wr.heap.size]? = some (.cells #[.int .i64 x.1, .int .i64 x.2] 62 (0, 0)) := heap_alloc_new wr _
              generalize (wr.alloc (.cells #[.int .i64 x.1, .int .i64 x.2] 62)).drewN nq = w2 at *
              have hs2 := HB2.out.size
              have d1 : w2.cell? ⟨wr.heap.size, 0, none⟩ = some (.int .i64 x.1) := by rw [cell_of_row _ _ _ _ _ _ hbx]; rfl
              have d2 : w2.cell? ⟨wr.heap.size, 1, none⟩ = some (.int .i64 x.2) := by rw [cell_of_row _ _ _ _ _ _ hbx]; rfl
              clear c1 c2 hbx
              go_wp2_with (at_builtin; refine wpList_append_newK kM rfl _ _ rfl w.heap.size _ t rfl (O2.out.alloc _) w2.heap.size x rfl #[.int .i64 x.1, .int .i64 x.2] rfl (0, 0) (heap_alloc_new _ _) (by simp [kM]; omega) (by unfold maxLen; omega) (by simp; omega) ?_)
              intro g c w3 hown3 hb3 _
              have O3 : Hid (w3.ownsRow w.heap.size 62 2 (.slice (some ⟨g, 0, none⟩) (t.length + 1) c) (lowT l ((j + 1) + 1)).length ((lowT l ((j + 1) + 1)).flatMap encM)) := by
                show World.ownsRow _ _ _ _ _ _ _
                rw [HY.out, flat_snoc, List.length_append]; exact hown3
              have HB3 : Hid (Below w.heap.size w w3) := (HB2.out.alloc hs2 _).trans hb3
              clear hown3 hb3
              go_wp2_with fail
              go_roundw
              case rel => exact ⟨(j + 1) + 1, by omega, by go_num, O3.out, HB3.out⟩
              case measure => simp [intOf]; omega
        · have ek : lowT l k = lowM l := by have : k = l.length := by omega
                                            rw [this]; rfl
          have HX : Hid (P (.returned (.tuple #[u4, .int .i64 0])) wr) := HE.out _ _ (by rw [← ek]; exact OW.out) HB.out
          obtain ⟨va, vn, vc, rfl⟩ : ∃ a n c, u4 = .slice a n c := by obtain ⟨a, c, e, _⟩ := MlR.ownd OW.out; exact ⟨_, _, _, e⟩
          clear ek hll
          go_wp2_with fail
          exact HX.out
end Go.Proofs.YtkgdenbabafeoaaGreatDoor
