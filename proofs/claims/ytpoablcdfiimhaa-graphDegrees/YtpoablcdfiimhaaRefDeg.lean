/-
  Contract of the document's own DegreesOf.
-/
import Derived.Test.YtpoablcdfiimhaaDegLib
import Derived.Test.YtpoablcdfiimhaaFaultWalk
namespace Go.Proofs.Ytpoablcdfiimhaa
open Go.ChangeShapes Go.WideShapes Go.ChangeAt Go.RowKit

theorem degL_next (k : Nat) (es : List Ed) : degL (k + 1) es = degL k es ++ [degE es k] := by simp [degL, List.range_succ]

set_option maxHeartbeats 2000000 in
set_option maxRecDepth 100000 in
theorem degreesOf_any (v : Value) (es : List Ed) (n : Int) (w : World) (h : EdR w v es) :
    Calls Try.prog 21 #[.agg #[.int .i64 n, v]] w fun e w' => ∃ v', e = .returned (.tuple #[v', .int .i64 (faultE n es)]) ∧
      w'.ownsRow w.heap.size 3 1 v' (okL (faultE n es) (degL n.toNat es)).length ((okL (faultE n es) (degL n.toNat es)).flatMap encI) ∧ Below w.heap.size w w' := by
  have HR : Hid (EdR w v es) := h
  obtain ⟨a, cap, rfl⟩ := h.shape
  clear h
  have HCK : Hid (∀ X, EdR X (.slice a es.length cap) es → Calls Try.prog 11 #[.agg #[.int .i64 n, .slice a es.length cap]] X fun e w' => e = .returned (.int .i64 (faultE n es)) ∧ Below X.heap.size X w') := fun X hX => fault_walk _ es n X hX
  by_cases hf : faultE n es = 0
  · obtain ⟨hn0, hn1, hle, _⟩ := fault_ok hf
    rw [hf] at HCK ⊢
    rw [okL_yes]
    obtain ⟨m, rfl⟩ : ∃ m : Nat, n = m := ⟨n.toNat, by omega⟩
    rw [Int.toNat_natCast]
    clear hf hn0
    go_enter Try.func21, Try.ntmps21
    go_wp2_with fail
    refine (HCK.out _ ?_).mono ?_
    · exact HR.out.below (below_alloc w _) (Nat.le_refl _)
    rintro e w1 ⟨rfl, hb1⟩
    have B1 : Hid (Below (w.heap.size + 1) (w.alloc (.cells #[.int .i64 m, .slice a es.length cap] 24)) w1) := by
      show Below _ _ _
      simpa using hb1
    clear hb1 HCK
    go_wp2_with fail
    go_loopw [5, 6] (fun u i wr => ∃ k : Nat, k ≤ m ∧ i = .int .i64 k ∧ wr.ownsRow (w.heap.size + 1) 3 1 u (degL k es).length ((degL k es).flatMap encI) ∧ Below (w.heap.size + 1) (w.alloc (.cells #[.int .i64 m, .slice a es.length cap] 24)) wr) (fun _ i _ => m - (intOf i).toNat)
    case atStart => exact ⟨0, by omega, rfl, World.ownsRow_nil _ _ _ _, B1.out⟩
    case round =>
      obtain ⟨k, hk, rfl, hown, hbel⟩ := hrel
      have OW : Hid (wr.ownsRow (w.heap.size + 1) 3 1 u5 (degL k es).length ((degL k es).flatMap encI)) := hown
      have HB : Hid (Below (w.heap.size + 1) (w.alloc (.cells #[.int .i64 m, .slice a es.length cap] 24)) wr) := hbel
      obtain ⟨k0, k1⟩ := gbox_cells hbel
      have hsr : w.heap.size + 1 ≤ wr.heap.size := by have := hbel.size; simpa using this
      have HL : Hid (EdR wr (.slice a es.length cap) es) := HR.out.below (box_below hbel) (Nat.le_refl _)
      obtain ⟨qa, qc, e, _, hcap, _⟩ := HL.out
      injection e with e1 _ e3
      subst e1 e3
      unfold maxLen at hcap
      have HW : Hid (∃ x, x = wr) := ⟨wr, rfl⟩
      clear hown hbel B1
      by_cases hlt : k < m
      · go_wp2_with fail
        go_loopw [7, 8] (fun c i wq => ∃ j : Nat, j ≤ es.length ∧ i = .int .i64 j ∧ c = .int .i64 (degE (es.take j) k) ∧ wq = wr) (fun _ i _ => es.length - (intOf i).toNat)
        case atStart => exact ⟨0, by omega, rfl, rfl, rfl⟩
        case round =>
          obtain ⟨j, hj, rfl, rfl, rfl⟩ := hrel
          by_cases hlt2 : j < es.length
          · obtain ⟨b, off, cap', e1, _, _, lt, hv⟩ := EdR.at HL.out (by omega)
            injection e1 with e1 _ e3
            subst e1 e3
            obtain ⟨x, hx⟩ := getE hlt2
            obtain ⟨c1, c2, c3⟩ := hv j x hx
            have hd := degE_le (es.take j) k
            have hd2 : (es.take j).length ≤ 600 := by simp; omega
            have hwr : IntKind.i64.wrap (degE (es.take j) k + 1) = degE (es.take j) k + 1 := wrap_id64 (by omega) (by omega)
            have HS : Hid (degE (es.take (j + 1)) k = degE (es.take j) k + (if x.1 == (k : Int) then 1 else 0)) := by
              show _ = _
              rw [take_snoc hx]; exact degE_snoc _ _ _
            clear hv hx hd hd2
            generalize degE (es.take j) k = d at *
            cases hxz : (x.1 == (k : Int))
            · have HS2 : Hid (degE (es.take (j + 1)) k = d) := by show _ = _; rw [HS.out, hxz]; simp
              go_wp2_with fail
              go_roundw
              case rel => exact ⟨j + 1, by omega, by go_num, by rw [HS2.out], trivial⟩
              case measure => simp [intOf]; omega
            · have HS2 : Hid (degE (es.take (j + 1)) k = d + 1) := by show _ = _; rw [HS.out, hxz]; simp
              go_wp2_with fail
              go_roundw
              case rel => exact ⟨j + 1, by omega, by go_num, by rw [HS2.out], trivial⟩
              case measure => simp [intOf]; omega
          · have ek : es.take j = es := List.take_of_length_le (by omega)
            rw [ek]
            have HN := degL_next k es
            have HN2 : Hid (degL (k + 1) es = degL k es ++ [degE es k]) := HN
            have hlen : (degL k es).length ≤ 200 := by rw [degL_len]; omega
            clear HN ek
            generalize degE es k = d at *
            generalize degL k es = f at *
            go_wp2_with (at_builtin; refine wpList_append_newK kI rfl _ _ rfl (w.heap.size + 1) _ f rfl (OW.out.alloc _) _ d rfl #[.int .i64 d] rfl (0, 0) (heap_alloc_new _ _) (by simp [kI]; omega) (by unfold maxLen; omega) (by simp; omega) ?_)
            intro g c w3 hown3 hb3 _
            have O3 : Hid (w3.ownsRow (w.heap.size + 1) 3 1 (.slice (some ⟨g, 0, none⟩) (f.length + 1) c) (degL (k + 1) es).length ((degL (k + 1) es).flatMap encI)) := by
              show World.ownsRow _ _ _ _ _ _ _
              rw [HN2.out, flat_snoc, List.length_append]; exact hown3
            have B3 : Hid (Below (w.heap.size + 1) (w.alloc (.cells #[.int .i64 m, .slice a es.length cap] 24)) w3) := (HB.out.alloc hsr _).trans hb3
            clear hown3 hb3
            go_wp2_with fail
            go_roundw
            case rel => exact ⟨k + 1, by omega, by go_num, O3.out, B3.out⟩
            case measure => simp [intOf]; omega
      · obtain rfl : k = m := by omega
        clear k1
        go_wp2_with fail
        go_ret2
        exact ⟨_, rfl, own_lower OW.out (by omega), box_below HB.out⟩
  · have hne : (faultE n es != 0) = true := by simpa using hf
    rw [okL_no hf]
    generalize faultE n es = fe at *
    clear hf
    go_enter Try.func21, Try.ntmps21
    go_wp2_with fail
    refine (HCK.out _ ?_).mono ?_
    · exact HR.out.below (below_alloc w _) (Nat.le_refl _)
    rintro e w1 ⟨rfl, hb1⟩
    have B1 : Hid (Below (w.heap.size + 1) (w.alloc (.cells #[.int .i64 n, .slice a es.length cap] 24)) w1) := by
      show Below _ _ _
      simpa using hb1
    clear hb1 HCK
    go_wp2_with fail
    go_ret2
    exact ⟨_, rfl, World.ownsRow_nil _ _ _ _, box_below B1.out⟩
end Go.Proofs.Ytpoablcdfiimhaa
