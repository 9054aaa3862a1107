/-
  Contract of graph.Hops.
-/
import Derived.Test.YtpoablcdfiimhabHopsLib
namespace Go.Proofs.Ytpoablcdfiimhab
open Go.ChangeShapes Go.WideShapes Go.ChangeAt Go.RowKit

set_option maxHeartbeats 2000000 in
set_option maxRecDepth 100000 in
theorem hops_any (v : Value) (es : List Ed) (n z : Int) (w : World) (h : EdR w v es) :
    Calls Try.prog 8 #[.agg #[.int .i64 n, v], .int .i64 z] w fun e w' => ∃ v', e = .returned (.tuple #[v', .int .i64 (errH n es z)]) ∧
      w'.ownsRow w.heap.size 38 2 v' (okL (errH n es z) (hopsL (sortE es) z)).length ((okL (errH n es z) (hopsL (sortE es) z)).flatMap encH) ∧ Below w.heap.size w w' := by
  have HR : Hid (EdR w v es) := h
  obtain ⟨a, cap, rfl⟩ := h.shape
  clear h
  have HCK : Hid (∀ X, EdR X (.slice a es.length cap) es → Calls Try.prog 9 #[.agg #[.int .i64 n, .slice a es.length cap]] X fun e w' => ∃ v', e = .returned (.tuple #[.agg #[.int .i64 (okN (faultE n es) n), v'], .int .i64 (faultE n es)]) ∧
      w'.ownsRow X.heap.size 40 3 v' (okL (faultE n es) (sortE es)).length ((okL (faultE n es) (sortE es)).flatMap encE) ∧ Below X.heap.size X w') := fun X hX => sorted_any _ es n X hX
  by_cases hf : faultE n es = 0
  · have hle : es.length ≤ 600 := (fault_ok hf).2.2.1
    have HE0 : Hid (insB n z = false → errH n es z = 2) := fun hi => errH_out hf hi
    have HE1 : Hid (insB n z = true → errH n es z = 0) := fun hi => errH_ok hf hi
    rw [hf, okN_yes, okL_yes] at HCK
    clear hf
    cases hi : insB n z
    · rw [HE0.out hi, okL_no (by decide)]
      clear HE0 HE1
      go_enter Try.func8, Try.ntmps8
      go_wp2_with fail
      refine (HCK.out _ ?_).mono ?_
      · exact HR.out.below (below_alloc w _) (Nat.le_refl _)
      rintro e w1 ⟨sv, rfl, hown, hb1⟩
      have B1 : Hid (Below (w.heap.size + 1) (w.alloc (.cells #[.int .i64 n, .slice a es.length cap] 25)) w1) := by
        show Below _ _ _
        simpa using hb1
      obtain ⟨sa, sn, sc, rfl⟩ : ∃ a n c, sv = .slice a n c := by obtain ⟨a, c, e, _⟩ := RowK.own encE_len hown; exact ⟨_, _, _, e⟩
      have hs1 : w.heap.size + 1 ≤ w1.heap.size := by have := B1.out.size; simpa using this
      obtain ⟨k0, k1⟩ := gbox_cells B1.out
      have m0 : ∀ X, (w1.alloc X).cell? ⟨w.heap.size, 0, none⟩ = some (.int .i64 n) := fun X => ((below_alloc w1 X).cell (p := ⟨w.heap.size, 0, none⟩) (show w.heap.size < w1.heap.size by omega)).trans k0
      clear hb1 hown HCK
      go_wp2_with fail
      refine (insideOf_any n _).mono ?_
      rintro e w2 ⟨rfl, rfl⟩
      unfold insF
      go_wp2_with fail
      refine (inside_any n z _ _ ?_).mono ?_
      · exact cell_second _ _ _ _
      rw [hi]
      rintro e w3 ⟨rfl, rfl⟩
      go_wp2_with fail
      go_ret2
      exact ⟨_, rfl, World.ownsRow_nil _ _ _ _, ((box_below B1.out).alloc (by omega) _).alloc (by simp; omega) _⟩
    · rw [HE1.out hi, okL_yes]
      clear HE0 HE1
      have hsl : (sortE es).length ≤ 600 := by rw [sortE_len]; exact hle
      generalize sortE es = s at *
      go_enter Try.func8, Try.ntmps8
      go_wp2_with fail
      refine (HCK.out _ ?_).mono ?_
      · exact HR.out.below (below_alloc w _) (Nat.le_refl _)
      rintro e w1 ⟨sv, rfl, hown, hb1⟩
      have B1 : Hid (Below (w.heap.size + 1) (w.alloc (.cells #[.int .i64 n, .slice a es.length cap] 25)) w1) := by
        show Below _ _ _
        simpa using hb1
      have SR : Hid (EdR w1 sv s) := RowK.own encE_len hown
      have hs1 : w.heap.size + 1 ≤ w1.heap.size := by have := B1.out.size; simpa using this
      obtain ⟨k0, k1⟩ := gbox_cells B1.out
      obtain ⟨sa, sc, rfl⟩ := SR.out.shape
      have m0 : ∀ X, (w1.alloc X).cell? ⟨w.heap.size, 0, none⟩ = some (.int .i64 n) := fun X => ((below_alloc w1 X).cell (p := ⟨w.heap.size, 0, none⟩) (show w.heap.size < w1.heap.size by omega)).trans k0
      clear hb1 hown HCK
      go_wp2_with fail
      refine (insideOf_any n _).mono ?_
      rintro e w2 ⟨rfl, rfl⟩
      unfold insF
      go_wp2_with fail
      refine (inside_any n z _ _ ?_).mono ?_
      · exact cell_second _ _ _ _
      rw [hi]
      rintro e w3 ⟨rfl, rfl⟩
      have SB : ∀ X Y, ((w1.alloc (.cells #[.int .i64 n, .slice sa s.length sc] X)).alloc Y).cell? ⟨w1.heap.size, 1, none⟩ = some (.slice sa s.length sc) := fun X Y => ((below_alloc _ Y).cell (p := ⟨w1.heap.size, 1, none⟩) (by simp)).trans (by simp)
      have W3 : Hid (EdR ((w1.alloc (.cells #[.int .i64 n, .slice sa s.length sc] 25)).alloc (.cells #[.int .i64 n] 3)) (.slice sa s.length sc) s ∧ Below w.heap.size w ((w1.alloc (.cells #[.int .i64 n, .slice sa s.length sc] 25)).alloc (.cells #[.int .i64 n] 3))) := ⟨(SR.out.below (below_alloc _ _) (Nat.le_refl _)).below (below_alloc _ _) (Nat.le_refl _), ((box_below B1.out).alloc (by omega) _).alloc (by simp; omega) _⟩
      go_wp2_with fail
      clear SB m0 k0 k1
      generalize (w1.alloc (.cells #[.int .i64 n, .slice sa s.length sc] 25)).alloc (.cells #[.int .i64 n] 3) = wl at *
      have HL : Hid (EdR wl (.slice sa s.length sc) s) := W3.out.1
      have BL : Hid (Below w.heap.size w wl) := W3.out.2
      have hwl := BL.out.size
      have hcap : sc ≤ maxLen := by obtain ⟨_, _, e, _, h, _⟩ := HL.out; injection e with _ _ e3; rw [e3]; exact h
      unfold maxLen at hcap
      clear W3 SR
      go_loopw [9, 30] (fun u i wr => ∃ k : Nat, k ≤ s.length ∧ i = .int .i64 k ∧ wr.ownsRow wl.heap.size 38 2 u (hopsL (s.take k) z).length ((hopsL (s.take k) z).flatMap encH) ∧ Below wl.heap.size wl wr) (fun _ i _ => s.length - (intOf i).toNat)
      case atStart => exact ⟨0, by omega, rfl, World.ownsRow_nil _ _ _ _, Below.refl _ _⟩
      case round =>
        obtain ⟨k, hk, rfl, hown, hbel⟩ := hrel
        have OW : Hid (wr.ownsRow wl.heap.size 38 2 u9 (hopsL (s.take k) z).length ((hopsL (s.take k) z).flatMap encH)) := hown
        have HB : Hid (Below wl.heap.size wl wr) := hbel
        have hsr := hbel.size
        clear hown hbel
        by_cases hlt : k < s.length
        · obtain ⟨b, off, cap', e1, _, _, lt, hv⟩ := EdR.at (HL.out.below HB.out (Nat.le_refl _)) (by omega)
          injection e1 with e1 _ e3
          subst e1 e3
          obtain ⟨x, hx⟩ := getE hlt
          obtain ⟨c1, c2, c3⟩ := hv k x hx
          have hlen : (hopsL (s.take k) z).length ≤ 600 := by have := hops_len (s.take k) z; simp at this; omega
          have hx1 := fun i => cell_of_row (wr.alloc (.cells #[.int .i64 x.1, .int .i64 x.2.1, .int .i64 x.2.2] 40)) wr.heap.size i _ _ _ (heap_alloc_new wr _)
          cases hxz : (x.1 == z)
          · have HN : Hid (hopsL (s.take (k + 1)) z = hopsL (s.take k) z) := hops_no hx hxz
            clear hv hx hx1
            go_wp2_with fail
            go_roundw
            case rel => exact ⟨k + 1, by omega, by go_num, by rw [HN.out]; exact OW.out.alloc _, HB.out.alloc hsr _⟩
            case measure => simp [intOf]; omega
          · have HN : Hid (hopsL (s.take (k + 1)) z = hopsL (s.take k) z ++ [(x.2.1, x.2.2)]) := hops_yes hx hxz
            clear hv hx hx1
            generalize hopsL (s.take k) z = f at *
            go_wp2_with (at_builtin; refine wpList_append_newK kH rfl _ _ rfl wl.heap.size _ f rfl ((OW.out.alloc _).alloc _) (wr.heap.size + 1) (x.2.1, x.2.2) rfl #[.int .i64 x.2.1, .int .i64 x.2.2] rfl (0, 0) (heap_second _ _ _ _) (by simp [kH]; omega) (by unfold maxLen; omega) (by simp; omega) ?_)
            intro g c w3 hown3 hb3 _
            have O3 : Hid (w3.ownsRow wl.heap.size 38 2 (.slice (some ⟨g, 0, none⟩) (f.length + 1) c) (hopsL (s.take (k + 1)) z).length ((hopsL (s.take (k + 1)) z).flatMap encH)) := by
              show World.ownsRow _ _ _ _ _ _ _
              rw [HN.out, flat_snoc, List.length_append]; exact hown3
            have B3 : Hid (Below wl.heap.size wl w3) := ((HB.out.alloc hsr _).alloc (by simp; omega) _).trans hb3
            clear hown3 hb3
            go_wp2_with fail
            go_roundw
            case rel => exact ⟨k + 1, by omega, by go_num, O3.out, B3.out⟩
            case measure => simp [intOf]; omega
        · have ek : s.take k = s := List.take_of_length_le (by omega)
          have O2 : Hid (wr.ownsRow wl.heap.size 38 2 u9 (hopsL s z).length ((hopsL s z).flatMap encH)) := by have := OW.out; rwa [ek] at this
          clear ek OW
          go_wp2_with fail
          go_ret2
          exact ⟨_, rfl, own_lower O2.out hwl, BL.out.trans (HB.out.mono hwl)⟩
  · have hne : (faultE n es != 0) = true := by simpa using hf
    rw [errH_fault hf, okL_no hf]
    rw [okN_no hf, okL_no hf] at HCK
    generalize faultE n es = fe at *
    clear hf
    go_enter Try.func8, Try.ntmps8
    go_wp2_with fail
    refine (HCK.out _ ?_).mono ?_
    · exact HR.out.below (below_alloc w _) (Nat.le_refl _)
    rintro e w1 ⟨sv, rfl, hown, hb1⟩
    have B1 : Hid (Below (w.heap.size + 1) (w.alloc (.cells #[.int .i64 n, .slice a es.length cap] 25)) w1) := by
      show Below _ _ _
      simpa using hb1
    obtain ⟨sa, sn, sc, rfl⟩ : ∃ a n c, sv = .slice a n c := by obtain ⟨a, c, e, _⟩ := RowK.own encE_len hown; exact ⟨_, _, _, e⟩
    have hs1 : w.heap.size + 1 ≤ w1.heap.size := by have := B1.out.size; simpa using this
    clear hb1 hown HCK
    go_wp2_with fail
    go_ret2
    exact ⟨_, rfl, World.ownsRow_nil _ _ _ _, (box_below B1.out).alloc (by omega) _⟩
end Go.Proofs.Ytpoablcdfiimhab
