/-
  Contract of sheet.Show: the text that P5.1 says, or the error that P4.1 names.
-/
import Derived.Test.YtcfcpibamjgodaaDoorWriteWalk
import Derived.Test.YtcfcpibamjgodaaDoorCheckFace
namespace Go.Proofs.YtcfcpibamjgodaaDoor
set_option maxRecDepth 100000
open Go.ChangeShapes Go.WideShapes Go.ChangeAt Go.RowKit

theorem edge_in {n : Int} {es : List Ed} (hn1 : n ≤ 200) (h : ∀ e ∈ es, outE n e = false) : ∀ e ∈ es, i64B e.1 ∧ i64B e.2.1 ∧ i64B e.2.2 := by
  intro e he
  have := in_of_out (h e he)
  unfold i64B
  omega
theorem edges_take_len {n : Int} {es : List Ed} (hn1 : n ≤ 200) (hle : es.length ≤ 600) (h : ∀ e ∈ es, outE n e = false) (k : Nat) : (edgesL (es.take k)).length ≤ 40200 := by
  have h1 := edges_len (es.take k) fun e he => edge_in hn1 h e (List.mem_of_mem_take he)
  have h2 : (es.take k).length ≤ 600 := by simp; omega
  omega
theorem one_len {n : Int} (h0 : 0 ≤ n) (h1 : n ≤ 200) : (lineL [n]).length ≤ 23 := by
  have := line_len [n] (by intro x hx; simp at hx; subst hx; unfold i64B; omega)
  simpa using this

set_option maxHeartbeats 2000000 in
theorem show_any (v : Value) (es : List Ed) (n : Int) (w : World) (h : EdR w v es) (hT : Tab10 w.heap.size w) :
    Calls Tryd.prog 8 #[.agg #[.int .i64 n, v]] w fun e w' => e = .returned (.tuple #[.string ⟨(okS (faultE n es) (showL n es)).toArray⟩, .int .i64 (faultE n es)]) ∧ Below w.heap.size w w' := by
  have HR : Hid (EdR w v es) := h
  have HT : Hid (Tab10 w.heap.size w) := hT
  obtain ⟨a, cap, rfl⟩ := h.shape
  clear h hT
  have HCK : Hid (∀ X, EdR X (.slice a es.length cap) es → Calls Tryd.prog 13 #[.agg #[.int .i64 n, .slice a es.length cap]] X fun e w' => e = .returned (.int .i64 (faultE n es)) ∧ Below X.heap.size X w') := fun X hX => check_any _ es n X hX
  by_cases hf : faultE n es = 0
  · obtain ⟨hn0, hn1, hle, hin⟩ := fault_ok hf
    have HIN : Hid (∀ e ∈ es, outE n e = false) := hin
    have HS : Hid (showL n es = lineL [n] ++ edgesL es) := (rfl : showL n es = _)
    rw [hf] at HCK ⊢
    rw [okS_yes]
    generalize showL n es = sh at HS ⊢
    clear hf hin
    go_enter Tryd.func8, Tryd.ntmps8
    go_wp2_with fail
    refine (HCK.out _ ?_).mono ?_
    · exact HR.out.below (below_alloc w _) (Nat.le_refl _)
    rintro e w1 ⟨rfl, hb1⟩
    have B1 : Hid (Below (w.heap.size + 1) (w.alloc (.cells #[.int .i64 n, .slice a es.length cap] 24)) w1) := by
      show Below _ _ _
      simpa using hb1
    have hs1 : w.heap.size + 1 ≤ w1.heap.size := by have := B1.out.size; simpa using this
    obtain ⟨k0, k1⟩ := gbox_cells B1.out
    have m0 : ∀ X, (w1.alloc X).cell? ⟨w.heap.size, 0, none⟩ = some (.int .i64 n) := fun X => ((below_alloc w1 X).cell (p := ⟨w.heap.size, 0, none⟩) (show w.heap.size < w1.heap.size by omega)).trans k0
    have HT1 : Hid (Tab10 w1.heap.size w1) := (HT.out.on (box_below B1.out)).up (by omega)
    clear hb1 HCK
    go_wp2_with fail
    refine (write_walk w1.heap.size w1.heap.size (w1.heap.size + 1) [] [n] _ ((Lib.IsBuilderF.of (Lib.fresh_isBuilder 38 5 w1)).alloc _) ?_ (by omega) ?_ (by simp) (by simp) ?_ (by simp; omega)).mono ?_
    · exact heap_second _ _ _ _
    · intro x hx; simp at hx; subst hx; unfold i64B; omega
    · exact HT1.out.on (((Below.refl _ _).alloc (Nat.le_refl _) _).alloc (by simp) _)
    rintro e w2 ⟨rfl, hI2, hb2, ho2⟩
    have HI2 : Hid (Lib.IsBuilderF 38 5 w1.heap.size w1.heap.size (Lib.byteCells (lineL [n])) w2) := by
      show Lib.IsBuilderF _ _ _ _ _ _
      simpa using hI2
    have HB2 : Hid (Below w1.heap.size w1 w2) := (((Below.refl _ _).alloc (Nat.le_refl _) _).alloc (by simp) _).trans hb2
    have m1 : w2.cell? ⟨w.heap.size, 1, none⟩ = some (.slice a es.length cap) := (HB2.out.cell (p := ⟨w.heap.size, 1, none⟩) (show w.heap.size < w1.heap.size by omega)).trans k1
    have HLn : Hid ((lineL [n]).length ≤ 23) := one_len hn0 hn1
    generalize lineL [n] = L0 at HS HI2 HLn
    have HLE : Hid (∀ k, (edgesL (es.take k)).length ≤ 40200) := fun k => edges_take_len hn1 hle HIN.out k
    clear hI2 hb2 ho2 k0 k1 m0
    go_wp2_with fail
    go_loopw [23] (fun i wr => ∃ k : Nat, k ≤ es.length ∧ i = .int .i64 k ∧ Lib.IsBuilderF 38 5 w1.heap.size w1.heap.size (Lib.byteCells (L0 ++ edgesL (es.take k))) wr ∧ Below w1.heap.size w1 wr) (fun i _ => es.length - (intOf i).toNat)
    case atStart => exact ⟨0, by omega, rfl, by simpa [edgesL] using HI2.out, HB2.out⟩
    case round =>
      obtain ⟨k, hk, rfl, hb, hbel⟩ := hrel
      have HIr : Hid (Lib.IsBuilderF 38 5 w1.heap.size w1.heap.size (Lib.byteCells (L0 ++ edgesL (es.take k))) wr) := hb
      have HB : Hid (Below w1.heap.size w1 wr) := hbel
      have hsr : w1.heap.size ≤ wr.heap.size := hbel.size
      have hlt1 : w1.heap.size < wr.heap.size := by
        rcases hb with h | h <;> exact h.lt
      have HL : Hid (EdR wr (.slice a es.length cap) es) := (HR.out.below (box_below B1.out) (Nat.le_refl _)).below HB.out (Nat.le_refl _)
      obtain ⟨qa, qc, e, _, hcap, _⟩ := HL.out
      injection e with e1 _ e3
      subst e1 e3
      unfold maxLen at hcap
      clear hb hbel m1
      by_cases hlt : k < es.length
      · obtain ⟨b, off, cap', e1, _, _, lt, hv⟩ := EdR.at HL.out (by omega)
        injection e1 with e1 _ e3
        subst e1 e3
        obtain ⟨x, hx⟩ := getE hlt
        obtain ⟨c1, c2, c3⟩ := hv k x hx
        have HXI : Hid (i64B x.1 ∧ i64B x.2.1 ∧ i64B x.2.2) := edge_in hn1 HIN.out x (List.mem_of_getElem? hx)
        have HN : Hid (edgesL (es.take (k + 1)) = edgesL (es.take k) ++ lineL [x.1, x.2.1, x.2.2]) := by
          show _ = _
          rw [take_snoc hx, edges_snoc]
        have HK : Hid ((edgesL (es.take k)).length ≤ 40200) := HLE.out k
        generalize edgesL (es.take k) = E0 at HN HIr HK
        clear hv hx
        obtain ⟨xf, xt, xc⟩ := x
        simp only at c1 c2 c3
        go_wp2_with fail
        refine (write_walk w1.heap.size w1.heap.size (wr.heap.size + 1) (L0 ++ E0) [xf, xt, xc] _ ((HIr.out.alloc _).alloc _) ?_ (by omega) ?_ (by simp) ?_ ?_ (by simp; omega)).mono ?_
        · exact heap_second _ _ _ _
        · intro y hy
          have := HXI.out
          simp at hy
          rcases hy with rfl | rfl | rfl <;> simp [this]
        · have := HLn.out; have := HK.out; simp only [List.length_append]; omega
        · exact (HT1.out.on HB.out).on (((Below.refl _ _).alloc (by omega) _).alloc (by simp; omega) _)
        rintro e w3 ⟨rfl, hI3, hb3, ho3⟩
        have H3 : Hid (Lib.IsBuilderF 38 5 w1.heap.size w1.heap.size (Lib.byteCells (L0 ++ edgesL (es.take (k + 1)))) w3 ∧ Below w1.heap.size w1 w3) := by
          refine ⟨?_, HB.out.trans ((((Below.refl _ _).alloc (by omega) _).alloc (by simp; omega) _).trans hb3)⟩
          rw [HN.out, ← List.append_assoc]
          exact hI3
        clear hI3 hb3 ho3 c1 c2 c3
        go_wp2_with fail
        go_roundw
        case rel => exact ⟨k + 1, by omega, by go_num, H3.out⟩
        case measure => simp [intOf]; omega
      · have ek : es.take k = es := List.take_of_length_le (by omega)
        have H2 : Hid (Lib.IsBuilderF 38 5 w1.heap.size w1.heap.size (Lib.byteCells sh) wr) := by
          have := HIr.out
          rw [ek] at this
          show Lib.IsBuilderF _ _ _ _ _ _
          rw [HS.out]
          exact this
        clear ek HIr
        go_wp2_with fail
        refine (Tryd.Builder_String_any_k w1.heap.size w1.heap.size sh _ H2.out (by omega)).mono ?_
        rintro e w3 ⟨rfl, _, hb3, _⟩
        have B3 : Hid (Below w.heap.size w w3) := (box_below B1.out).trans ((below_low HB.out (by omega)).trans (below_low hb3 (by omega)))
        clear hb3
        go_wp2_with fail
        go_ret2
        exact ⟨rfl, B3.out⟩
  · have hne : (faultE n es != 0) = true := by simpa using hf
    rw [okS_no hf]
    generalize faultE n es = fe at *
    clear hf
    go_enter Tryd.func8, Tryd.ntmps8
    go_wp2_with fail
    refine (HCK.out _ ?_).mono ?_
    · exact HR.out.below (below_alloc w _) (Nat.le_refl _)
    rintro e w1 ⟨rfl, hb1⟩
    have B1 : Hid (Below (w.heap.size + 1) (w.alloc (.cells #[.int .i64 n, .slice a es.length cap] 24)) w1) := by
      show Below _ _ _
      simpa using hb1
    clear hb1 HCK
    go_wp2_with fail
    go_ret2
    exact ⟨rfl, box_below B1.out⟩
end Go.Proofs.YtcfcpibamjgodaaDoor
