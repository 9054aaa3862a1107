/-
  Contract of graph.Degrees.
-/
import Derived.Test.YtpoablcdfiimhabDegLib
namespace Go.Proofs.Ytpoablcdfiimhab
open Go.ChangeShapes Go.WideShapes Go.ChangeAt Go.RowKit

set_option maxHeartbeats 2000000 in
set_option maxRecDepth 100000 in
theorem degrees_any (v : Value) (es : List Ed) (n : Int) (w : World) (h : EdR w v es) :
    Calls Try.prog 7 #[.agg #[.int .i64 n, v]] w fun e w' => ∃ v', e = .returned (.tuple #[v', .int .i64 (faultE n es)]) ∧
      w'.ownsRow w.heap.size 3 1 v' (okL (faultE n es) (degL n.toNat es)).length ((okL (faultE n es) (degL n.toNat es)).flatMap encI) ∧ Below w.heap.size w w' := by
  have HR : Hid (EdR w v es) := h
  obtain ⟨a, cap, rfl⟩ := h.shape
  clear h
  have HCK : Hid (∀ X, EdR X (.slice a es.length cap) es → Calls Try.prog 14 #[.agg #[.int .i64 n, .slice a es.length cap]] X fun e w' => e = .returned (.int .i64 (faultE n es)) ∧ Below X.heap.size X w') := fun X hX => check_any _ es n X hX
  by_cases hf : faultE n es = 0
  · obtain ⟨hn0, hn1, hle, hin⟩ := fault_ok hf
    have HIN : Hid (∀ e ∈ es, outE n e = false) := hin
    rw [hf] at HCK ⊢
    rw [okL_yes]
    obtain ⟨m, rfl⟩ : ∃ m : Nat, n = m := ⟨n.toNat, by omega⟩
    rw [Int.toNat_natCast]
    clear hf hin hn0
    go_enter Try.func7, Try.ntmps7
    go_wp2_with fail
    refine (HCK.out _ ?_).mono ?_
    · exact HR.out.below (below_alloc w _) (Nat.le_refl _)
    rintro e w1 ⟨rfl, hb1⟩
    have B1 : Hid (Below (w.heap.size + 1) (w.alloc (.cells #[.int .i64 m, .slice a es.length cap] 25)) w1) := by
      show Below _ _ _
      simpa using hb1
    have hs1 : w.heap.size + 1 ≤ w1.heap.size := by have := B1.out.size; simpa using this
    obtain ⟨k0, k1⟩ := gbox_cells B1.out
    obtain ⟨wl, hmk, hown, hbl⟩ := make_ints w1 m (by omega)
    have k2 : wl.cell? ⟨w.heap.size, 1, none⟩ = some (.slice a es.length cap) := (hbl.cell (p := ⟨w.heap.size, 1, none⟩) (show w.heap.size < w1.heap.size by omega)).trans k1
    have OL : Hid (wl.ownsRow w1.heap.size 3 1 (.slice (some ⟨w1.heap.size, 0, none⟩) m m) m ((degL m []).flatMap encI)) := by
      show World.ownsRow _ _ _ _ _ _ _
      rw [degL_zero]; exact hown
    have BL : Hid (Below w1.heap.size w1 wl) := hbl
    have HL : Hid (EdR wl (.slice a es.length cap) es) := (HR.out.below (box_below B1.out) (Nat.le_refl _)).below hbl (Nat.le_refl _)
    obtain ⟨qa, qc, e, _, hcap, _⟩ := HL.out
    injection e with e1 _ e3
    subst e1 e3
    unfold maxLen at hcap
    clear hb1 HCK hown hbl
    go_wp2_with fail
    go_loopw [19] (fun i wr => ∃ k : Nat, k ≤ es.length ∧ i = .int .i64 k ∧ wr.ownsRow w1.heap.size 3 1 (.slice (some ⟨w1.heap.size, 0, none⟩) m m) m ((degL m (es.take k)).flatMap encI) ∧ Below w1.heap.size w1 wr) (fun i _ => es.length - (intOf i).toNat)
    case atStart => exact ⟨0, by omega, rfl, OL.out, BL.out⟩
    case round =>
      obtain ⟨k, hk, rfl, hown, hbel⟩ := hrel
      have OW : Hid (wr.ownsRow w1.heap.size 3 1 (.slice (some ⟨w1.heap.size, 0, none⟩) m m) m ((degL m (es.take k)).flatMap encI)) := hown
      have HB : Hid (Below w1.heap.size w1 wr) := hbel
      have hsr := hbel.size
      have hgl : w1.heap.size < wr.heap.size := (hown.lt _ rfl).2
      clear hown hbel k0 k1 k2 hmk
      by_cases hlt : k < es.length
      · obtain ⟨b, off, cap', e1, _, _, lt, hv⟩ := EdR.at ((HR.out.below (box_below B1.out) (Nat.le_refl _)).below HB.out (Nat.le_refl _)) (by omega)
        injection e1 with e1 _ e3
        subst e1 e3
        obtain ⟨x, hx⟩ := getE hlt
        obtain ⟨c1, c2, c3⟩ := hv k x hx
        have hxin := in_of_out (HIN.out x (List.mem_of_getElem? hx))
        obtain ⟨f, hf⟩ : ∃ f : Nat, x.1 = f := ⟨x.1.toNat, by omega⟩
        have hfm : f < m := by omega
        have HT : Hid (degL m (es.take (k + 1)) = (degL m (es.take k)).set f (degE (es.take k) f + 1)) := by
          show _ = _
          rw [take_snoc hx]; exact degL_step hf hfm
        have hd := degE_le (es.take k) f
        have hd2 : (es.take k).length ≤ 600 := by simp; omega
        have d1 := own_atI OW.out (degL_at (es := es.take k) hfm)
        have d2 : ∀ X, (wr.alloc X).cell? ⟨w1.heap.size, f, none⟩ = some (.int .i64 (degE (es.take k) f)) := fun X => ((below_alloc wr X).cell (p := ⟨w1.heap.size, f, none⟩) hgl).trans d1
        have d3 : ∀ X, (wr.alloc X).frozen? ⟨w1.heap.size, f, none⟩ = false := fun X => ((below_alloc wr X).frozen (p := ⟨w1.heap.size, f, none⟩) hgl).trans (frozenK OW.out f)
        have hwr : IntKind.i64.wrap (degE (es.take k) f + 1) = degE (es.take k) f + 1 := wrap_id64 (by omega) (by omega)
        have p0 : (0 : Int) ≤ (f : Int) := by omega
        have p1 : (f : Int) < (m : Int) := by omega
        rw [hf] at c1
        clear hv hx hd hd2 d1 hxin hf
        generalize degE (es.take k) f = d at *
        obtain ⟨xf, xt, xc⟩ := x
        simp only at c1 c2 c3
        go_wp2_with fail
        go_roundw
        case rel => exact ⟨k + 1, by omega, by go_num, by rw [HT.out]; exact (own_setI OW.out).alloc _, (HB.out.setCell (p := ⟨w1.heap.size, f, none⟩) (Nat.le_refl _) _).alloc (by rw [size_setCell]; omega) _⟩
        case measure => simp [intOf]; omega
      · have ek : es.take k = es := List.take_of_length_le (by omega)
        have O2 : Hid (wr.ownsRow w1.heap.size 3 1 (.slice (some ⟨w1.heap.size, 0, none⟩) m m) m ((degL m es).flatMap encI)) := by have := OW.out; rwa [ek] at this
        clear ek OW
        go_wp2_with fail
        go_ret2
        exact ⟨_, rfl, by rw [degL_len]; exact own_lower O2.out (by omega), (box_below B1.out).trans (HB.out.mono (by omega))⟩
  · have hne : (faultE n es != 0) = true := by simpa using hf
    rw [okL_no hf]
    generalize faultE n es = fe at *
    clear hf
    go_enter Try.func7, Try.ntmps7
    go_wp2_with fail
    refine (HCK.out _ ?_).mono ?_
    · exact HR.out.below (below_alloc w _) (Nat.le_refl _)
    rintro e w1 ⟨rfl, hb1⟩
    have B1 : Hid (Below (w.heap.size + 1) (w.alloc (.cells #[.int .i64 n, .slice a es.length cap] 25)) w1) := by
      show Below _ _ _
      simpa using hb1
    clear hb1 HCK
    go_wp2_with fail
    go_ret2
    exact ⟨_, rfl, World.ownsRow_nil _ _ _ _, box_below B1.out⟩
end Go.Proofs.Ytpoablcdfiimhab
