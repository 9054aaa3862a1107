/-
  Contract of paths.hopsOf.
-/
import Derived.Test.YtankibadiomkkabHopTable
import Derived.Deep.CutRange
namespace Go.Proofs.Ytankibadiomkkab
set_option maxRecDepth 100000
open Go.ChangeShapes Go.WideShapes Go.ChangeAt Go.RowKit
attribute [local go_sem ↓] exec_append

set_option maxHeartbeats 2000000 in
set_option maxRecDepth 100000 in
theorem hopsOf_any (v : Value) (es : List Ed) (n : Nat) (w : World) (h : EdR w v es) (hn : n ≤ 200) (hl : es.length ≤ 600) (hin : ∀ e ∈ es, 0 ≤ e.1 ∧ e.1 < (n : Int)) :
    Calls Try.prog 11 #[.agg #[.int .i64 n, v]] w fun e w' => ∃ v', e = .returned v' ∧ OwnLs w' w.heap.size v' (tblF n es) ∧ Below w.heap.size w w' := by
  have HR : Hid (EdR w v es) := h
  have HI : Hid (∀ e ∈ es, 0 ≤ e.1 ∧ e.1 < (n : Int)) := hin
  obtain ⟨a, cap, rfl, _, hm, _⟩ := h
  unfold maxLen at hm
  clear hin
  have B0 : Hid (Below w.heap.size w (w.alloc (.cells #[.int .i64 n, .slice a es.length cap] 25)) ∧ (w.alloc (.cells #[.int .i64 n, .slice a es.length cap] 25)).heap[w.heap.size]? = some (.cells #[.int .i64 n, .slice a es.length cap] 25 (0, 0))) := ⟨below_alloc _ _, heap_alloc_new w _⟩
  go_enter Try.func11, Try.ntmps11
  go_upto_region 1 with fail
  generalize w.alloc (.cells #[.int .i64 n, .slice a es.length cap] 25) = w0 at *
  obtain ⟨hb0, hx0⟩ := B0.out
  have c0 : w0.cell? ⟨w.heap.size, 0, none⟩ = some (.int .i64 n) := by rw [cell_of_row _ _ _ _ _ _ hx0]; rfl
  have hlt0 := (Array.getElem?_eq_some_iff.1 hx0).1
  obtain ⟨w1, hmk, htb, hb1⟩ := make_tbl w0 n (by omega)
  have c1 : w1.cell? ⟨w.heap.size, 1, none⟩ = some (.slice a es.length cap) := by rw [(hb1.cell (p := ⟨w.heap.size, 1, none⟩) hlt0), cell_of_row _ _ _ _ _ _ hx0]; rfl
  have hs0 := hb0.size
  have HB1 : Hid (Below w.heap.size w w1) := hb0.trans (hb1.mono hs0)
  have TB : Hid (Tbl w1 w0.heap.size w0.heap.size n (List.replicate n (.slice none 0 0)) (tblF n [])) := by
    show Tbl _ _ _ _ _ _
    rw [tblF_nil]; exact htb
  have hs1 := HB1.out.size
  clear hb0 hx0 htb hb1 B0
  go_wp2_with fail
  generalize w0.heap.size = G at *
  have hs3 : G < w1.heap.size := by
    have := TB.out.row.lt G rfl
    exact this.2
  go_loopw [12] (fun i wr => ∃ (k : Nat) (vs : List Value), k ≤ es.length ∧ i = .int .i64 k ∧ Tbl wr G G n vs (tblF n (es.take k)) ∧ Below w.heap.size w wr ∧ w1.heap.size ≤ wr.heap.size) (fun i _ => es.length - (intOf i).toNat)
  case atStart => exact ⟨0, _, by omega, rfl, TB.out, HB1.out, Nat.le_refl _⟩
  case round =>
    obtain ⟨k, vs, hk, rfl, htb, hbel, hsw⟩ := hrel
    have TR : Hid (Tbl wr G G n vs (tblF n (es.take k))) := htb
    have HB : Hid (Below w.heap.size w wr) := hbel
    have hsr := hbel.size
    clear htb hbel TB HB1 c0 c1 hmk
    by_cases hlt : k < es.length
    · obtain ⟨b, off, cap', e1, _, _, lt, hv⟩ := EdR.at (HR.out.below HB.out (Nat.le_refl _)) (by omega)
      injection e1 with e1 _ e3
      subst e1 e3
      obtain ⟨x, hx⟩ := getE hlt
      obtain ⟨d1, d2, d3⟩ := hv k x hx
      have hxi := HI.out x (List.mem_of_getElem? hx)
      obtain ⟨j, hj⟩ : ∃ j : Nat, x.1 = j := ⟨x.1.toNat, by omega⟩
      have hjn : j < n := by omega
      have HT : Hid (tblF n (es.take (k + 1)) = (tblF n (es.take k)).set j (hopsL (es.take k) (j : Int) ++ [(x.2.1, x.2.2)])) := tblF_step hx hj hjn
      obtain ⟨u, hu⟩ := getX (show j < vs.length by rw [TR.out.lv]; exact hjn)
      have hfl := tblF_at (es := es.take k) hjn
      have hel := TR.out.el j u _ hu hfl
      obtain ⟨ua, un, uc, rfl⟩ : ∃ a n c, u = .slice a n c := by obtain ⟨a, c, e, _⟩ := RowK.own encH_len hel; exact ⟨_, _, _, e⟩
      have hll : (hopsL (es.take k) (j : Int)).length ≤ 600 := by have := hops_len (es.take k) (j : Int); simp at this; omega
      obtain ⟨x1, x2, x3⟩ := x
      simp only at *
      subst hj
      have p0 : (0 : Int) ≤ (k : Int) := by omega
      have p1 : (k : Int) < (es.length : Int) := by omega
      have q0 : (0 : Int) ≤ (j : Int) := by omega
      have q1 : (j : Int) < (n : Int) := by omega
      have HU : Hid (vs[j]? = some (.slice ua un uc)) := hu
      have HFL : Hid ((tblF n (es.take k))[j]? = some (hopsL (es.take k) (j : Int))) := hfl
      clear hv hx hfl hu hel
      generalize hopsL (es.take k) (j : Int) = f at *
      go_upto_region 5 with fail
      have W1 : Hid (Tbl (wr.alloc (.cells #[.int .i64 (j : Int), .int .i64 x2, .int .i64 x3] 37)) G G n vs (tblF n (es.take k)) ∧ Below w.heap.size w (wr.alloc (.cells #[.int .i64 (j : Int), .int .i64 x2, .int .i64 x3] 37)) ∧ (wr.alloc (.cells #[.int .i64 (j : Int), .int .i64 x2, .int .i64 x3] 37)).heap[wr.heap.size]? = some (.cells #[.int .i64 (j : Int), .int .i64 x2, .int .i64 x3] 37 (0, 0)) ∧ w1.heap.size ≤ (wr.alloc (.cells #[.int .i64 (j : Int), .int .i64 x2, .int .i64 x3] 37)).heap.size) := ⟨TR.out.kept ((Kept.refl _ _).alloc _), HB.out.alloc hsr _, heap_alloc_new wr _, by simp; omega⟩
      generalize wr.alloc (.cells #[.int .i64 (j : Int), .int .i64 x2, .int .i64 x3] 37) = w2 at *
      generalize wr.heap.size = bx at *
      obtain ⟨TR2, HB2, bx2, hs2⟩ := W1.out
      have k0 : w2.cell? ⟨bx, 0, none⟩ = some (.int .i64 (j : Int)) := by rw [cell_of_row _ _ _ _ _ _ bx2]; rfl
      have k1 : w2.cell? ⟨bx, 1, none⟩ = some (.int .i64 x2) := by rw [cell_of_row _ _ _ _ _ _ bx2]; rfl
      have k2 : w2.cell? ⟨bx, 2, none⟩ = some (.int .i64 x3) := by rw [cell_of_row _ _ _ _ _ _ bx2]; rfl
      have k3 := TR2.cell HU.out
      have hbx := (Array.getElem?_eq_some_iff.1 bx2).1
      have hG2 : G < w2.heap.size := by omega
      have m0 : ∀ X, (w2.alloc X).cell? ⟨bx, 0, none⟩ = some (.int .i64 (j : Int)) := fun X => ((below_alloc w2 X).cell (p := ⟨bx, 0, none⟩) hbx).trans k0
      have m1 : ∀ X, (w2.alloc X).cell? ⟨G, j, none⟩ = some (.slice ua un uc) := fun X => ((below_alloc w2 X).cell (p := ⟨G, j, none⟩) hG2).trans k3
      have hel := TR2.el j _ f HU.out HFL.out
      have hs4 := HB2.size
      obtain ⟨g5, c5, w5, hrun, ho5, hgr5, hli5⟩ := run_append_newL kH (w := (w2.alloc (.cells #[.int .i64 x2, .int .i64 x3] 52)).drew) 50 G (.slice ua un uc) f ((hel.alloc _).drew) w2.heap.size (x2, x3) #[.int .i64 x2, .int .i64 x3] rfl (0, 0) (heap_alloc_new w2 _) (by simp only [kH]; omega) (by unfold maxLen; omega) (by show G ≤ (w2.alloc _).heap.size; simp; omega)
      obtain ⟨a1, a2, a3⟩ := appOk_of hrun
      have TR3 : Tbl (w2.alloc (.cells #[.int .i64 x2, .int .i64 x3] 52)).drew G G n vs (tblF n (es.take k)) := TR2.kept ((Kept.refl _ _).alloc _).drew
      obtain ⟨T5, k4, k5⟩ := TR3.put HU.out HFL.out hgr5 ho5 hli5
      have T6 : Hid (Tbl (w5.setCell ⟨G, j, none⟩ (.slice (some ⟨g5, 0, none⟩) (f.length + 1) c5)) G G n (vs.set j (.slice (some ⟨g5, 0, none⟩) (f.length + 1) c5)) (tblF n (es.take (k + 1)))) := by
        show Tbl _ _ _ _ _ _
        rw [HT.out]; exact T5
      have HB6 : Hid (Below w.heap.size w (w5.setCell ⟨G, j, none⟩ (.slice (some ⟨g5, 0, none⟩) (f.length + 1) c5))) := by
        have h5 : Below w.heap.size w w5 := ((HB2.alloc hs4 _).drew).trans ((Below.refl _ _).grown hgr5 (by show w.heap.size ≤ (w2.alloc _).heap.size; simp; omega) (fun q hq => by have := own_ge hel hq; omega))
        exact h5.setCell (p := ⟨G, j, none⟩) (by show w.heap.size ≤ G; omega) _
      have hs6 : w1.heap.size ≤ (w5.setCell ⟨G, j, none⟩ (.slice (some ⟨g5, 0, none⟩) (f.length + 1) c5)).heap.size := by
        rw [size_setCell]
        have h1 := hgr5.size
        have h2 : (w2.alloc (.cells #[.int .i64 x2, .int .i64 x3] 52)).drew.heap.size = w2.heap.size + 1 := by simp
        omega
      have m2 : w5.cell? ⟨bx, 0, none⟩ = some (.int .i64 (j : Int)) := by
        have hb5 : w5.heap[bx]? = some (.cells #[.int .i64 (j : Int), .int .i64 x2, .int .i64 x3] 37 (0, 0)) := by
          rw [hgr5.block bx (by show bx < (w2.alloc _).heap.size; simp; omega) (fun e => own_block hel e.symm bx2 (by decide) rfl)]
          exact ((below_alloc w2 _).block bx hbx).trans bx2
        rw [cell_of_row _ _ _ _ _ _ hb5]; rfl
      unfold kH at a1 a2 a3
      simp only at a1 a2 a3
      clear W1 TR HB TR2 HB2 bx2 hel hrun ho5 hgr5 hli5 TR3 T5 d1 d2 d3
      go_region
      generalize w5.setCell ⟨G, j, none⟩ (.slice (some ⟨g5, 0, none⟩) (f.length + 1) c5) = w6 at *
      clear a1 a2 a3 m0 m1 m2 k0 k1 k2 k3 k4 k5
      go_wp2_with fail
      go_roundw
      case rel => exact ⟨k + 1, _, by omega, by go_num, T6.out, HB6.out, hs6⟩
      case measure => simp [intOf]; omega
    · have ek : es.take k = es := List.take_of_length_le (by omega)
      rw [ek] at TR
      clear ek
      go_wp2_with fail
      go_ret
      exact ⟨_, rfl, TR.out.own.lower (by omega), HB.out⟩
end Go.Proofs.Ytankibadiomkkab
