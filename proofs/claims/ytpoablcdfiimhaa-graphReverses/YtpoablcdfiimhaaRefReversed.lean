/-
  Contract of the document's own GraphReversed.
-/
import Derived.Test.YtpoablcdfiimhaaRefSorted
namespace Go.Proofs.Ytpoablcdfiimhaa
open Go.ChangeShapes Go.WideShapes Go.ChangeAt Go.RowKit
attribute [local go_sem ↓] exec_append

set_option maxHeartbeats 2000000 in
set_option maxRecDepth 100000 in
theorem refReversed_any (v : Value) (es : List Ed) (n : Int) (w : World) (h : EdR w v es) :
    Calls Try.prog 16 #[.agg #[.int .i64 n, v]] w fun e w' => ∃ v', e = .returned (.tuple #[.agg #[.int .i64 (okN (faultE n es) n), v'], .int .i64 (faultE n es)]) ∧
      w'.ownsRow w.heap.size 47 3 v' (okL (faultE n es) (sortE (es.map turnE))).length ((okL (faultE n es) (sortE (es.map turnE))).flatMap encE) ∧ Below w.heap.size w w' := by
  have HR : Hid (EdR w v es) := h
  obtain ⟨a, cap, rfl⟩ := h.shape
  clear h
  have HCK : Hid (∀ X, EdR X (.slice a es.length cap) es → Calls Try.prog 11 #[.agg #[.int .i64 n, .slice a es.length cap]] X fun e w' => e = .returned (.int .i64 (faultE n es)) ∧ Below X.heap.size X w') := fun X hX => fault_walk _ es n X hX
  by_cases hf : faultE n es = 0
  · have hle : es.length ≤ 600 := (fault_ok hf).2.2.1
    rw [hf, okN_yes, okL_yes]
    rw [hf] at HCK
    clear hf
    go_enter Try.func16, Try.ntmps16
    go_wp2_with fail
    refine (HCK.out _ ?_).mono ?_
    · exact HR.out.below ((below_alloc w _).alloc (by simp) _) (Nat.le_refl _)
    rintro e w1 ⟨rfl, hb1⟩
    have B1 : Hid (Below (w.heap.size + 2) ((w.alloc (.cells #[.int .i64 n, .slice a es.length cap] 24)).alloc (.cells #[.int .i64 0, .slice none 0 0] 24)) w1) := by
      show Below _ _ _
      simpa using hb1
    have hs1 : w.heap.size + 2 ≤ w1.heap.size := by have := B1.out.size; simpa using this
    clear hb1 HCK
    go_wp2_with fail
    go_loopw [5, 6] (fun u i wr => ∃ k : Nat, k ≤ es.length ∧ i = .int .i64 k ∧ wr.ownsRow (w.heap.size + 2) 47 3 u ((es.take k).map turnE).length (((es.take k).map turnE).flatMap encE) ∧ Below (w.heap.size + 2) ((w.alloc (.cells #[.int .i64 n, .slice a es.length cap] 24)).alloc (.cells #[.int .i64 0, .slice none 0 0] 24)) wr) (fun _ i _ => es.length - (intOf i).toNat)
    case atStart => exact ⟨0, by omega, rfl, World.ownsRow_nil _ _ _ _, B1.out⟩
    case round =>
      obtain ⟨k, hk, rfl, hown, hbel⟩ := hrel
      have OW : Hid (wr.ownsRow (w.heap.size + 2) 47 3 u5 ((es.take k).map turnE).length (((es.take k).map turnE).flatMap encE)) := hown
      have HB : Hid (Below (w.heap.size + 2) ((w.alloc (.cells #[.int .i64 n, .slice a es.length cap] 24)).alloc (.cells #[.int .i64 0, .slice none 0 0] 24)) wr) := hbel
      have hsr : w.heap.size + 2 ≤ wr.heap.size := by have := hbel.size; simpa using this
      obtain ⟨q4, q5⟩ := gbox1 hbel
      clear hown hbel B1 hs1
      by_cases hlt : k < es.length
      · obtain ⟨b, off, cap', e1, hcc, hmm, lt, hv⟩ := EdR.at (HR.out.below (below_two HB.out) (Nat.le_refl _)) (by omega)
        injection e1 with e1 _ e3
        subst e1 e3
        obtain ⟨x, hx⟩ := getE hlt
        obtain ⟨c1, c2, c3⟩ := hv k x hx
        have HT : Hid ((es.take (k + 1)).map turnE = (es.take k).map turnE ++ [turnE x]) := by show _ = _; rw [take_snoc hx, List.map_append]; rfl
        have hlen : ((es.take k).map turnE).length ≤ 600 := by simp; omega
        have p0 : (0 : Int) ≤ (k : Int) := by omega
        have p1 : (k : Int) < (es.length : Int) := by omega
        obtain ⟨ua, un, uc, rfl⟩ : ∃ a n c, u5 = .slice a n c := by obtain ⟨a, c, e, _⟩ := RowK.own encE_len OW.out; exact ⟨_, _, _, e⟩
        clear hv hx hcc hmm
        go_wp2_with fail
        have hsz : (wr.alloc (.cells #[.int .i64 (turnE x).1, .int .i64 (turnE x).2.1, .int .i64 (turnE x).2.2] 47)).drew.heap.size = wr.heap.size + 1 := by simp
        obtain ⟨g, gc, w2, a1, a2, a3, hown2, hb2, _⟩ := app_newK kE (w := (wr.alloc (.cells #[.int .i64 (turnE x).1, .int .i64 (turnE x).2.1, .int .i64 (turnE x).2.2] 47)).drew) 22 (w.heap.size + 2) (.slice ua un uc) ((es.take k).map turnE) ((OW.out.alloc _).drew) wr.heap.size (turnE x) #[.int .i64 (turnE x).1, .int .i64 (turnE x).2.1, .int .i64 (turnE x).2.2] rfl (0, 0) (heap_alloc_new wr _) (by simp only [kE]; omega) (by unfold maxLen; omega) (by rw [hsz]; omega)
        have hlk : ((es.take k).map turnE).length = k := by simp; omega
        rw [hlk] at a2 hown2
        unfold kE turnE at a1 a2 a3
        simp only at a1 a2 a3
        have O2 : Hid (w2.ownsRow (w.heap.size + 2) 47 3 (.slice (some ⟨g, 0, none⟩) (k + 1) gc) ((es.take (k + 1)).map turnE).length (((es.take (k + 1)).map turnE).flatMap encE)) := by
          show World.ownsRow _ _ _ _ _ _ _
          rw [HT.out]; exact hown2
        have HB2 : Hid (Below (w.heap.size + 2) ((w.alloc (.cells #[.int .i64 n, .slice (some ⟨b, off, none⟩) es.length cap] 24)).alloc (.cells #[.int .i64 0, .slice none 0 0] 24)) w2) := ((HB.out.alloc hsr _).drew).trans hb2
        clear hown2 hb2 hsz hlk
        go_region
        go_wp2_with fail
        go_roundw
        case rel => exact ⟨k + 1, by omega, by go_num, O2.out, HB2.out⟩
        case measure => simp [intOf]; omega
      · have ek : es.take k = es := List.take_of_length_le (by omega)
        have O1 : Hid (wr.ownsRow (w.heap.size + 2) 47 3 u5 (es.map turnE).length ((es.map turnE).flatMap encE)) := by have := OW.out; rwa [ek] at this
        have HR1 : Hid (EdR wr u5 (es.map turnE)) := RowK.own encE_len O1.out
        have hml : (es.map turnE).length ≤ 600 := by simp; omega
        have KEEP : Hid (∀ V, Below wr.heap.size wr V → Box2 w V n (.slice a es.length cap)) := fun V hV => box2 (HB.out.trans (hV.mono hsr))
        have KEEP1 : Hid (∀ V, Below wr.heap.size wr V → V.cell? ⟨w.heap.size, 0, none⟩ = some (.int .i64 n) ∧ V.cell? ⟨w.heap.size, 1, none⟩ = some (.slice a es.length cap)) := fun V hV => ⟨(KEEP.out V hV).1, (KEEP.out V hV).2.1⟩
        clear ek OW O1
        go_upto_region 9 with fail
        go_region_held3 (fun V => V.cell? ⟨w.heap.size, 0, none⟩ = some (.int .i64 n) ∧ V.cell? ⟨w.heap.size, 1, none⟩ = some (.slice a es.length cap)) (first | exact KEEP1.out _ ((Below.refl _ _).drew) | (refine KEEP1.out _ (below_undrew ?_); assumption) | (refine box1_put (KEEP1.out _ (below_undrew ?_)); assumption)) (first | (go_at_call 31; refine (refOrder_sl _ (es.map turnE) _ (HR1.out.below (Below.refl _ _).drew (Nat.le_refl _)) hml).mono ?_; rintro e w2 ⟨va, vn, vc, rfl, hown2, hb2⟩; obtain ⟨_, _, k0, k1, k2, k3⟩ := KEEP.out _ (below_undrew hb2)))
        rename_i hh
        have B2 : Hid (Below wr.heap.size wr w2) := below_undrew hb2
        have O2 : Hid (w2.ownsRow wr.heap.size 47 3 (.slice va vn vc) (sortE (es.map turnE)).length ((sortE (es.map turnE)).flatMap encE)) := hown2
        have BB : Hid (Below (w.heap.size + 2) ((w.alloc (.cells #[.int .i64 n, .slice a es.length cap] 24)).alloc (.cells #[.int .i64 0, .slice none 0 0] 24)) w2) := HB.out.trans (B2.out.mono hsr)
        clear hh hb2 hown2 KEEP KEEP1
        go_wp2_with fail
        obtain ⟨r0, r1⟩ := gput_cells (n := n) (v := .slice va vn vc) k0 k1
        have hb : ∀ (p : Addr), p.block = w.heap.size + 1 → p.block < wr.heap.size := fun p hp => by omega
        refine bodyPost_ret (v := .tuple #[.agg #[.int .i64 n, .slice va vn vc], .int .i64 0]) (by simp [results, Try.results16, go_sem, r0, r1]) rfl ⟨_, rfl, ?_, ?_⟩
        · exact own_lower (RowK.setBelow (RowK.setBelow O2.out (hb _ rfl) _) (hb _ rfl) _) (by omega)
        · exact ((below_two BB.out).setCell (Nat.le_succ _) _).setCell (Nat.le_succ _) _
  · have hne : (faultE n es != 0) = true := by simpa using hf
    rw [okN_no hf, okL_no hf]
    generalize faultE n es = fe at *
    clear hf
    go_enter Try.func16, Try.ntmps16
    go_wp2_with fail
    refine (HCK.out _ ?_).mono ?_
    · exact HR.out.below ((below_alloc w _).alloc (by simp) _) (Nat.le_refl _)
    rintro e w1 ⟨rfl, hb1⟩
    have B1 : Hid (Below (w.heap.size + 2) ((w.alloc (.cells #[.int .i64 n, .slice a es.length cap] 24)).alloc (.cells #[.int .i64 0, .slice none 0 0] 24)) w1) := by
      show Below _ _ _
      simpa using hb1
    clear hb1 HCK
    obtain ⟨q0, q1, q2, q3⟩ := gbox2 B1.out
    go_wp2_with fail
    obtain ⟨r0, r1⟩ := gput_cells (n := 0) (v := .slice none 0 0) q0 q1
    refine bodyPost_ret (v := .tuple #[.agg #[.int .i64 0, .slice none 0 0], .int .i64 fe]) (by simp [results, Try.results16, go_sem, r0, r1]) rfl ⟨_, rfl, ?_, ?_⟩
    · exact World.ownsRow_nil _ _ _ _
    · exact ((below_two B1.out).setCell (Nat.le_succ _) _).setCell (Nat.le_succ _) _
end Go.Proofs.Ytpoablcdfiimhaa
