/-
  Contracts of the document's own hopsOf and HopsFrom.
-/
import Derived.Test.YtpoablcdfiimhaaHopsLib
import Derived.Test.YtpoablcdfiimhaaRefSorted
namespace Go.Proofs.Ytpoablcdfiimhaa
open Go.ChangeShapes Go.WideShapes Go.ChangeAt Go.RowKit
attribute [local go_sem ↓] exec_append

set_option maxHeartbeats 2000000 in
set_option maxRecDepth 100000 in
theorem hopsOf_any (v : Value) (es : List Ed) (z : Int) (w : World) (h : EdR w v es) (hl : es.length ≤ 600) :
    Calls Try.prog 33 #[v, .int .i64 z] w fun e w' => ∃ v', e = .returned v' ∧ w'.ownsRow w.heap.size 55 2 v' (hopsL (sortE es) z).length ((hopsL (sortE es) z).flatMap encH) ∧ Below w.heap.size w w' := by
  have HC : Hid (∀ X, EdR X v es → Calls Try.prog 31 #[v] X fun e w' => ∃ a n c, e = .returned (.slice a n c) ∧ w'.ownsRow X.heap.size 47 3 (.slice a n c) (sortE es).length ((sortE es).flatMap encE) ∧ Below X.heap.size X w') := fun X hX => refOrder_sl v es X hX hl
  have HR : Hid (EdR w v es) := h
  obtain ⟨a, cap, rfl⟩ := h.shape
  have hsl : (sortE es).length ≤ 600 := by rw [sortE_len]; exact hl
  clear h
  generalize sortE es = s at *
  go_enter Try.func33, Try.ntmps33
  go_wp2_with fail
  refine (HC.out _ HR.out).mono ?_
  rintro e wl ⟨sa, sn, sc, rfl, hown, hbl⟩
  have HL : Hid (EdR wl (.slice sa sn sc) s) := RowK.own encE_len hown
  obtain ⟨qa, qc, e, _, hcap, _⟩ := HL.out
  injection e with e1 e2 e3
  subst e1 e2 e3
  unfold maxLen at hcap
  have BL : Hid (Below w.heap.size w wl) := hbl
  have hwl := BL.out.size
  clear hown hbl HC
  go_wp2_with fail
  go_loopw [6, 7] (fun u i wr => ∃ k : Nat, k ≤ s.length ∧ i = .int .i64 k ∧ wr.ownsRow wl.heap.size 55 2 u (hopsL (s.take k) z).length ((hopsL (s.take k) z).flatMap encH) ∧ Below wl.heap.size wl wr) (fun _ i _ => s.length - (intOf i).toNat)
  case atStart => exact ⟨0, by omega, rfl, World.ownsRow_nil _ _ _ _, Below.refl _ _⟩
  case round =>
    obtain ⟨k, hk, rfl, hown, hbel⟩ := hrel
    have OW : Hid (wr.ownsRow wl.heap.size 55 2 u6 (hopsL (s.take k) z).length ((hopsL (s.take k) z).flatMap encH)) := hown
    have HB : Hid (Below wl.heap.size wl wr) := hbel
    have hsr := hbel.size
    clear hown hbel
    by_cases hlt : k < s.length
    · obtain ⟨b, off, cap', e1, _, _, lt, hv⟩ := EdR.at (HL.out.below HB.out (Nat.le_refl _)) (by omega)
      injection e1 with e1 _ e3
      subst e1 e3
      obtain ⟨x, hx⟩ := getE hlt
      obtain ⟨c1, c2, c3⟩ := hv k x hx
      have hlen : (hopsL (s.take k) z).length ≤ 600 := by have := hops_len (s.take k) z; simp at this; omega
      have p0 : (0 : Int) ≤ (k : Int) := by omega
      have p1 : (k : Int) < (s.length : Int) := by omega
      cases hxz : (x.1 == z)
      · have HN : Hid (hopsL (s.take (k + 1)) z = hopsL (s.take k) z) := hops_no hx hxz
        clear hv hx
        go_wp2_with fail
        go_roundw
        case rel => exact ⟨k + 1, by omega, by go_num, by rw [HN.out]; exact OW.out, HB.out⟩
        case measure => simp [intOf]; omega
      · have HN : Hid (hopsL (s.take (k + 1)) z = hopsL (s.take k) z ++ [(x.2.1, x.2.2)]) := hops_yes hx hxz
        obtain ⟨ua, un, uc, rfl⟩ : ∃ a n c, u6 = .slice a n c := by obtain ⟨a, c, e, _⟩ := RowK.own encH_len OW.out; exact ⟨_, _, _, e⟩
        clear hv hx
        generalize hopsL (s.take k) z = f at *
        go_wp2_with fail
        have hsz : (wr.alloc (.cells #[.int .i64 x.2.1, .int .i64 x.2.2] 55)).drew.heap.size = wr.heap.size + 1 := by simp
        obtain ⟨g, gc, w2, a1, a2, a3, hown2, hb2, _⟩ := app_newK kH (w := (wr.alloc (.cells #[.int .i64 x.2.1, .int .i64 x.2.2] 55)).drew) 32 wl.heap.size (.slice ua un uc) f ((OW.out.alloc _).drew) wr.heap.size (x.2.1, x.2.2) #[.int .i64 x.2.1, .int .i64 x.2.2] rfl (0, 0) (heap_alloc_new wr _) (by simp only [kH]; omega) (by unfold maxLen; omega) (by rw [hsz]; omega)
        unfold kH at a1 a2 a3
        simp only at a1 a2 a3
        have O2 : Hid (w2.ownsRow wl.heap.size 55 2 (.slice (some ⟨g, 0, none⟩) (f.length + 1) gc) (hopsL (s.take (k + 1)) z).length ((hopsL (s.take (k + 1)) z).flatMap encH)) := by
          show World.ownsRow _ _ _ _ _ _ _
          rw [HN.out]; exact hown2
        have B2 : Hid (Below wl.heap.size wl w2) := ((HB.out.alloc hsr _).drew).trans hb2
        clear hown2 hb2 hsz
        go_region
        go_wp2_with fail
        go_roundw
        case rel => exact ⟨k + 1, by omega, by go_num, O2.out, B2.out⟩
        case measure => simp [intOf]; omega
    · have ek : s.take k = s := List.take_of_length_le (by omega)
      have O2 : Hid (wr.ownsRow wl.heap.size 55 2 u6 (hopsL s z).length ((hopsL s z).flatMap encH)) := by have := OW.out; rwa [ek] at this
      clear ek OW
      go_wp2_with fail
      go_ret
      exact ⟨_, rfl, own_lower O2.out hwl, BL.out.trans (HB.out.mono hwl)⟩

theorem in_ins (n z : Int) : inB z 0 (n - 1) = insB n z := by
  unfold inB insB
  congr 1
  congr 1
  exact propext ⟨fun _ => by omega, fun _ => by omega⟩

set_option maxHeartbeats 2000000 in
set_option maxRecDepth 100000 in
theorem hopsFrom_any (v : Value) (es : List Ed) (n z : Int) (w : World) (h : EdR w v es) :
    Calls Try.prog 18 #[.agg #[.int .i64 n, v], .int .i64 z] w fun e w' => ∃ v', e = .returned (.tuple #[v', .int .i64 (errH n es z)]) ∧
      w'.ownsRow w.heap.size 55 2 v' (okL (errH n es z) (hopsL (sortE es) z)).length ((okL (errH n es z) (hopsL (sortE es) z)).flatMap encH) ∧ Below w.heap.size w w' := by
  have HR : Hid (EdR w v es) := h
  obtain ⟨a, cap, rfl⟩ := h.shape
  clear h
  have HCK : Hid (∀ X, EdR X (.slice a es.length cap) es → Calls Try.prog 11 #[.agg #[.int .i64 n, .slice a es.length cap]] X fun e w' => e = .returned (.int .i64 (faultE n es)) ∧ Below X.heap.size X w') := fun X hX => fault_walk _ es n X hX
  by_cases hf : faultE n es = 0
  · obtain ⟨hn0, hn1, hle, _⟩ := fault_ok hf
    have HE0 : Hid (insB n z = false → errH n es z = 2) := fun hi => errH_out hf hi
    have HE1 : Hid (insB n z = true → errH n es z = 0) := fun hi => errH_ok hf hi
    have hw1 : IntKind.i64.wrap (n - 1) = n - 1 := wrap_id64 (by omega) (by omega)
    have hin := in_ins n z
    rw [hf] at HCK
    clear hf
    cases hi : insB n z
    · rw [HE0.out hi, okL_no (by decide)]
      rw [hi] at hin
      clear HE0 HE1
      go_enter Try.func18, Try.ntmps18
      go_wp2_with fail
      refine (HCK.out _ ?_).mono ?_
      · exact HR.out.below (below_alloc w _) (Nat.le_refl _)
      rintro e w1 ⟨rfl, hb1⟩
      have B1 : Hid (Below (w.heap.size + 1) (w.alloc (.cells #[.int .i64 n, .slice a es.length cap] 24)) w1) := by
        show Below _ _ _
        simpa using hb1
      obtain ⟨k0, k1⟩ := gbox_cells B1.out
      clear hb1 HCK
      go_wp2_with (go_at_call 28; refine (in_any _ _ _ _).mono ?_; rw [hin]; rintro e w1 ⟨rfl, rfl⟩)
      go_ret2
      exact ⟨_, rfl, World.ownsRow_nil _ _ _ _, box_below B1.out⟩
    · rw [HE1.out hi, okL_yes]
      rw [hi] at hin
      have HH : Hid (∀ X, EdR X (.slice a es.length cap) es → Calls Try.prog 33 #[.slice a es.length cap, .int .i64 z] X fun e w' => ∃ v', e = .returned v' ∧ w'.ownsRow X.heap.size 55 2 v' (hopsL (sortE es) z).length ((hopsL (sortE es) z).flatMap encH) ∧ Below X.heap.size X w') := fun X hX => hopsOf_any _ es z X hX hle
      clear HE0 HE1
      go_enter Try.func18, Try.ntmps18
      go_wp2_with fail
      refine (HCK.out _ ?_).mono ?_
      · exact HR.out.below (below_alloc w _) (Nat.le_refl _)
      rintro e w1 ⟨rfl, hb1⟩
      have B1 : Hid (Below (w.heap.size + 1) (w.alloc (.cells #[.int .i64 n, .slice a es.length cap] 24)) w1) := by
        show Below _ _ _
        simpa using hb1
      have hs1 : w.heap.size + 1 ≤ w1.heap.size := by have := B1.out.size; simpa using this
      obtain ⟨k0, k1⟩ := gbox_cells B1.out
      clear hb1 HCK
      go_wp2_with (go_at_call 28; refine (in_any _ _ _ _).mono ?_; rw [hin]; rintro e w1 ⟨rfl, rfl⟩)
      refine (HH.out _ ?_).mono ?_
      · exact HR.out.below (box_below B1.out) (Nat.le_refl _)
      rintro e w2 ⟨v', rfl, hown2, hb2⟩
      have O2 : Hid (w2.ownsRow w1.heap.size 55 2 v' (hopsL (sortE es) z).length ((hopsL (sortE es) z).flatMap encH)) := hown2
      have B2 : Hid (Below w1.heap.size w1 w2) := hb2
      clear hown2 hb2 k0 k1 HH
      go_wp2_with fail
      go_ret2
      exact ⟨_, rfl, own_lower O2.out (by omega), (box_below B1.out).trans (B2.out.mono (by omega))⟩
  · have hne : (faultE n es != 0) = true := by simpa using hf
    rw [errH_fault hf, okL_no hf]
    generalize faultE n es = fe at *
    clear hf
    go_enter Try.func18, Try.ntmps18
    go_wp2_with fail
    refine (HCK.out _ ?_).mono ?_
    · exact HR.out.below (below_alloc w _) (Nat.le_refl _)
    rintro e w1 ⟨rfl, hb1⟩
    have B1 : Hid (Below (w.heap.size + 1) (w.alloc (.cells #[.int .i64 n, .slice a es.length cap] 24)) w1) := by
      show Below _ _ _
      simpa using hb1
    clear hb1 HCK
    go_wp2_with fail
    go_ret2
    exact ⟨_, rfl, World.ownsRow_nil _ _ _ _, box_below B1.out⟩
end Go.Proofs.Ytpoablcdfiimhaa
