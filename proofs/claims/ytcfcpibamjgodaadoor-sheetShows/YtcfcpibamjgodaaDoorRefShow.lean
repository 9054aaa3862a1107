/-
  Contract of the document's own GraphShown.
-/
import Derived.Test.YtcfcpibamjgodaaDoorShowWalk
import Derived.Test.YtcfcpibamjgodaaDoorDecWalk
import Derived.Test.YtcfcpibamjgodaaDoorFaultWalk
import Derived.Lib.QuietBelow
namespace Go.Proofs.YtcfcpibamjgodaaDoor
set_option maxRecDepth 100000
open Go.ChangeShapes Go.WideShapes Go.ChangeAt Go.RowKit Go.Sort

/-- Dec at a number that is not below 0, as Itoa gives it. -/
theorem dec_int (n : Int) (h0 : 0 ≤ n) (h1 : n ≤ 9223372036854775807) (w : World) : Calls Tryd.prog 21 #[.int .i64 n] w fun e w' => e = .returned (.string ⟨(Lib.itoa n).toArray⟩) ∧ Below w.heap.size w w' := by
  obtain ⟨m, rfl⟩ : ∃ m : Nat, n = m := ⟨n.toNat, by omega⟩
  rw [Lib.itoa_nonneg]
  exact dec_any m w (by omega)
theorem line_one (n : Int) : lineL [n] = Lib.itoa n ++ [10] := by simp [lineL, putsL]
theorem line_three (a b c : Int) : lineL [a, b, c] = Lib.itoa a ++ [32] ++ Lib.itoa b ++ [32] ++ Lib.itoa c ++ [10] := by simp [lineL, putsL]

set_option maxHeartbeats 2000000 in
theorem shown_any (v : Value) (es : List Ed) (n : Int) (w : World) (h : EdR w v es) :
    Calls Tryd.prog 9 #[.agg #[.int .i64 n, v]] w fun e w' => e = .returned (.tuple #[.string ⟨(okS (faultE n es) (showL n es)).toArray⟩, .int .i64 (faultE n es)]) ∧ Below w.heap.size w w' := by
  have HR : Hid (EdR w v es) := h
  obtain ⟨a, cap, rfl⟩ := h.shape
  clear h
  have HCK : Hid (∀ X, EdR X (.slice a es.length cap) es → Calls Tryd.prog 20 #[.agg #[.int .i64 n, .slice a es.length cap]] X fun e w' => e = .returned (.int .i64 (faultE n es)) ∧ Below X.heap.size X w') := fun X hX => fault_walk _ es n X hX
  by_cases hf : faultE n es = 0
  · obtain ⟨hn0, hn1, hle, hin⟩ := fault_ok hf
    have HIN : Hid (∀ e ∈ es, outE n e = false) := hin
    have HS : Hid (showL n es = (Lib.itoa n ++ [10]) ++ edgesL es) := by show _ = _; rw [← line_one]; rfl
    have HDN : Hid (∀ X, Calls Tryd.prog 21 #[.int .i64 n] X fun e w' => e = .returned (.string ⟨(Lib.itoa n).toArray⟩) ∧ Below X.heap.size X w') := fun X => dec_int n hn0 (by omega) X
    have HLn : Hid ((Lib.itoa n).length ≤ 21) := Lib.itoa_length_le n (by omega) (by omega)
    have HLE : Hid (∀ k, (edgesL (es.take k)).length ≤ 40200) := fun k => edges_take_len hn1 hle HIN.out k
    rw [hf] at HCK ⊢
    rw [okS_yes]
    generalize showL n es = sh at HS ⊢
    obtain ⟨N0, hN0⟩ : ∃ N0 : ByteArray, N0 = ⟨(Lib.itoa n).toArray⟩ := ⟨_, rfl⟩
    have HN0 : Hid (N0 = ⟨(Lib.itoa n).toArray⟩) := hN0
    rw [← hN0] at HDN
    have hsN : N0.size ≤ 21 := by rw [hN0, bytes_size]; exact HLn.out
    clear hf hin hN0
    go_enter Tryd.func9, Tryd.ntmps9
    go_wp2_with fail
    refine (HCK.out _ ?_).mono ?_
    · exact HR.out.below (below_alloc w _) (Nat.le_refl _)
    rintro e w1 ⟨rfl, hb1⟩
    have B1 : Hid (Below (w.heap.size + 1) (w.alloc (.cells #[.int .i64 n, .slice a es.length cap] 24)) w1) := by
      show Below _ _ _
      simpa using hb1
    have hs1 : w.heap.size + 1 ≤ w1.heap.size := by have := B1.out.size; simpa using this
    obtain ⟨k0, k1⟩ := gbox_cells B1.out
    clear hb1 HCK
    go_wp2_with fail
    refine (HDN.out _).mono ?_
    rintro e w2 ⟨rfl, hb2⟩
    have B2 : Hid (Below (w.heap.size + 1) (w.alloc (.cells #[.int .i64 n, .slice a es.length cap] 24)) w2) := B1.out.trans (below_low hb2 hs1)
    have hs2 : w.heap.size + 1 ≤ w2.heap.size := by have := B2.out.size; simpa using this
    have l1 : ¬ 9223372036854775807 < N0.size + 1 := by omega
    clear hb2 HDN k0 k1
    go_wp2_with fail
    have HN1 : Hid (N0 ++ ⟨#[10]⟩ = ⟨(Lib.itoa n ++ [10]).toArray⟩) := by show _ = _; rw [HN0.out]; exact bytes_app _ [10]
    generalize (N0 ++ ⟨#[10]⟩ : ByteArray) = S0 at HN1 ⊢
    go_loopw [5, 6] (fun u i wr => ∃ (k : Nat) (S : ByteArray), k ≤ es.length ∧ i = .int .i64 k ∧ u = .string S ∧ S = ⟨((Lib.itoa n ++ [10]) ++ edgesL (es.take k)).toArray⟩ ∧ Below (w.heap.size + 1) (w.alloc (.cells #[.int .i64 n, .slice a es.length cap] 24)) wr) (fun _ i _ => es.length - (intOf i).toNat)
    case atStart => exact ⟨0, _, by omega, rfl, rfl, by simpa [edgesL] using HN1.out, B2.out⟩
    case round =>
      obtain ⟨k, S, hk, rfl, rfl, hS, hbel⟩ := hrel
      have HSS : Hid (S = ⟨((Lib.itoa n ++ [10]) ++ edgesL (es.take k)).toArray⟩) := hS
      have HB : Hid (Below (w.heap.size + 1) (w.alloc (.cells #[.int .i64 n, .slice a es.length cap] 24)) wr) := hbel
      have hsS : S.size ≤ 40222 := by
        rw [hS, bytes_size]; have := HLn.out; have := HLE.out k
        simp only [List.length_append, List.length_cons, List.length_nil]; omega
      have hsr : w.heap.size + 1 ≤ wr.heap.size := by have := hbel.size; simpa using this
      obtain ⟨k0, k1⟩ := gbox_cells hbel
      have HL : Hid (EdR wr (.slice a es.length cap) es) := HR.out.below (box_below hbel) (Nat.le_refl _)
      obtain ⟨qa, qc, e, _, hcap, _⟩ := HL.out
      injection e with e1 _ e3
      subst e1 e3
      unfold maxLen at hcap
      clear hbel hS
      by_cases hlt : k < es.length
      · obtain ⟨b, off, cap', e1, _, _, lt, hv⟩ := EdR.at HL.out (by omega)
        injection e1 with e1 _ e3
        subst e1 e3
        obtain ⟨x, hx⟩ := getE hlt
        obtain ⟨c1, c2, c3⟩ := hv k x hx
        have hxin := in_of_out (HIN.out x (List.mem_of_getElem? hx))
        have HN : Hid (edgesL (es.take (k + 1)) = edgesL (es.take k) ++ (Lib.itoa x.1 ++ [32] ++ Lib.itoa x.2.1 ++ [32] ++ Lib.itoa x.2.2 ++ [10])) := by
          show _ = _
          rw [take_snoc hx, edges_snoc, line_three]
        clear hv hx
        obtain ⟨xf, xt, xc⟩ := x
        simp only at c1 c2 c3 hxin HN
        obtain ⟨F, hF⟩ : ∃ F : Int → ByteArray, ∀ x, F x = ⟨(Lib.itoa x).toArray⟩ := ⟨fun x => ⟨(Lib.itoa x).toArray⟩, fun _ => rfl⟩
        have DD : ∀ x X, 0 ≤ x ∧ x ≤ 1099511627776 → Calls Tryd.prog 21 #[.int .i64 x] X fun e w' => e = .returned (.string (F x)) ∧ Below X.heap.size X w' := fun x X hx => by rw [hF]; exact dec_int x hx.1 (by omega) X
        have m1 := Lib.itoa_length_le xf (by omega) (by omega)
        have m2 := Lib.itoa_length_le xt (by omega) (by omega)
        have m3 := Lib.itoa_length_le xc (by omega) (by omega)
        have x1 : 0 ≤ xf ∧ xf ≤ 1099511627776 := by omega
        have x2 : 0 ≤ xt ∧ xt ≤ 1099511627776 := by omega
        have x3 : 0 ≤ xc ∧ xc ≤ 1099511627776 := by omega
        have s1 : (F xf).size ≤ 21 := by rw [hF, bytes_size]; exact m1
        have s2 : (F xt).size ≤ 21 := by rw [hF, bytes_size]; exact m2
        have s3 : (F xc).size ≤ 21 := by rw [hF, bytes_size]; exact m3
        have HNN : Hid (S ++ (F xf) ++ ⟨#[32]⟩ ++ (F xt) ++ ⟨#[32]⟩ ++ (F xc) ++ ⟨#[10]⟩ = ⟨((Lib.itoa n ++ [10]) ++ edgesL (es.take (k + 1))).toArray⟩) := by
          show _ = _
          have e32 : (⟨#[32]⟩ : ByteArray) = ⟨([32] : List UInt8).toArray⟩ := rfl
          have e10 : (⟨#[10]⟩ : ByteArray) = ⟨([10] : List UInt8).toArray⟩ := rfl
          rw [HSS.out, hF, hF, hF, e32, e10, bytes_app, bytes_app, bytes_app, bytes_app, bytes_app, bytes_app, HN.out]
          simp
        clear HN HSS m1 m2 m3 hF
        go_wp2_with fail
        obtain ⟨W0, hW0⟩ : ∃ W0, wr.alloc (.cells #[.int .i64 xf, .int .i64 xt, .int .i64 xc] 48) = W0 := ⟨_, rfl⟩
        have f0 : W0.cell? ⟨wr.heap.size, 0, none⟩ = some (.int .i64 xf) := by rw [← hW0]; simp
        have f1 : W0.cell? ⟨wr.heap.size, 1, none⟩ = some (.int .i64 xt) := by rw [← hW0]; simp
        have f2 : W0.cell? ⟨wr.heap.size, 2, none⟩ = some (.int .i64 xc) := by rw [← hW0]; simp
        have HB0 : Hid (Below (w.heap.size + 1) (w.alloc (.cells #[.int .i64 n, .slice (some ⟨b, off, none⟩) es.length cap] 24)) W0) := by rw [← hW0]; exact HB.out.alloc hsr _
        rw [hW0]
        have hsW : w.heap.size + 1 ≤ W0.heap.size := by have := HB0.out.size; simpa using this
        clear hW0 c1 c2 c3 k0 k1
        have g0 := cell_regrown f0
        have g1 := cell_regrown f1
        have g2 := cell_regrown f2
        have EE : ∀ x d os, 0 ≤ x ∧ x ≤ 1099511627776 → Calls Tryd.prog 21 #[.int .i64 x] (grow (redrawn W0 d) os) fun e w'' => e = .returned (.string (F x)) ∧ ∃ p : Regrown, w'' = grow (redrawn W0 p.d) p.os := fun x d os hx => Calls.regrown_of (DD x _ hx)
        clear DD f0 f1 f2 hxin
        have n1 : ¬ 9223372036854775807 < S.size + (F xf).size := by omega
        have n2 : ¬ 9223372036854775807 < S.size + (F xf).size + 1 := by omega
        have n3 : ¬ 9223372036854775807 < S.size + (F xf).size + 1 + (F xt).size := by omega
        have n4 : ¬ 9223372036854775807 < S.size + (F xf).size + 1 + (F xt).size + 1 := by omega
        have n5 : ¬ 9223372036854775807 < S.size + (F xf).size + 1 + (F xt).size + 1 + (F xc).size := by omega
        have n6 : ¬ 9223372036854775807 < S.size + (F xf).size + 1 + (F xt).size + 1 + (F xc).size + 1 := by omega
        refine wp_region_quiet_below (by kernel_rfl) (by kernel_rfl) ?_
        repeat (quiet_step (exact EE _ _ _ (by assumption)))
        refine wpQuiet_nil ?_
        intro _ hw'
        obtain ⟨⟨dq, osq⟩, hw''⟩ := hw'
        have HB9 : Hid (Below (w.heap.size + 1) (w.alloc (.cells #[.int .i64 n, .slice (some ⟨b, off, none⟩) es.length cap] 24)) (grow (redrawn W0 dq) osq)) := HB0.out.trans (below_low (below_regrown W0 dq osq) hsW)
        subst hw''
        generalize grow (redrawn W0 dq) osq = W9 at HB9 ⊢
        clear g0 g1 g2 EE
        go_wp2_with fail
        go_roundw
        case rel => exact ⟨k + 1, _, by omega, by go_num, rfl, HNN.out, HB9.out⟩
        case measure => simp [intOf]; omega
      · have ek : es.take k = es := List.take_of_length_le (by omega)
        have H2 : Hid (S = ⟨sh.toArray⟩) := by
          have := HSS.out
          rw [ek, ← HS.out] at this
          exact this
        clear ek HSS
        go_wp2_with fail
        go_ret2
        exact ⟨by rw [H2.out]; rfl, box_below HB.out⟩
  · have hne : (faultE n es != 0) = true := by simpa using hf
    rw [okS_no hf]
    generalize faultE n es = fe at *
    clear hf
    go_enter Tryd.func9, Tryd.ntmps9
    go_wp2_with fail
    refine (HCK.out _ ?_).mono ?_
    · exact HR.out.below (below_alloc w _) (Nat.le_refl _)
    rintro e w1 ⟨rfl, hb1⟩
    have B1 : Hid (Below (w.heap.size + 1) (w.alloc (.cells #[.int .i64 n, .slice a es.length cap] 24)) w1) := by
      show Below _ _ _
      simpa using hb1
    clear hb1 HCK
    go_wp2_with fail
    go_ret2
    exact ⟨rfl, box_below B1.out⟩
end Go.Proofs.YtcfcpibamjgodaaDoor
