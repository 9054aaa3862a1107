/-
  For every graph: where graph.Check refuses it sheet.Show refuses it and gives no text; else what Show gives is read as the same graph (the law SheetBack returns true, and its arguments read as before). The package variables that the row lists read as their initialisers lay them, which the card ties to the text; no other condition.
-/
import Derived.Test.YtcfcpibamjgodaaDoorGraphOpen
import Derived.Test.YtcfcpibamjgodaaDoorDoorRead
import Derived.Test.YtcfcpibamjgodaaDoorSheetMath
import Derived.Test.YtcfcpibamjgodaaDoorSameGraphK
import Derived.Test.YtcfcpibamjgodaaDoorTie
import Derived.Test.YtcfcpibamjgodaaDoorCards
import Derived.WalkKit
import Derived.ProofKit
import Derived.OpenShut
import Derived.ShutString
import Derived.SizedLaws
import Derived.ChangeOld
import Derived.Below
import Derived.SevenTiedAt
namespace Go.Proofs.YtcfcpibamjgodaaDoor.sheetBack
set_option maxRecDepth 100000
open Go.ChangeShapes Go.WideShapes Go.ChangeAt Go.RowKit

theorem own : ownKnob Tryd.prog.godebug = none := by kernel_rfl
theorem laidOut : laidOutB Tryd.prog = true := by kernel_rfl
theorem rd_show (n : Int) (es : List Ed) (h : faultE n es = 0) : rdF (showL n es) = ((n, es), 0) := by
  have := show_short n es h
  rw [rdF, if_neg (by omega), guess_show n es h, if_pos ⟨h, rfl⟩]
set_option maxHeartbeats 1000000 in
set_option maxRecDepth 100000 in
theorem walk (v0 : Value) (n0 : Int) (es0 : List Ed) (w : World) (hN0 : i64B n0) (hR0 : EdR w v0 es0) (hB0 : ∀ x ∈ es0, edB x) (hL0 : es0.length * 24 ≤ 140737488351232) (hF : ReadF w) :
    Calls Tryd.prog 5 #[.agg #[.int .i64 n0, v0]] w fun e w' => e = .returned (.bool true) ∧ Below w.heap.size w w' := by
  have _u := hN0
  clear _u
  have _u := hR0
  clear _u
  have _u := hB0
  clear _u
  have _u := hL0
  clear _u
  have HR : Hid (EdR w v0 es0) := hR0
  have HF : Hid (ReadF w) := hF
  obtain ⟨a, cap, rfl⟩ := hR0.shape
  clear hR0 hB0 hF hL0 hN0
  have HSA := Lib.hid (fun X (h1 : EdR X (.slice a es0.length cap) es0) (h2 : Tab10 X.heap.size X) => show_any (.slice a es0.length cap) es0 n0 X h1 h2)
  have HCK := Lib.hid (fun X (hX : EdR X (.slice a es0.length cap) es0) => check_any (.slice a es0.length cap) es0 n0 X hX)
  by_cases hf : faultE n0 es0 = 0
  · have HRD := Lib.hid (fun X (hX : VarF X.heap.size X) => read_any ⟨(showL n0 es0).toArray⟩ X hX)
    rw [show (⟨(showL n0 es0).toArray⟩ : ByteArray).data.toList = showL n0 es0 from rfl, rd_show n0 es0 hf] at HRD
    simp only at HRD
    rw [hf, okS_yes] at HSA
    rw [hf] at HCK
    have hT : (⟨(showL n0 es0).toArray⟩ : ByteArray).toList.isEmpty = false := str_no (by rw [bytes_size]; exact show_some _ _)
    generalize (⟨(showL n0 es0).toArray⟩ : ByteArray) = T at HRD HSA hT
    clear hf
    go_enter Tryd.func5, Tryd.ntmps5
    go_wp2_with fail
    refine (HSA.out _ (HR.out.below (below_alloc _ _) (Nat.le_refl _)) ?_).mono ?_
    · exact (HF.out.tb.on (below_alloc _ _)).up (by simp)
    rintro e w1 ⟨rfl, hb1⟩
    have B1 : Hid (Below (w.heap.size + 1) (w.alloc (.cells #[.int .i64 n0, .slice a es0.length cap] 24)) w1) := by
      show Below _ _ _
      simpa using hb1
    have hs1 : w.heap.size + 1 ≤ w1.heap.size := by have := B1.out.size; simpa using this
    obtain ⟨k0, k1⟩ := gbox_cells B1.out
    clear hb1 HSA
    go_wp2_with fail
    refine (HCK.out _ (HR.out.below (box_below B1.out) (Nat.le_refl _))).mono ?_
    rintro e w2 ⟨rfl, hb2⟩
    have B2 : Hid (Below (w.heap.size + 1) (w.alloc (.cells #[.int .i64 n0, .slice a es0.length cap] 24)) w2) := B1.out.trans (below_low hb2 hs1)
    have hs2 : w.heap.size + 1 ≤ w2.heap.size := Nat.le_trans hs1 hb2.size
    clear hb2 HCK k0 k1
    go_wp2_with fail
    refine (HRD.out _ ((HF.out.on (box_below B2.out)).up (by omega))).mono ?_
    rintro e w3 ⟨v, rfl, hown, hb3⟩
    have B3 : Hid (Below (w.heap.size + 1) (w.alloc (.cells #[.int .i64 n0, .slice a es0.length cap] 24)) w3) := B2.out.trans (below_low hb3 hs2)
    have hs3 : w.heap.size + 1 ≤ w3.heap.size := Nat.le_trans hs2 hb3.size
    have GR : Hid (EdR w3 v es0) := RowK.own encE_len hown
    obtain ⟨va, vc, rfl⟩ := GR.out.shape
    obtain ⟨q0, q1⟩ := gbox_cells B3.out
    have m0 : ∀ X, (w3.alloc X).cell? ⟨w.heap.size, 0, none⟩ = some (.int .i64 n0) := fun X => ((below_alloc w3 X).cell (p := ⟨w.heap.size, 0, none⟩) (show w.heap.size < w3.heap.size by omega)).trans q0
    have m1 : ∀ X, (w3.alloc X).cell? ⟨w.heap.size, 1, none⟩ = some (.slice a es0.length cap) := fun X => ((below_alloc w3 X).cell (p := ⟨w.heap.size, 1, none⟩) (show w.heap.size < w3.heap.size by omega)).trans q1
    clear hb3 hown HRD q0 q1
    go_wp2_with fail
    refine (sameGraphK_yes _ _ es0 n0 _ (GR.out.below (below_alloc _ _) (Nat.le_refl _)) ((HR.out.below (box_below B3.out) (Nat.le_refl _)).below (below_alloc _ _) (Nat.le_refl _))).mono ?_
    rintro e w5 ⟨rfl, hb5⟩
    have B5 : Hid (Below w.heap.size w w5) := ((box_below B3.out).alloc (by omega) _).trans (hb5.mono (by simp; omega))
    clear hb5 m0 m1
    go_wp2_with fail
    go_ret
    exact ⟨ret_bool (by simp), B5.out⟩
  · have hne : (faultE n0 es0 != 0) = true := by simpa using hf
    rw [okS_no hf] at HSA
    generalize faultE n0 es0 = fe at *
    clear hf
    go_enter Tryd.func5, Tryd.ntmps5
    go_wp2_with fail
    refine (HSA.out _ (HR.out.below (below_alloc _ _) (Nat.le_refl _)) ?_).mono ?_
    · exact (HF.out.tb.on (below_alloc _ _)).up (by simp)
    rintro e w1 ⟨rfl, hb1⟩
    have B1 : Hid (Below (w.heap.size + 1) (w.alloc (.cells #[.int .i64 n0, .slice a es0.length cap] 24)) w1) := by
      show Below _ _ _
      simpa using hb1
    have hs1 : w.heap.size + 1 ≤ w1.heap.size := by have := B1.out.size; simpa using this
    obtain ⟨k0, k1⟩ := gbox_cells B1.out
    clear hb1 HSA
    go_wp2_with fail
    refine (HCK.out _ (HR.out.below (box_below B1.out) (Nat.le_refl _))).mono ?_
    rintro e w2 ⟨rfl, hb2⟩
    have B2 : Hid (Below w.heap.size w w2) := (box_below B1.out).trans (below_low hb2 (by omega))
    clear hb2 HCK k0 k1
    go_wp2_with fail
    go_ret
    exact ⟨ret_bool (by rfl), B2.out⟩

set_option maxHeartbeats 400000 in
set_option maxRecDepth 100000 in
theorem lifted (os : Os) (started : os.Started) (H : Type) (enc : TypeId × Value → H) :
    ReturnsInHanded {} Tryd.checked os 5 .any (fun w args => (Rows.sheetBackSpec.pre enc Tryd.prog Tryd.f5 Rows.sheetBackRow.domain false w args ∧ laidMetH Tryd.prog Rows.sheetBackRow.laid w) ∧ sizedMet enc Tryd.prog Tryd.f5 (OpenSpec.ofChange Rows.sheetBackSpec) false w args) (Rows.sheetBackSpec.post enc Tryd.prog Tryd.f5 false true false false) := by
  refine returns_laid (C := Tryd.checked) (X := fun w _ => laidMetH Tryd.prog Rows.sheetBackRow.laid w) (fun _ _ _ hh h => h.of_heap hh) own started (by kernel_rfl) Tryd.func5
    (ChangeSpec.witness_shaped (enc := enc) (C := Tryd.checked) (os := os) (X := fun w _ => laidMetH Tryd.prog Rows.sheetBackRow.laid w) false ((fun os => pinOn (World.doorLaid Tryd.prog 400 os)) os) #[.agg #[.int .i64 0, .slice none 0 0]] 8 rfl (World.shaped_of_RefB (by kernel_rfl) (by kernel_rfl)) (by kernel_rfl) (by kernel_rfl) (by kernel_rfl) (reads_met os _)) ?_
  intro W base args ds gs before hval0 hW _ hsz0 hsh hL _
  have hval : ∀ (j : Nat) t v, Tryd.f5.params[j]? = some t → args[j]? = some v → Value.okWide Tryd.prog W .any base t v := hval0
  have hW' := hW
  obtain ⟨p, q, hA0, hV, rfl, hfz, hnd⟩ := hW
  have hA : DataW.TrodAll enc Tryd.prog W 0 (fun _ => true) true Tryd.f5.params.toList args.toList ds p := hA0
  have hsz : (DataW.weightsEach Tryd.prog (Tryd.f5.params.toList ++ Rows.sheetBackSpec.plain.varTypes Tryd.prog) (ds ++ gs)).all (fun x => decide (x ≤ reachBytes)) = true := hsz0
  rw [Tryd.params5] at hA hval hsz
  obtain ⟨v0, vs0, d0, ds0, p0, q0, hargs, rfl, rfl, h0, r0⟩ := trodAll_cons hA
  obtain ⟨rfl, rfl, rfl⟩ := trodAll_nil r0
  obtain rfl : args = #[v0] := by cases args; simp_all
  obtain ⟨rfl, rfl⟩ := trodVars_none hV
  have k0 := h0
  have lt0 : ∀ x ∈ p0, x.block < W.heap.size := by obtain ⟨m, hm⟩ := k0; exact DataW.trod_lt m _ _ _ hm
  have hw0 : ∀ m ∈ d0.weights Tryd.prog 24, m ≤ reachBytes := fun m hm => by simpa using List.all_eq_true.1 hsz _ (DataW.weights_mem_each (j := 0) (t := 24) rfl rfl m hm)
  obtain ⟨n0, w0, es0, rfl, hN0, hR0, hB0, hL0⟩ := open_graph (okWide_struct Tryd.underlying24 (hval 0 24 v0 rfl rfl)) h0 hw0
  clear hA0 hval0
  refine (walk w0 n0 es0 W hN0 hR0 hB0 hL0 (reads_facts hL hsh)).mono fun e W' ⟨he, bel⟩ => ?_
  subst he
  exact ⟨_, rfl, _, _, _, [], _, [], hW', trodAll_mk1 (shut_bool Tryd.underlying4 _), (trodAll_cons_mk (Below.trod laidOut (by kernel_rfl) (of_decide_eq_true (by kernel_rfl)) k0 bel lt0) trodAll_mk0), rfl, bel.frame _, fun h => by cases h⟩

theorem over : Rows.sheetBackRow.holds Tryd.pinned (OpenSpec.ofChange Rows.sheetBackSpec) :=
  OpenClaim.holds_of_wide 5 Tryd.f5 rfl rfl rfl rfl rfl rfl rfl ⟨rfl, rfl, rfl, rfl, rfl⟩ rfl rfl rfl rfl rfl (by kernel_rfl) Tryd.func5 (by kernel_rfl)
    (of_decide_eq_true (by kernel_rfl)) (by unfold Func.isWrapper; first | (rw [if_pos (by decide +kernel)]; kernel_rfl) | (rw [if_neg (by decide +kernel)]; exact ⟨rfl, rfl⟩))
    (fun os started H enc _ => lifted os started H enc)

/-- The card: what the row lists is tied to the program's text. -/
theorem proved : Rows.SheetBackCardSaid :=
  Claim7.holds_tied_plain_at .later [] [.data, .data, .data, .data, .sentinel, .sentinel, .pinned] true (true, "ed02e2edf97d958f1413a12dbe51e0fdd6c14526bda421a345c5d9acb51b836f") true
    over (fun _ h => by cases h) (by kernel_rfl) (fun _ h => by cases h) sheetBack_row_tie rfl ⟨rfl, rfl⟩ (by kernel_rfl) rfl
    (fun f fn hf hfn => by
      obtain rfl : f = 5 := Option.some.inj ((show Tryd.prog.funcNamed Rows.sheetBackRow.func = some 5 by kernel_rfl).symm.trans hf) |>.symm
      obtain rfl : fn = Tryd.f5 := (Option.some.inj (Tryd.func5.symm.trans hfn)).symm
      exact ⟨by kernel_rfl, fun j t ht => by
        rw [Tryd.params5] at ht
        have h3 : t = 24 := by
          rcases j with _ | j
          · simpa using ht.symm
          · simp at ht
        subst h3
        exact (show Tryd.prog.wantsStandIn 24 = false by kernel_rfl)⟩)
    (by kernel_rfl)
#print axioms proved
end Go.Proofs.YtcfcpibamjgodaaDoor.sheetBack
