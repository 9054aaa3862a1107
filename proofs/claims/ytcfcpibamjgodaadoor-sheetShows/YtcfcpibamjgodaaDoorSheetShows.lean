/-
  For every graph sheet.Show answers what P5.1 says and leaves its argument alone (the law SheetShows returns true, and its arguments read as before). The package variables that the row lists read as their initialisers lay them, which the card ties to the text; no other condition.
-/
import Derived.Test.YtcfcpibamjgodaaDoorGraphOpen
import Derived.Test.YtcfcpibamjgodaaDoorShowWalk
import Derived.Test.YtcfcpibamjgodaaDoorRefShow
import Derived.Test.YtcfcpibamjgodaaDoorGraphCopy
import Derived.Test.YtcfcpibamjgodaaDoorSameGraph
import Derived.Test.YtcfcpibamjgodaaDoorDoorLib
import Derived.Test.YtcfcpibamjgodaaDoorTie
import Derived.Test.YtcfcpibamjgodaaDoorCards
import Derived.WalkKit
import Derived.ProofKit
import Derived.OpenShut
import Derived.ShutString
import Derived.SizedLaws
import Derived.ChangeOld
import Derived.Below
import Derived.SevenTiedAt
namespace Go.Proofs.YtcfcpibamjgodaaDoor.sheetShows
set_option maxRecDepth 100000
open Go.ChangeShapes Go.WideShapes Go.ChangeAt Go.RowKit

theorem own : ownKnob Tryd.prog.godebug = none := by kernel_rfl
theorem laidOut : laidOutB Tryd.prog = true := by kernel_rfl

set_option maxHeartbeats 1000000 in
set_option maxRecDepth 100000 in
theorem walk (v0 : Value) (n0 : Int) (es0 : List Ed) (w : World) (hN0 : i64B n0) (hR0 : EdR w v0 es0) (hB0 : ∀ x ∈ es0, edB x) (hL0 : es0.length * 24 ≤ 140737488351232) (hF : TabF w) :
    Calls Tryd.prog 3 #[.agg #[.int .i64 n0, v0]] w fun e w' => e = .returned (.bool true) ∧ Below w.heap.size w w' := by
  have _u := hN0
  clear _u
  have _u := hR0
  clear _u
  have _u := hB0
  clear _u
  have _u := hL0
  clear _u
  have HR : Hid (EdR w v0 es0) := hR0
  have HF : Hid (TabF w) := hF
  obtain ⟨a, cap, rfl⟩ := hR0.shape
  clear hR0 hB0 hF
  go_enter Tryd.func3, Tryd.ntmps3
  go_wp2_with fail
  refine (graphs_any _ es0 n0 _ ?_ hL0).mono ?_
  · exact HR.out.below (below_alloc _ _) (Nat.le_refl _)
  rintro e w1 ⟨c, rfl, hc, hb1⟩
  have B1 : Hid (Below (w.heap.size + 1) (w.alloc (.cells #[.int .i64 n0, .slice a es0.length cap] 24)) w1) := by
    show Below _ _ _
    simpa using hb1
  have C1 : Hid (EdR w1 c es0) := hc
  obtain ⟨ca, cc, rfl⟩ := hc.shape
  have hs1 : w.heap.size + 1 ≤ w1.heap.size := by have := B1.out.size; simpa using this
  clear hb1 hc
  go_wp2_with fail
  refine (show_any _ es0 n0 _ ?_ ?_).mono ?_
  · exact C1.out.below (below_alloc _ _) (Nat.le_refl _)
  · exact ((HF.out.on (box_below B1.out)).on (((Below.refl _ _).alloc (by omega) _))).up (by simp; omega)
  have HC2 : Hid (∀ X, EdR X (.slice a es0.length cap) es0 → Calls Tryd.prog 9 #[.agg #[.int .i64 n0, .slice a es0.length cap]] X fun e w' => e = .returned (.tuple #[.string ⟨(okS (faultE n0 es0) (showL n0 es0)).toArray⟩, .int .i64 (faultE n0 es0)]) ∧ Below X.heap.size X w') := fun X hX => shown_any _ es0 n0 X hX
  generalize (⟨(okS (faultE n0 es0) (showL n0 es0)).toArray⟩ : ByteArray) = T at *
  generalize faultE n0 es0 = q at *
  rintro e w2 ⟨rfl, hb2⟩
  have B2 : Hid (Below (w1.heap.size + 1) (w1.alloc (.cells #[.int .i64 n0, .slice ca es0.length cc] 24)) w2) := by
    show Below _ _ _
    simpa using hb2
  have G2 : Hid (Below w.heap.size w w2) := (box_below B1.out).trans ((box_below B2.out).mono (by omega))
  have BB2 : Hid (Below (w.heap.size + 1) (w.alloc (.cells #[.int .i64 n0, .slice a es0.length cap] 24)) w2) := B1.out.trans ((box_below B2.out).mono hs1)
  have hs2 : w1.heap.size + 1 ≤ w2.heap.size := by have := B2.out.size; simpa using this
  obtain ⟨j0, j1⟩ := gbox_cells BB2.out
  clear hb2
  go_wp2_with fail
  refine (HC2.out _ (HR.out.below G2.out (Nat.le_refl _))).mono ?_
  rintro e w3 ⟨rfl, hb3⟩
  have G3 : Hid (Below w2.heap.size w2 w3) := hb3
  have F3 : Hid (Below w.heap.size w w3) := G2.out.trans (G3.out.mono (by omega))
  have QC : Hid (EdR w3 (.slice ca es0.length cc) es0) := (C1.out.below (box_below B2.out) (Nat.le_refl _)).below G3.out (Nat.le_refl _)
  have QG : Hid (EdR w3 (.slice a es0.length cap) es0) := (HR.out.below G2.out (Nat.le_refl _)).below G3.out (Nat.le_refl _)
  obtain ⟨k2', k3'⟩ := gbox_cells B2.out
  have k2 : w3.cell? ⟨w1.heap.size, 0, none⟩ = some (.int .i64 n0) := (G3.out.cell (p := ⟨w1.heap.size, 0, none⟩) (show w1.heap.size < w2.heap.size by omega)).trans k2'
  have k3 : w3.cell? ⟨w1.heap.size, 1, none⟩ = some (.slice ca es0.length cc) := (G3.out.cell (p := ⟨w1.heap.size, 1, none⟩) (show w1.heap.size < w2.heap.size by omega)).trans k3'
  have k4 : w3.cell? ⟨w.heap.size, 0, none⟩ = some (.int .i64 n0) := (G3.out.cell (p := ⟨w.heap.size, 0, none⟩) (show w.heap.size < w2.heap.size by omega)).trans j0
  have k5 : w3.cell? ⟨w.heap.size, 1, none⟩ = some (.slice a es0.length cap) := (G3.out.cell (p := ⟨w.heap.size, 1, none⟩) (show w.heap.size < w2.heap.size by omega)).trans j1
  have hq : (q == q) = true := by simp
  clear hb3 k2' k3' j0 j1 HC2 HF
  go_wp2_with fail
  refine (sameGraph_yes _ _ es0 n0 _ QC.out QG.out).mono ?_
  rintro e w5 ⟨rfl, hb5⟩
  have B5 : Hid (Below w.heap.size w w5) := F3.out.trans (hb5.mono F3.out.size)
  clear hb5
  go_wp2_with fail
  go_ret
  exact ⟨ret_bool (by simp), B5.out⟩

set_option maxHeartbeats 400000 in
set_option maxRecDepth 100000 in
theorem lifted (os : Os) (started : os.Started) (H : Type) (enc : TypeId × Value → H) :
    ReturnsInHanded {} Tryd.checked os 3 .any (fun w args => (Rows.sheetShowsSpec.pre enc Tryd.prog Tryd.f3 Rows.sheetShowsRow.domain false w args ∧ laidMetH Tryd.prog Rows.sheetShowsRow.laid w) ∧ sizedMet enc Tryd.prog Tryd.f3 (OpenSpec.ofChange Rows.sheetShowsSpec) false w args) (Rows.sheetShowsSpec.post enc Tryd.prog Tryd.f3 false true false false) := by
  refine returns_laid (C := Tryd.checked) (X := fun w _ => laidMetH Tryd.prog Rows.sheetShowsRow.laid w) (fun _ _ _ hh h => h.of_heap hh) own started (by kernel_rfl) Tryd.func3
    (ChangeSpec.witness_shaped (enc := enc) (C := Tryd.checked) (os := os) (X := fun w _ => laidMetH Tryd.prog Rows.sheetShowsRow.laid w) false (World.doorLaid Tryd.prog 400 os) #[.agg #[.int .i64 0, .slice none 0 0]] 8 rfl (World.shaped_of_RefB (by kernel_rfl) (by kernel_rfl)) (by kernel_rfl) (by kernel_rfl) (by kernel_rfl) (shows_met os _)) ?_
  intro W base args ds gs before hval0 hW _ hsz0 hsh hL _
  have hval : ∀ (j : Nat) t v, Tryd.f3.params[j]? = some t → args[j]? = some v → Value.okWide Tryd.prog W .any base t v := hval0
  have hW' := hW
  obtain ⟨p, q, hA0, hV, rfl, hfz, hnd⟩ := hW
  have hA : DataW.TrodAll enc Tryd.prog W 0 (fun _ => true) true Tryd.f3.params.toList args.toList ds p := hA0
  have hsz : (DataW.weightsEach Tryd.prog (Tryd.f3.params.toList ++ Rows.sheetShowsSpec.plain.varTypes Tryd.prog) (ds ++ gs)).all (fun x => decide (x ≤ reachBytes)) = true := hsz0
  rw [Tryd.params3] at hA hval hsz
  obtain ⟨v0, vs0, d0, ds0, p0, q0, hargs, rfl, rfl, h0, r0⟩ := trodAll_cons hA
  obtain ⟨rfl, rfl, rfl⟩ := trodAll_nil r0
  obtain rfl : args = #[v0] := by cases args; simp_all
  obtain ⟨rfl, rfl⟩ := trodVars_none hV
  have k0 := h0
  have lt0 : ∀ x ∈ p0, x.block < W.heap.size := by obtain ⟨m, hm⟩ := k0; exact DataW.trod_lt m _ _ _ hm
  have hw0 : ∀ m ∈ d0.weights Tryd.prog 24, m ≤ reachBytes := fun m hm => by simpa using List.all_eq_true.1 hsz _ (DataW.weights_mem_each (j := 0) (t := 24) rfl rfl m hm)
  obtain ⟨n0, w0, es0, rfl, hN0, hR0, hB0, hL0⟩ := open_graph (okWide_struct Tryd.underlying24 (hval 0 24 v0 rfl rfl)) h0 hw0
  clear hA0 hval0
  refine (walk w0 n0 es0 W hN0 hR0 hB0 hL0 (shows_facts hL hsh)).mono fun e W' ⟨he, bel⟩ => ?_
  subst he
  exact ⟨_, rfl, _, _, _, [], _, [], hW', trodAll_mk1 (shut_bool Tryd.underlying4 _), (trodAll_cons_mk (Below.trod laidOut (by kernel_rfl) (of_decide_eq_true (by kernel_rfl)) k0 bel lt0) trodAll_mk0), rfl, bel.frame _, fun h => by cases h⟩

theorem over : Rows.sheetShowsRow.holds Tryd.pinned (OpenSpec.ofChange Rows.sheetShowsSpec) :=
  OpenClaim.holds_of_wide 3 Tryd.f3 rfl rfl rfl rfl rfl rfl rfl ⟨rfl, rfl, rfl, rfl, rfl⟩ rfl rfl rfl rfl rfl (by kernel_rfl) Tryd.func3 (by kernel_rfl)
    (of_decide_eq_true (by kernel_rfl)) (by unfold Func.isWrapper; first | (rw [if_pos (by decide +kernel)]; kernel_rfl) | (rw [if_neg (by decide +kernel)]; exact ⟨rfl, rfl⟩))
    (fun os started H enc _ => lifted os started H enc)

/-- The card: what the row lists is tied to the program's text. -/
theorem proved : Rows.SheetShowsCardSaid :=
  Claim7.holds_tied_plain_at .later [] [.data, .data, .data] true (true, "ed02e2edf97d958f1413a12dbe51e0fdd6c14526bda421a345c5d9acb51b836f") true
    over (fun _ h => by cases h) (by kernel_rfl) (fun _ h => by cases h) sheetShows_row_tie rfl ⟨rfl, rfl⟩ (by kernel_rfl) rfl
    (fun f fn hf hfn => by
      obtain rfl : f = 3 := Option.some.inj ((show Tryd.prog.funcNamed Rows.sheetShowsRow.func = some 3 by kernel_rfl).symm.trans hf) |>.symm
      obtain rfl : fn = Tryd.f3 := (Option.some.inj (Tryd.func3.symm.trans hfn)).symm
      exact ⟨by kernel_rfl, fun j t ht => by
        rw [Tryd.params3] at ht
        have h3 : t = 24 := by
          rcases j with _ | j
          · simpa using ht.symm
          · simp at ht
        subst h3
        exact (show Tryd.prog.wantsStandIn 24 = false by kernel_rfl)⟩)
    (by kernel_rfl)
#print axioms proved
end Go.Proofs.YtcfcpibamjgodaaDoor.sheetShows
