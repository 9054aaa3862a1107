/-
  For every text sheet.Read answers what P5.2 says (the law SheetReads returns true, and its arguments read as before). The package variables that the row lists read as their initialisers lay them, which the card ties to the text; no other condition.
-/
import Derived.Test.YtcfcpibamjgodaaDoorDoorRead
import Derived.Test.YtcfcpibamjgodaaDoorRefRead
import Derived.Test.YtcfcpibamjgodaaDoorSameGraph
import Derived.Test.YtcfcpibamjgodaaDoorTie
import Derived.Test.YtcfcpibamjgodaaDoorCards
import Derived.WalkKit
import Derived.ProofKit
import Derived.OpenShut
import Derived.ShutString
import Derived.SizedLaws
import Derived.ChangeOld
import Derived.Below
import Derived.SevenTiedAt
namespace Go.Proofs.YtcfcpibamjgodaaDoor.sheetReads
set_option maxRecDepth 100000
open Go.ChangeShapes Go.WideShapes Go.ChangeAt Go.RowKit

theorem own : ownKnob Tryd.prog.godebug = none := by kernel_rfl
theorem laidOut : laidOutB Tryd.prog = true := by kernel_rfl

set_option maxHeartbeats 1000000 in
set_option maxRecDepth 100000 in
theorem walk (s0 : ByteArray) (w : World) (hS0 : s0.size ≤ maxLen) (hF : ReadF w) :
    Calls Tryd.prog 4 #[.string s0] w fun e w' => e = .returned (.bool true) ∧ Below w.heap.size w w' := by
  have _u := hS0
  clear _u
  have HF : Hid (ReadF w) := hF
  have HRD : Hid (∀ X, VarF X.heap.size X → Calls Tryd.prog 11 #[.string s0] X fun e w' => ∃ v, e = .returned (.tuple #[.agg #[.int .i64 (rdF s0.data.toList).1.1, v], .int .i64 (rdF s0.data.toList).2]) ∧
      w'.ownsRow X.heap.size 48 3 v (rdF s0.data.toList).1.2.length ((rdF s0.data.toList).1.2.flatMap encE) ∧ Below X.heap.size X w') := fun X hX => read_any s0 X hX
  have HRF : Hid (∀ X, Calls Tryd.prog 12 #[.string s0] X fun e w' => ∃ v, e = .returned (.tuple #[.agg #[.int .i64 (rdF s0.data.toList).1.1, v], .int .i64 (rdF s0.data.toList).2]) ∧
      w'.ownsRow X.heap.size 48 3 v (rdF s0.data.toList).1.2.length ((rdF s0.data.toList).1.2.flatMap encE) ∧ Below X.heap.size X w') := fun X => by
    refine (graphRead_any s0 X).mono ?_
    rintro e w' ⟨n, es, v, f, rfl, hP, hown, hb⟩
    rw [rd_uniq hP]
    exact ⟨v, rfl, hown, hb⟩
  clear hF hS0
  generalize rdF s0.data.toList = G at HRD HRF
  obtain ⟨⟨n, es⟩, f⟩ := G
  simp only at HRD HRF
  have hff : (f == f) = true := by simp
  go_enter Tryd.func4, Tryd.ntmps4
  go_wp2_with fail
  refine (HRD.out _ HF.out).mono ?_
  rintro e w1 ⟨v, rfl, hown, hb1⟩
  have HB1 : Hid (Below w.heap.size w w1) := hb1
  have GR : Hid (EdR w1 v es) := RowK.own encE_len hown
  obtain ⟨va, vc, rfl⟩ := GR.out.shape
  clear hb1 hown HRD
  go_wp2_with fail
  refine (HRF.out _).mono ?_
  rintro e w2 ⟨v, rfl, hown, hb2⟩
  have B2 : Hid (Below (w1.heap.size + 1) (w1.alloc (.cells #[.int .i64 n, .slice va es.length vc] 24)) w2) := by
    show Below _ _ _
    simpa using hb2
  have GR2 : Hid (EdR w2 v es) := RowK.own encE_len hown
  obtain ⟨vb, vd, rfl⟩ := GR2.out.shape
  have hs2 : w1.heap.size + 1 ≤ w2.heap.size := by have := B2.out.size; simpa using this
  obtain ⟨q0, q1⟩ := gbox_cells B2.out
  have m0 : ∀ X, (w2.alloc X).cell? ⟨w1.heap.size, 0, none⟩ = some (.int .i64 n) := fun X => ((below_alloc w2 X).cell (p := ⟨w1.heap.size, 0, none⟩) (show w1.heap.size < w2.heap.size by omega)).trans q0
  have m1 : ∀ X, (w2.alloc X).cell? ⟨w1.heap.size, 1, none⟩ = some (.slice va es.length vc) := fun X => ((below_alloc w2 X).cell (p := ⟨w1.heap.size, 1, none⟩) (show w1.heap.size < w2.heap.size by omega)).trans q1
  clear hb2 hown HRF q0 q1
  go_wp2_with fail
  refine (sameGraph_yes _ _ es n _ ((GR.out.below (box_below B2.out) (Nat.le_refl _)).below (below_alloc _ _) (Nat.le_refl _)) (GR2.out.below (below_alloc _ _) (Nat.le_refl _))).mono ?_
  rintro e w3 ⟨rfl, hb3⟩
  have B3 : Hid (Below w.heap.size w w3) := by
    have h1 := HB1.out.size
    exact ((HB1.out.trans (below_low (box_below B2.out) h1)).alloc (by omega) _).trans (hb3.mono (by simp; omega))
  clear hb3 m0 m1
  go_wp2_with fail
  go_ret
  exact ⟨ret_bool (by simp), B3.out⟩

set_option maxHeartbeats 400000 in
set_option maxRecDepth 100000 in
theorem lifted (os : Os) (started : os.Started) (H : Type) (enc : TypeId × Value → H) :
    ReturnsInHanded {} Tryd.checked os 4 .any (fun w args => (Rows.sheetReadsSpec.pre enc Tryd.prog Tryd.f4 Rows.sheetReadsRow.domain false w args ∧ laidMetH Tryd.prog Rows.sheetReadsRow.laid w) ∧ sizedMet enc Tryd.prog Tryd.f4 (OpenSpec.ofChange Rows.sheetReadsSpec) false w args) (Rows.sheetReadsSpec.post enc Tryd.prog Tryd.f4 false true false false) := by
  refine returns_laid (C := Tryd.checked) (X := fun w _ => laidMetH Tryd.prog Rows.sheetReadsRow.laid w) (fun _ _ _ hh h => h.of_heap hh) own started (by kernel_rfl) Tryd.func4
    (ChangeSpec.witness_shaped (enc := enc) (C := Tryd.checked) (os := os) (X := fun w _ => laidMetH Tryd.prog Rows.sheetReadsRow.laid w) false ((fun os => pinOn (World.doorLaid Tryd.prog 400 os)) os) #[.string ByteArray.empty] 8 rfl (World.shaped_of_RefB (by kernel_rfl) (by kernel_rfl)) (by kernel_rfl) (by kernel_rfl) (by kernel_rfl) (reads_met os _)) ?_
  intro W base args ds gs before hval0 hW _ hsz0 hsh hL _
  have hval : ∀ (j : Nat) t v, Tryd.f4.params[j]? = some t → args[j]? = some v → Value.okWide Tryd.prog W .any base t v := hval0
  have hW' := hW
  obtain ⟨p, q, hA0, hV, rfl, hfz, hnd⟩ := hW
  have hA : DataW.TrodAll enc Tryd.prog W 0 (fun _ => true) true Tryd.f4.params.toList args.toList ds p := hA0
  have hsz : (DataW.weightsEach Tryd.prog (Tryd.f4.params.toList ++ Rows.sheetReadsSpec.plain.varTypes Tryd.prog) (ds ++ gs)).all (fun x => decide (x ≤ reachBytes)) = true := hsz0
  rw [Tryd.params4] at hA hval hsz
  obtain ⟨v0, vs0, d0, ds0, p0, q0, hargs, rfl, rfl, h0, r0⟩ := trodAll_cons hA
  obtain ⟨rfl, rfl, rfl⟩ := trodAll_nil r0
  obtain rfl : args = #[v0] := by cases args; simp_all
  obtain ⟨rfl, rfl⟩ := trodVars_none hV
  have k0 := h0
  have lt0 : ∀ x ∈ p0, x.block < W.heap.size := by obtain ⟨m, hm⟩ := k0; exact DataW.trod_lt m _ _ _ hm
  obtain ⟨s0, rfl, _, _, hS0⟩ := Go.ChangeMaps.open_string Tryd.underlying9 (hval 0 9 v0 rfl rfl) h0
  clear hA0 hval0
  refine (walk s0 W hS0 (reads_facts hL hsh)).mono fun e W' ⟨he, bel⟩ => ?_
  subst he
  exact ⟨_, rfl, _, _, _, [], _, [], hW', trodAll_mk1 (shut_bool Tryd.underlying4 _), (trodAll_cons_mk (Below.trod laidOut (by kernel_rfl) (of_decide_eq_true (by kernel_rfl)) k0 bel lt0) trodAll_mk0), rfl, bel.frame _, fun h => by cases h⟩

theorem over : Rows.sheetReadsRow.holds Tryd.pinned (OpenSpec.ofChange Rows.sheetReadsSpec) :=
  OpenClaim.holds_of_wide 4 Tryd.f4 rfl rfl rfl rfl rfl rfl rfl ⟨rfl, rfl, rfl, rfl, rfl⟩ rfl rfl rfl rfl rfl (by kernel_rfl) Tryd.func4 (by kernel_rfl)
    (of_decide_eq_true (by kernel_rfl)) (by unfold Func.isWrapper; first | (rw [if_pos (by decide +kernel)]; kernel_rfl) | (rw [if_neg (by decide +kernel)]; exact ⟨rfl, rfl⟩))
    (fun os started H enc _ => lifted os started H enc)

/-- The card: what the row lists is tied to the program's text. -/
theorem proved : Rows.SheetReadsCardSaid :=
  Claim7.holds_tied_plain_at .later [] [.data, .data, .data, .data, .sentinel, .sentinel, .pinned] true (true, "ed02e2edf97d958f1413a12dbe51e0fdd6c14526bda421a345c5d9acb51b836f") true
    over (fun _ h => by cases h) (by kernel_rfl) (fun _ h => by cases h) sheetReads_row_tie rfl ⟨rfl, rfl⟩ (by kernel_rfl) rfl
    (fun f fn hf hfn => by
      obtain rfl : f = 4 := Option.some.inj ((show Tryd.prog.funcNamed Rows.sheetReadsRow.func = some 4 by kernel_rfl).symm.trans hf) |>.symm
      obtain rfl : fn = Tryd.f4 := (Option.some.inj (Tryd.func4.symm.trans hfn)).symm
      exact ⟨by kernel_rfl, fun j t ht => by
        rw [Tryd.params4] at ht
        have h3 : t = 9 := by
          rcases j with _ | j
          · simpa using ht.symm
          · simp at ht
        subst h3
        exact (show Tryd.prog.wantsStandIn 9 = false by kernel_rfl)⟩)
    (by kernel_rfl)
#print axioms proved
end Go.Proofs.YtcfcpibamjgodaaDoor.sheetReads
