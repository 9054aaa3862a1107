/-
  For every text: where sheet.Read refuses it, it hands back no graph; else sheet.Show gives this very text for the graph that was read (the law SheetFixed returns true, and its arguments read as before). The package variables that the row lists read as their initialisers lay them, which the card ties to the text; no other condition.
-/
import Derived.Test.YtcfcpibamjgodaaDoorDoorRead
import Derived.Test.YtcfcpibamjgodaaDoorTie
import Derived.Test.YtcfcpibamjgodaaDoorCards
import Derived.WalkKit
import Derived.ProofKit
import Derived.OpenShut
import Derived.ShutString
import Derived.SizedLaws
import Derived.ChangeOld
import Derived.Below
import Derived.SevenTiedAt
namespace Go.Proofs.YtcfcpibamjgodaaDoor.sheetFixed
set_option maxRecDepth 100000
open Go.ChangeShapes Go.WideShapes Go.ChangeAt Go.RowKit

theorem own : ownKnob Tryd.prog.godebug = none := by kernel_rfl
theorem laidOut : laidOutB Tryd.prog = true := by kernel_rfl
theorem rd_cases (L : List UInt8) : (∃ f, f ≠ 0 ∧ rdF L = ((0, []), f)) ∨ ∃ n es, rdF L = ((n, es), 0) ∧ faultE n es = 0 ∧ showL n es = L := by
  unfold rdF
  split
  · exact .inl ⟨1, by decide, rfl⟩
  · split
    · rename_i h
      exact .inr ⟨_, _, rfl, h.1, h.2⟩
    · exact .inl ⟨3, by decide, rfl⟩
set_option maxHeartbeats 1000000 in
set_option maxRecDepth 100000 in
theorem walk (s0 : ByteArray) (w : World) (hS0 : s0.size ≤ maxLen) (hF : ReadF w) :
    Calls Tryd.prog 6 #[.string s0] w fun e w' => e = .returned (.bool true) ∧ Below w.heap.size w w' := by
  have _u := hS0
  clear _u
  have HF : Hid (ReadF w) := hF
  have HRD : Hid (∀ X, VarF X.heap.size X → Calls Tryd.prog 11 #[.string s0] X fun e w' => ∃ v, e = .returned (.tuple #[.agg #[.int .i64 (rdF s0.data.toList).1.1, v], .int .i64 (rdF s0.data.toList).2]) ∧
      w'.ownsRow X.heap.size 48 3 v (rdF s0.data.toList).1.2.length ((rdF s0.data.toList).1.2.flatMap encE) ∧ Below X.heap.size X w') := fun X hX => read_any s0 X hX
  clear hF hS0
  rcases rd_cases s0.data.toList with ⟨f, hf, e1⟩ | ⟨n, es, e1, hf, hsh⟩
  · rw [e1] at HRD
    simp only at HRD
    have hne : (f != 0) = true := by simpa using hf
    clear hf e1
    go_enter Tryd.func6, Tryd.ntmps6
    go_wp2_with fail
    refine (HRD.out _ HF.out).mono ?_
    rintro e w1 ⟨v, rfl, hown, hb1⟩
    have hv : v = .slice none 0 0 ∨ ∃ g c, v = .slice (some ⟨g, 0, none⟩) 0 c := by
      rcases hown.2 with ⟨e, _⟩ | ⟨g, cap, cur, e, _⟩
      · exact .inl e
      · exact .inr ⟨g, cap, e⟩
    obtain ⟨va, vc, rfl⟩ : ∃ a c, v = .slice a 0 c := by
      rcases hv with rfl | ⟨g, c, rfl⟩
      · exact ⟨_, _, rfl⟩
      · exact ⟨_, _, rfl⟩
    have HB1 : Hid (Below w.heap.size w w1) := hb1
    clear hb1 hown hv HRD
    go_wp2_with fail
    go_ret
    exact ⟨rfl, HB1.out.alloc HB1.out.size _⟩
  · rw [e1] at HRD
    simp only at HRD
    have HSA := Lib.hid (fun v X (h1 : EdR X v es) (h2 : Tab10 X.heap.size X) => show_any v es n X h1 h2)
    rw [hf, okS_yes, hsh, arr_list] at HSA
    have hcmp : (s0.toList == s0.toList) = true := str_same rfl
    clear hf hsh e1
    go_enter Tryd.func6, Tryd.ntmps6
    go_wp2_with fail
    refine (HRD.out _ HF.out).mono ?_
    rintro e w1 ⟨v, rfl, hown, hb1⟩
    have HB1 : Hid (Below w.heap.size w w1) := hb1
    have GR : Hid (EdR w1 v es) := RowK.own encE_len hown
    obtain ⟨va, vc, rfl⟩ := GR.out.shape
    have HSH := Lib.hid (HSA.out (.slice va es.length vc))
    clear hb1 hown HRD HSA
    go_wp2_with fail
    refine (HSH.out _ (GR.out.below (below_alloc _ _) (Nat.le_refl _)) ?_).mono ?_
    · exact ((HF.out.tb.on HB1.out).on ((Below.refl _ _).alloc HB1.out.size _)).up (by have := HB1.out.size; simp; omega)
    rintro e w2 ⟨rfl, hb2⟩
    have HB2 : Hid (Below w.heap.size w w2) := (HB1.out.alloc HB1.out.size _).trans (below_low hb2 (by have := HB1.out.size; simp; omega))
    clear hb2 HSH
    go_wp2_with fail
    go_ret
    exact ⟨ret_bool (by simp), HB2.out⟩

set_option maxHeartbeats 400000 in
set_option maxRecDepth 100000 in
theorem lifted (os : Os) (started : os.Started) (H : Type) (enc : TypeId × Value → H) :
    ReturnsInHanded {} Tryd.checked os 6 .any (fun w args => (Rows.sheetFixedSpec.pre enc Tryd.prog Tryd.f6 Rows.sheetFixedRow.domain false w args ∧ laidMetH Tryd.prog Rows.sheetFixedRow.laid w) ∧ sizedMet enc Tryd.prog Tryd.f6 (OpenSpec.ofChange Rows.sheetFixedSpec) false w args) (Rows.sheetFixedSpec.post enc Tryd.prog Tryd.f6 false true false false) := by
  refine returns_laid (C := Tryd.checked) (X := fun w _ => laidMetH Tryd.prog Rows.sheetFixedRow.laid w) (fun _ _ _ hh h => h.of_heap hh) own started (by kernel_rfl) Tryd.func6
    (ChangeSpec.witness_shaped (enc := enc) (C := Tryd.checked) (os := os) (X := fun w _ => laidMetH Tryd.prog Rows.sheetFixedRow.laid w) false ((fun os => pinOn (World.doorLaid Tryd.prog 400 os)) os) #[.string ByteArray.empty] 8 rfl (World.shaped_of_RefB (by kernel_rfl) (by kernel_rfl)) (by kernel_rfl) (by kernel_rfl) (by kernel_rfl) (reads_met os _)) ?_
  intro W base args ds gs before hval0 hW _ hsz0 hsh hL _
  have hval : ∀ (j : Nat) t v, Tryd.f6.params[j]? = some t → args[j]? = some v → Value.okWide Tryd.prog W .any base t v := hval0
  have hW' := hW
  obtain ⟨p, q, hA0, hV, rfl, hfz, hnd⟩ := hW
  have hA : DataW.TrodAll enc Tryd.prog W 0 (fun _ => true) true Tryd.f6.params.toList args.toList ds p := hA0
  have hsz : (DataW.weightsEach Tryd.prog (Tryd.f6.params.toList ++ Rows.sheetFixedSpec.plain.varTypes Tryd.prog) (ds ++ gs)).all (fun x => decide (x ≤ reachBytes)) = true := hsz0
  rw [Tryd.params6] at hA hval hsz
  obtain ⟨v0, vs0, d0, ds0, p0, q0, hargs, rfl, rfl, h0, r0⟩ := trodAll_cons hA
  obtain ⟨rfl, rfl, rfl⟩ := trodAll_nil r0
  obtain rfl : args = #[v0] := by cases args; simp_all
  obtain ⟨rfl, rfl⟩ := trodVars_none hV
  have k0 := h0
  have lt0 : ∀ x ∈ p0, x.block < W.heap.size := by obtain ⟨m, hm⟩ := k0; exact DataW.trod_lt m _ _ _ hm
  obtain ⟨s0, rfl, _, _, hS0⟩ := Go.ChangeMaps.open_string Tryd.underlying9 (hval 0 9 v0 rfl rfl) h0
  clear hA0 hval0
  refine (walk s0 W hS0 (reads_facts hL hsh)).mono fun e W' ⟨he, bel⟩ => ?_
  subst he
  exact ⟨_, rfl, _, _, _, [], _, [], hW', trodAll_mk1 (shut_bool Tryd.underlying4 _), (trodAll_cons_mk (Below.trod laidOut (by kernel_rfl) (of_decide_eq_true (by kernel_rfl)) k0 bel lt0) trodAll_mk0), rfl, bel.frame _, fun h => by cases h⟩

theorem over : Rows.sheetFixedRow.holds Tryd.pinned (OpenSpec.ofChange Rows.sheetFixedSpec) :=
  OpenClaim.holds_of_wide 6 Tryd.f6 rfl rfl rfl rfl rfl rfl rfl ⟨rfl, rfl, rfl, rfl, rfl⟩ rfl rfl rfl rfl rfl (by kernel_rfl) Tryd.func6 (by kernel_rfl)
    (of_decide_eq_true (by kernel_rfl)) (by unfold Func.isWrapper; first | (rw [if_pos (by decide +kernel)]; kernel_rfl) | (rw [if_neg (by decide +kernel)]; exact ⟨rfl, rfl⟩))
    (fun os started H enc _ => lifted os started H enc)

/-- The card: what the row lists is tied to the program's text. -/
theorem proved : Rows.SheetFixedCardSaid :=
  Claim7.holds_tied_plain_at .later [] [.data, .data, .data, .data, .sentinel, .sentinel, .pinned] true (true, "ed02e2edf97d958f1413a12dbe51e0fdd6c14526bda421a345c5d9acb51b836f") true
    over (fun _ h => by cases h) (by kernel_rfl) (fun _ h => by cases h) sheetFixed_row_tie rfl ⟨rfl, rfl⟩ (by kernel_rfl) rfl
    (fun f fn hf hfn => by
      obtain rfl : f = 6 := Option.some.inj ((show Tryd.prog.funcNamed Rows.sheetFixedRow.func = some 6 by kernel_rfl).symm.trans hf) |>.symm
      obtain rfl : fn = Tryd.f6 := (Option.some.inj (Tryd.func6.symm.trans hfn)).symm
      exact ⟨by kernel_rfl, fun j t ht => by
        rw [Tryd.params6] at ht
        have h3 : t = 9 := by
          rcases j with _ | j
          · simpa using ht.symm
          · simp at ht
        subst h3
        exact (show Tryd.prog.wantsStandIn 9 = false by kernel_rfl)⟩)
    (by kernel_rfl)
#print axioms proved
end Go.Proofs.YtcfcpibamjgodaaDoor.sheetFixed
