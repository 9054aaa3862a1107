/-
  For every list of moves play.Show answers what P17.3 says and leaves its argument alone (the law PlayShows returns true, and its arguments read as before). The package variables that the row lists read as their initialisers lay them, which the card ties to the text; no other condition.
-/
import Derived.Test.YtdeghndcglgfkaaDoorPlayDoor
import Derived.Test.YtdeghndcglgfkaaDoorPlayShow
import Derived.Test.YtdeghndcglgfkaaDoorRefShown
import Derived.Test.YtdeghndcglgfkaaDoorMoveCopy
import Derived.Test.YtdeghndcglgfkaaDoorTie
import Derived.Test.YtdeghndcglgfkaaDoorCards
import Derived.WalkKit
import Derived.ProofKit
import Derived.OpenShut
import Derived.ShutString
import Derived.SizedLaws
import Derived.ChangeOld
import Derived.Below
import Derived.SevenTiedAt
namespace Go.Proofs.YtdeghndcglgfkaaDoor.playShows
set_option maxRecDepth 100000
open Go.ChangeShapes Go.WideShapes Go.ChangeAt Go.RowKit

theorem own : ownKnob Tryd.prog.godebug = none := by kernel_rfl
theorem laidOut : laidOutB Tryd.prog = true := by kernel_rfl

set_option maxHeartbeats 1000000 in
set_option maxRecDepth 100000 in
theorem walk (v0 : Value) (es0 : List Ed) (w : World) (hR0 : EdR w v0 es0) (hB0 : ∀ x ∈ es0, edB x) (hL0 : es0.length * 24 ≤ 140737488351232) (hF : ShwF w) :
    Calls Tryd.prog 3 #[v0] w fun e w' => e = .returned (.bool true) ∧ Below w.heap.size w w' := by
  have _u := hR0
  clear _u
  have _u := hB0
  clear _u
  have _u := hL0
  clear _u
  have HR : Hid (EdR w v0 es0) := hR0
  have HF : Hid (ShwF w) := hF
  obtain ⟨a, cap, rfl⟩ := hR0.shape
  clear hR0 hB0 hF
  go_enter Tryd.func3, Tryd.ntmps3
  go_wp2_with fail
  refine (moves_any _ es0 _ HR.out hL0).mono ?_
  rintro e w1 ⟨c, rfl, hc, hb1⟩
  have B1 : Hid (Below w.heap.size w w1) := hb1
  have C1 : Hid (EdR w1 c es0) := hc
  obtain ⟨ca, cc, rfl⟩ := hc.shape
  have hs1 := hb1.size
  have HSA : Hid (∀ X, EdR X (.slice ca es0.length cc) es0 → FrmF X.heap.size X → Tab10 X.heap.size X → Calls Tryd.prog 8 #[.slice ca es0.length cc] X fun e w' => e = .returned (.tuple #[.string ⟨(shwW es0).toArray⟩, .int .i64 (shwE es0)]) ∧ Below X.heap.size X w') := fun X h1 h2 h3 => show_any _ es0 X h1 h2 h3
  have HSB : Hid (∀ X, EdR X (.slice a es0.length cap) es0 → Calls Tryd.prog 9 #[.slice a es0.length cap] X fun e w' => e = .returned (.tuple #[.string ⟨(shwW es0).toArray⟩, .int .i64 (shwE es0)]) ∧ Below X.heap.size X w') := fun X h1 => movesShown_any _ es0 X h1
  generalize (⟨(shwW es0).toArray⟩ : ByteArray) = T at HSA HSB
  generalize shwE es0 = q at HSA HSB
  clear hb1 hc
  go_wp2_with fail
  refine (HSA.out _ C1.out ((HF.out.1.on B1.out).up hs1) ((HF.out.2.on B1.out).up hs1)).mono ?_
  rintro e w2 ⟨rfl, hb2⟩
  have B2 : Hid (Below w.heap.size w w2) := B1.out.trans (hb2.mono hs1)
  have C2 : Hid (EdR w2 (.slice ca es0.length cc) es0) := C1.out.below hb2 (Nat.le_refl _)
  have hs2 := hb2.size
  clear hb2 HSA
  go_wp2_with fail
  refine (HSB.out _ (HR.out.below B2.out (Nat.le_refl _))).mono ?_
  rintro e w3 ⟨rfl, hb3⟩
  have B3 : Hid (Below w.heap.size w w3) := B2.out.trans (hb3.mono B2.out.size)
  have C3 : Hid (EdR w3 (.slice ca es0.length cc) es0) := C2.out.below hb3 (Nat.le_refl _)
  have R3 : Hid (EdR w3 (.slice a es0.length cap) es0) := HR.out.below B3.out (Nat.le_refl _)
  have hq : (q == q) = true := by simp
  have hTT : (T.toList == T.toList) = true := by simp
  clear hb3 HSB
  go_wp2_with fail
  refine (sameMoves_yes _ _ es0 _ C3.out R3.out).mono ?_
  rintro e w4 ⟨rfl, hb4⟩
  have B4 : Hid (Below w.heap.size w w4) := B3.out.trans (hb4.mono B3.out.size)
  clear hb4
  go_wp2_with fail
  go_ret
  exact ⟨ret_bool (by simp), B4.out⟩

set_option maxHeartbeats 400000 in
set_option maxRecDepth 100000 in
theorem lifted (os : Os) (started : os.Started) (H : Type) (enc : TypeId × Value → H) :
    ReturnsInHanded {} Tryd.checked os 3 .any (fun w args => (Rows.playShowsSpec.pre enc Tryd.prog Tryd.f3 Rows.playShowsRow.domain false w args ∧ laidMetH Tryd.prog Rows.playShowsRow.laid w) ∧ sizedMet enc Tryd.prog Tryd.f3 (OpenSpec.ofChange Rows.playShowsSpec) false w args) (Rows.playShowsSpec.post enc Tryd.prog Tryd.f3 false true false false) := by
  refine returns_laid (C := Tryd.checked) (X := fun w _ => laidMetH Tryd.prog Rows.playShowsRow.laid w) (fun _ _ _ hh h => h.of_heap hh) own started (by kernel_rfl) Tryd.func3
    (ChangeSpec.witness_shaped (enc := enc) (C := Tryd.checked) (os := os) (X := fun w _ => laidMetH Tryd.prog Rows.playShowsRow.laid w) false (World.doorLaid Tryd.prog 400 os) #[.slice none 0 0] 8 rfl (World.shaped_of_RefB (by kernel_rfl) (by kernel_rfl)) (by kernel_rfl) (by kernel_rfl) (by kernel_rfl) (playShows_met os _)) ?_
  intro W base args ds gs before hval0 hW _ hsz0 hsh hL _
  have hval : ∀ (j : Nat) t v, Tryd.f3.params[j]? = some t → args[j]? = some v → Value.okWide Tryd.prog W .any base t v := hval0
  have hW' := hW
  obtain ⟨p, q, hA0, hV, rfl, hfz, hnd⟩ := hW
  have hA : DataW.TrodAll enc Tryd.prog W 0 (fun _ => true) true Tryd.f3.params.toList args.toList ds p := hA0
  have hsz : (DataW.weightsEach Tryd.prog (Tryd.f3.params.toList ++ Rows.playShowsSpec.plain.varTypes Tryd.prog) (ds ++ gs)).all (fun x => decide (x ≤ reachBytes)) = true := hsz0
  rw [Tryd.params3] at hA hval hsz
  obtain ⟨v0, vs0, d0, ds0, p0, q0, hargs, rfl, rfl, h0, r0⟩ := trodAll_cons hA
  obtain ⟨rfl, rfl, rfl⟩ := trodAll_nil r0
  obtain rfl : args = #[v0] := by cases args; simp_all
  obtain ⟨rfl, rfl⟩ := trodVars_none hV
  have k0 := h0
  have lt0 : ∀ x ∈ p0, x.block < W.heap.size := by obtain ⟨m, hm⟩ := k0; exact DataW.trod_lt m _ _ _ hm
  have hw0 : ∀ m ∈ d0.weights Tryd.prog 22, m ≤ reachBytes := fun m hm => by simpa using List.all_eq_true.1 hsz _ (DataW.weights_mem_each (j := 0) (t := 22) rfl rfl m hm)
  obtain ⟨es0, hR0, hB0, hL0⟩ := open_moves (okWide_slice Tryd.underlying22 (hval 0 22 v0 rfl rfl)) h0 hw0
  clear hA0 hval0
  refine (walk v0 es0 W hR0 hB0 hL0 (playShows_facts hL hsh)).mono fun e W' ⟨he, bel⟩ => ?_
  subst he
  exact ⟨_, rfl, _, _, _, [], _, [], hW', trodAll_mk1 (shut_bool Tryd.underlying4 _), (trodAll_cons_mk (Below.trod laidOut (by kernel_rfl) (of_decide_eq_true (by kernel_rfl)) k0 bel lt0) trodAll_mk0), rfl, bel.frame _, fun h => by cases h⟩

theorem over : Rows.playShowsRow.holds Tryd.pinned (OpenSpec.ofChange Rows.playShowsSpec) :=
  OpenClaim.holds_of_wide 3 Tryd.f3 rfl rfl rfl rfl rfl rfl rfl ⟨rfl, rfl, rfl, rfl, rfl⟩ rfl rfl rfl rfl rfl (by kernel_rfl) Tryd.func3 (by kernel_rfl)
    (of_decide_eq_true (by kernel_rfl)) (by unfold Func.isWrapper; first | (rw [if_pos (by decide +kernel)]; kernel_rfl) | (rw [if_neg (by decide +kernel)]; exact ⟨rfl, rfl⟩))
    (fun os started H enc _ => lifted os started H enc)

/-- The card: what the row lists is tied to the program's text. -/
theorem proved : Rows.PlayShowsCardSaid :=
  Claim7.holds_tied_plain_at .later [] [.data, .data, .data, .data] true (true, "9da3f975c75f78bd0e8649b96b949851ae4c815f2e60a7769ea6857a98adf4ba") true
    over (fun _ h => by cases h) (by kernel_rfl) (fun _ h => by cases h) playShows_row_tie rfl ⟨rfl, rfl⟩ (by kernel_rfl) rfl
    (fun f fn hf hfn => by
      obtain rfl : f = 3 := Option.some.inj ((show Tryd.prog.funcNamed Rows.playShowsRow.func = some 3 by kernel_rfl).symm.trans hf) |>.symm
      obtain rfl : fn = Tryd.f3 := (Option.some.inj (Tryd.func3.symm.trans hfn)).symm
      exact ⟨by kernel_rfl, fun j t ht => by
        rw [Tryd.params3] at ht
        rcases j with _ | j
        · obtain rfl : t = 22 := by simpa using ht.symm
          exact (show Tryd.prog.wantsStandIn 22 = false by kernel_rfl)
        simp at ht⟩)
    (by kernel_rfl)
#print axioms proved
end Go.Proofs.YtdeghndcglgfkaaDoor.playShows
