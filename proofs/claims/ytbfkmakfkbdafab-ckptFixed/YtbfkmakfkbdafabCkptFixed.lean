/-
  For every list of bytes: what ckpt.Decode takes ckpt.Encode writes again, byte for byte, and with an error nothing is answered (the law CkptFixed returns true, and its argument reads as before); no condition.
-/
import Derived.Test.YtbfkmakfkbdafabCkptFixedPartA
import Derived.Test.YtbfkmakfkbdafabSameBytes
import Derived.Test.YtbfkmakfkbdafabAppendReads
import Derived.WalkKit
import Derived.ProofKit
import Derived.OpenShut
import Derived.ShutString
import Derived.SizedLaws
import Derived.ChangeOld
import Derived.Below
namespace Go.Proofs.Ytbfkmakfkbdafab.ckptFixed
set_option maxRecDepth 100000
open Go.ChangeShapes Go.WideShapes Go.ChangeAt Go.RowKit

theorem own : ownKnob Try.prog.godebug = none := by kernel_rfl
theorem laidOut : laidOutB Try.prog = true := by kernel_rfl
theorem dec_cases (b : List Int) : (∃ f, f ≠ 0 ∧ decS b = (sv0, f)) ∨ ∃ s, decS b = (s, 0) ∧ encS s = (b, 0) ∧ ∀ x ∈ s.mail, mlB x := by
  by_cases h : (unwrapF b).2.2 = 0
  · by_cases h2 : encS (parseC (unwrapF b).1) = (b, 0)
    · exact .inr ⟨parseC (unwrapF b).1, by unfold decS; rw [if_pos h, if_pos h2], h2, parse_mlB _⟩
    · exact .inl ⟨3, by decide, by unfold decS; rw [if_pos h, if_neg h2]⟩
  · exact .inl ⟨_, h, decS_err h⟩
set_option maxHeartbeats 2000000 in
set_option maxRecDepth 100000 in
theorem walk (v0 : Value) (xs0 : List Int) (w : World) (hR0 : Reads .u8 w v0 xs0) (hB0 : ∀ x ∈ xs0, 0 ≤ x ∧ x ≤ 255) (hN0 : xs0.length ≤ 140737488351232) :
    Calls Try.prog 3 #[v0] w fun e w' => e = .returned (.bool true) ∧ Below w.heap.size w w' := by
  have _u := hR0
  clear _u
  have _u := hB0
  clear _u
  have _u := hN0
  clear _u
  have HR : Hid (Reads .u8 w v0 xs0) := hR0
  have HX : Hid (∀ x ∈ xs0, 0 ≤ x ∧ x ≤ 255) := hB0
  obtain ⟨a, cap, rfl⟩ : ∃ a c, v0 = .slice a xs0.length c := by obtain ⟨a, c, e, _⟩ := hR0; exact ⟨a, c, e⟩
  have CD : Hid (∀ X v, Reads .u8 X v xs0 → Calls Try.prog 4 #[v] X (SvdP X (decS xs0))) := fun X v h => ckDecode_any v xs0 X h HX.out
  have DC := dec_cases xs0
  clear hR0 hB0
  generalize decS xs0 = D at *
  go_enter Try.func3, Try.ntmps3
  go_wp2_with (at_builtin; refine wpList_append_reads rfl _ _ rfl w.heap.size _ [] rfl (own_none _ _) _ xs0 rfl HR.out (by rw [List.length_nil]; omega) (Nat.le_refl _) ?_)
  intro v1 w1 hown1 hb1 _
  have R1 : Hid (Reads .u8 w1 v1 xs0) := reads_own (by simpa using hown1)
  have B1 : Hid (Below w.heap.size w w1) := hb1
  have hs1 := hb1.size
  obtain ⟨a1, c1, rfl⟩ : ∃ a c, v1 = .slice a xs0.length c := by obtain ⟨a, c, e, _⟩ := R1.out; exact ⟨a, c, e⟩
  clear hown1 hb1
  go_wp2_with fail
  refine (CD.out _ _ R1.out).mono ?_
  rintro e w2 ⟨u1, u2, rfl, hu1, hu2, hb2⟩
  have V2 : MlR w2 u1 D.1.vals := RowK.own encM_len hu1
  have M2 : MlR w2 u2 D.1.mail := RowK.own encM_len hu2
  have b2 : Below w.heap.size w w2 := B1.out.trans (hb2.mono hs1)
  clear hu1 hu2 hb2
  rcases DC with ⟨f, hf, rfl⟩ | ⟨s, rfl, hes, hsm⟩
  · obtain ⟨vb, vd, rfl⟩ : ∃ a c, u1 = .slice a 0 c := V2.shape
    obtain ⟨mb, md, rfl⟩ : ∃ a c, u2 = .slice a 0 c := M2.shape
    have N3 : Hid (Below w.heap.size w (w2.alloc (.cells #[.int .i64 0, .int .i64 0, .bool false, .slice vb 0 vd, .slice mb 0 md] 26)) ∧ BX 26 (w2.alloc (.cells #[.int .i64 0, .int .i64 0, .bool false, .slice vb 0 vd, .slice mb 0 md] 26)) w2.heap.size #[.int .i64 0, .int .i64 0, .bool false, .slice vb 0 vd, .slice mb 0 md]) := ⟨b2.alloc b2.size _, BX.new _ _ _⟩
    have tz : (f != 0) = true := by simp [hf]
    clear V2 M2 b2 CD
    simp only [sv0]
    go_upto_region 2 with fail
    generalize w2.alloc (.cells #[.int .i64 0, .int .i64 0, .bool false, .slice vb 0 vd, .slice mb 0 md] 26) = w3 at *
    generalize w2.heap.size = b3 at *
    obtain ⟨B3', X3'⟩ := N3.out
    have B3 : Hid (Below w.heap.size w w3) := B3'
    obtain ⟨c0, c1, c2, c3, c4⟩ := X3'.all5
    clear B3' X3' N3
    go_wp2_with fail
    go_ret
    exact ⟨by simp, B3.out⟩
  · obtain ⟨vb, vd, rfl⟩ := V2.shape
    obtain ⟨mb, md, rfl⟩ := M2.shape
    simp only at V2 M2
    have N3 : Hid (Below w.heap.size w (w2.alloc (.cells #[.int .i64 s.step, .int .i64 s.phase, .bool s.fresh, .slice vb s.vals.length vd, .slice mb s.mail.length md] 26)) ∧ BX 26 (w2.alloc (.cells #[.int .i64 s.step, .int .i64 s.phase, .bool s.fresh, .slice vb s.vals.length vd, .slice mb s.mail.length md] 26)) w2.heap.size #[.int .i64 s.step, .int .i64 s.phase, .bool s.fresh, .slice vb s.vals.length vd, .slice mb s.mail.length md] ∧ MlR (w2.alloc (.cells #[.int .i64 s.step, .int .i64 s.phase, .bool s.fresh, .slice vb s.vals.length vd, .slice mb s.mail.length md] 26)) (.slice vb s.vals.length vd) s.vals ∧ MlR (w2.alloc (.cells #[.int .i64 s.step, .int .i64 s.phase, .bool s.fresh, .slice vb s.vals.length vd, .slice mb s.mail.length md] 26)) (.slice mb s.mail.length md) s.mail) := ⟨b2.alloc b2.size _, BX.new _ _ _, V2.below (below_alloc _ _) (Nat.le_refl _), M2.below (below_alloc _ _) (Nat.le_refl _)⟩
    have CE : Hid (∀ X v1 v2, MlR X v1 s.vals → MlR X v2 s.mail → Calls Try.prog 5 #[.agg #[.int .i64 s.step, .int .i64 s.phase, .bool s.fresh, v1, v2]] X (BytP2 X (xs0, 0))) := fun X v1 v2 h1 h2 => by rw [← hes]; exact sEnc_any s v1 v2 X h1 h2 hsm
    clear V2 M2 b2 CD hes hsm
    go_upto_region 2 with fail
    generalize w2.alloc (.cells #[.int .i64 s.step, .int .i64 s.phase, .bool s.fresh, .slice vb s.vals.length vd, .slice mb s.mail.length md] 26) = w3 at *
    generalize w2.heap.size = b3 at *
    obtain ⟨B3', X3', V3', M3'⟩ := N3.out
    have B3 : Hid (Below w.heap.size w w3) := B3'
    have V3 : Hid (MlR w3 (.slice vb s.vals.length vd) s.vals) := V3'
    have M3 : Hid (MlR w3 (.slice mb s.mail.length md) s.mail) := M3'
    have hs3 := B3'.size
    obtain ⟨c0, c1, c2, c3, c4⟩ := X3'.all5
    clear B3' X3' V3' M3' N3
    go_wp2_with fail
    refine (CE.out _ _ _ V3.out M3.out).mono ?_
    rintro e w4 ⟨ve, rfl, ho4, hb4⟩
    obtain ⟨ea, ec, rfl⟩ := own_slice ho4
    have R4 : Hid (Reads .u8 w4 (.slice ea xs0.length ec) xs0) := reads_own ho4
    have B4 : Hid (Below w.heap.size w w4) := B3.out.trans (hb4.mono hs3)
    have RB : Hid (Reads .u8 w4 (.slice a xs0.length cap) xs0) := HR.out.below B4.out (Nat.le_refl _)
    clear ho4 hb4 c0 c1 c2 c3 c4
    go_wp2_with fail
    refine (sameBytes_any _ _ xs0 xs0 _ R4.out RB.out HX.out HX.out).mono ?_
    rintro e w5 ⟨rfl, e5⟩
    have e5' : w4 = w5 := e5.symm
    subst e5'
    clear e5
    have td : decide (xs0 = xs0) = true := by simp
    rw [td]
    go_wp2_with fail
    go_ret
    exact ⟨rfl, B4.out⟩

set_option maxHeartbeats 400000 in
set_option maxRecDepth 100000 in
theorem lifted (os : Os) (started : os.Started) (H : Type) (enc : TypeId × Value → H) :
    ReturnsInHanded {} Try.checked os 3 .any (Rows.ckptFixedSpec.pre6 enc Try.prog Try.f3 Rows.ckptFixedRow.domain false) (Rows.ckptFixedSpec.post enc Try.prog Try.f3 false true false false) := by
  refine returnsInHanded_of_change_sized (C := Try.checked) own started (by kernel_rfl) Try.func3
    (ChangeSpec.witness6 (enc := enc) (C := Try.checked) false ⟨#[], #[.slice none 0 0], []⟩ 8 (by kernel_rfl) (by kernel_rfl) (by kernel_rfl) (by kernel_rfl)) ?_
  intro W base args ds gs before hval0 hW _ hsz0 _
  have hval : ∀ (j : Nat) t v, Try.f3.params[j]? = some t → args[j]? = some v → Value.okWide Try.prog W .any base t v := hval0
  have hW' := hW
  obtain ⟨p, q, hA0, hV, rfl, hfz, hnd⟩ := hW
  have hA : DataW.TrodAll enc Try.prog W 0 (fun _ => true) true Try.f3.params.toList args.toList ds p := hA0
  have hsz : (DataW.weightsEach Try.prog (Try.f3.params.toList ++ Rows.ckptFixedSpec.plain.varTypes Try.prog) (ds ++ gs)).all (fun x => decide (x ≤ reachBytes)) = true := hsz0
  rw [Try.params3] at hA hval hsz
  obtain ⟨v0, vs0, d0, ds0, p0, q0, hargs, rfl, rfl, h0, r0⟩ := trodAll_cons hA
  obtain ⟨rfl, rfl, rfl⟩ := trodAll_nil r0
  obtain rfl : args = #[v0] := by cases args; simp_all
  obtain ⟨rfl, rfl⟩ := trodVars_none hV
  have k0 := h0
  have lt0 : ∀ x ∈ p0, x.block < W.heap.size := by obtain ⟨m, hm⟩ := k0; exact DataW.trod_lt m _ _ _ hm
  have hw0 : ∀ m ∈ d0.weights Try.prog 22, m ≤ reachBytes := fun m hm => by simpa using List.all_eq_true.1 hsz _ (DataW.weights_mem_each (j := 0) (t := 22) rfl rfl m hm)
  obtain ⟨xs0, hR0, hB0, hN0⟩ := open_bytes (okWide_slice Try.underlying22 (hval 0 22 v0 rfl rfl)) h0 hw0
  clear hA0 hval0
  refine (walk v0 xs0 W hR0 hB0 hN0).mono fun e W' ⟨he, bel⟩ => ?_
  subst he
  exact ⟨_, rfl, _, _, _, [], _, [], hW', trodAll_mk1 (shut_bool Try.underlying4 _), (trodAll_cons_mk (Below.trod laidOut (by kernel_rfl) (of_decide_eq_true (by kernel_rfl)) k0 bel lt0) trodAll_mk0), rfl, bel.frame _, fun h => by cases h⟩

theorem over : Rows.ckptFixedRow.holds Try.pinned (OpenSpec.ofChange Rows.ckptFixedSpec) :=
  OpenClaim.holds_of_wide 3 Try.f3 rfl rfl rfl rfl rfl rfl rfl ⟨rfl, rfl, rfl, rfl, rfl⟩ rfl rfl rfl rfl rfl (by kernel_rfl) Try.func3 (by kernel_rfl)
    (of_decide_eq_true (by kernel_rfl)) (by unfold Func.isWrapper; first | (rw [if_pos (by decide +kernel)]; kernel_rfl) | (rw [if_neg (by decide +kernel)]; exact ⟨rfl, rfl⟩))
    (fun os started H enc _ => lifted os started H enc)

/-- The statement. -/
theorem proved : Rows.CkptFixedSaid := over
#print axioms proved
end Go.Proofs.Ytbfkmakfkbdafab.ckptFixed
