/-
  For every slice of bytes store.Open answers what P7.2 says and leaves its argument alone (the law StoreOpens returns true, and its argument reads as before); no condition.
-/
import Derived.Test.YtacpicnihgggaaaRefOpened
import Derived.Test.YtacpicnihgggaaaSamePart
import Derived.Test.YtacpicnihgggaaaOctets
import Derived.Test.YtacpicnihgggaaaSame
import Derived.WalkKit
import Derived.ProofKit
import Derived.OpenShut
import Derived.ShutString
import Derived.SizedLaws
import Derived.ChangeOld
import Derived.Below
namespace Go.Proofs.Ytacpicnihgggaaa.storeOpens
set_option maxRecDepth 100000
open Go.ChangeShapes Go.WideShapes Go.ChangeAt Go.RowKit
open Go.ChangeMaps (open_string shut_string)
set_option linter.unusedVariables false

theorem own : ownKnob Try.prog.godebug = none := by kernel_rfl
theorem laidOut : laidOutB Try.prog = true := by kernel_rfl


set_option maxHeartbeats 1000000 in
set_option maxRecDepth 100000 in
theorem walk (a0 : Option Addr) (len0 cap0 : Nat) (z0 : List Int) (w : World) (s0 : cap0 * 1 ≤ 140737488351232) (w0 : IsRow .u8 w a0 len0 cap0 z0) :
    Calls Try.prog 4 #[.slice a0 len0 cap0] w fun e w' => e = .returned (.bool true) ∧ Below w.heap.size w w' := by
  obtain ⟨r0, e0, le0, wf0⟩ := w0.reads
  have hx := bytes_wf wf0
  have hl : (z0.take len0).length ≤ 140737488355328 := by omega
  have HR : Hid (Reads .u8 w (.slice a0 len0 cap0) (z0.take len0)) := r0
  have HX : Hid (∀ x ∈ z0.take len0, 0 ≤ x ∧ x ≤ 255) := hx
  clear w0 wf0 r0 hx s0
  generalize z0.take len0 = xs at *
  go_enter Try.func4, Try.ntmps4
  go_wp2_with fail
  refine (octets_any _ xs _ HR.out hl).mono ?_
  rintro e w1 ⟨v1, rfl, hown1, hbel1⟩
  have R1 : Hid (Reads .u8 w1 v1 xs) := reads_own hown1
  have B1 : Hid (Below w.heap.size w w1) := hbel1
  have hs1 := hbel1.size
  clear hown1 hbel1
  go_wp2_with fail
  refine (storeOpen_any _ xs _ R1.out HX.out).mono ?_
  rintro e w2 ⟨v2, rfl, hpr2, hb2⟩
  obtain ⟨vo, vi, rfl, ho, hi⟩ := id hpr2
  have P2 : Hid (PartR w2 (.agg #[.int .i64 (openF xs).1.wk, .int .i64 (openF xs).1.ks, .int .i64 (openF xs).1.n, vo, vi]) (openF xs).1) := hpr2
  obtain ⟨voa, voc, rfl, _⟩ := ho
  obtain ⟨via, vic, rfl, _⟩ := hi
  have R2 : Hid (Reads .u8 w2 v1 xs) := R1.out.below hb2 (Nat.le_refl _)
  have B2 : Hid (Below w.heap.size w w2) := B1.out.trans (hb2.mono hs1)
  have hs2 := B2.out.size
  clear hpr2 hb2 R1 B1
  go_upto_region 3 with fail
  have Q3 : Hid (Below w.heap.size w (w2.alloc (.cells #[.int .i64 (openF xs).1.wk, .int .i64 (openF xs).1.ks, .int .i64 (openF xs).1.n, .slice voa (openF xs).1.out.length voc, .slice via (openF xs).1.inn.length vic] 36)) ∧ PB (w2.alloc (.cells #[.int .i64 (openF xs).1.wk, .int .i64 (openF xs).1.ks, .int .i64 (openF xs).1.n, .slice voa (openF xs).1.out.length voc, .slice via (openF xs).1.inn.length vic] 36)) w2.heap.size (.int .i64 (openF xs).1.wk) (.int .i64 (openF xs).1.ks) (.int .i64 (openF xs).1.n) (.slice voa (openF xs).1.out.length voc) (.slice via (openF xs).1.inn.length vic) ∧ PartR (w2.alloc (.cells #[.int .i64 (openF xs).1.wk, .int .i64 (openF xs).1.ks, .int .i64 (openF xs).1.n, .slice voa (openF xs).1.out.length voc, .slice via (openF xs).1.inn.length vic] 36)) (.agg #[.int .i64 (openF xs).1.wk, .int .i64 (openF xs).1.ks, .int .i64 (openF xs).1.n, .slice voa (openF xs).1.out.length voc, .slice via (openF xs).1.inn.length vic]) (openF xs).1 ∧ Reads .u8 (w2.alloc (.cells #[.int .i64 (openF xs).1.wk, .int .i64 (openF xs).1.ks, .int .i64 (openF xs).1.n, .slice voa (openF xs).1.out.length voc, .slice via (openF xs).1.inn.length vic] 36)) v1 xs) :=
    ⟨B2.out.alloc hs2 _, box_new _ _ _, P2.out.below (below_alloc _ _) (Nat.le_refl _), R2.out.below (below_alloc _ _) (Nat.le_refl _)⟩
  generalize w2.alloc (.cells #[.int .i64 (openF xs).1.wk, .int .i64 (openF xs).1.ks, .int .i64 (openF xs).1.n, .slice voa (openF xs).1.out.length voc, .slice via (openF xs).1.inn.length vic] 36) = w3 at *
  generalize w2.heap.size = A at *
  clear P2 R2 B2 hs2
  go_wp2_with fail
  refine (opened_any _ xs _ (HR.out.below Q3.out.1 (Nat.le_refl _)) HX.out).mono ?_
  rintro e w4 ⟨v4, rfl, hpr4, hb4⟩
  obtain ⟨uo, ui, rfl, ho, hi⟩ := id hpr4
  have P4 : Hid (PartR w4 (.agg #[.int .i64 (openF xs).1.wk, .int .i64 (openF xs).1.ks, .int .i64 (openF xs).1.n, uo, ui]) (openF xs).1) := hpr4
  obtain ⟨uoa, uoc, rfl, _⟩ := ho
  obtain ⟨uia, uic, rfl, _⟩ := hi
  have hs3 := Q3.out.1.size
  have R4 : Hid (Reads .u8 w4 v1 xs) := Q3.out.2.2.2.below hb4 (Nat.le_refl _)
  have B4 : Hid (Below w.heap.size w w4) := Q3.out.1.trans (hb4.mono hs3)
  have A4 : Hid (PB w4 A (.int .i64 (openF xs).1.wk) (.int .i64 (openF xs).1.ks) (.int .i64 (openF xs).1.n) (.slice voa (openF xs).1.out.length voc) (.slice via (openF xs).1.inn.length vic)) := Q3.out.2.1.kept (Kept.of (S := fun _ => False) hb4) fun h => h
  have PA4 : Hid (PartR w4 (.agg #[.int .i64 (openF xs).1.wk, .int .i64 (openF xs).1.ks, .int .i64 (openF xs).1.n, .slice voa (openF xs).1.out.length voc, .slice via (openF xs).1.inn.length vic]) (openF xs).1) := Q3.out.2.2.1.below hb4 (Nat.le_refl _)
  have hs4 := B4.out.size
  clear hpr4 hb4 Q3 hs3
  generalize openF xs = r at *
  obtain ⟨⟨p1, p2, p3, po, pin⟩, er⟩ := r
  simp only at *
  go_upto_region 4 with fail
  have Q5 : Hid (Below w.heap.size w (w4.alloc (.cells #[.int .i64 p1, .int .i64 p2, .int .i64 p3, .slice uoa po.length uoc, .slice uia pin.length uic] 36)) ∧ PB (w4.alloc (.cells #[.int .i64 p1, .int .i64 p2, .int .i64 p3, .slice uoa po.length uoc, .slice uia pin.length uic] 36)) A (.int .i64 p1) (.int .i64 p2) (.int .i64 p3) (.slice voa po.length voc) (.slice via pin.length vic) ∧ PB (w4.alloc (.cells #[.int .i64 p1, .int .i64 p2, .int .i64 p3, .slice uoa po.length uoc, .slice uia pin.length uic] 36)) w4.heap.size (.int .i64 p1) (.int .i64 p2) (.int .i64 p3) (.slice uoa po.length uoc) (.slice uia pin.length uic) ∧ PartR (w4.alloc (.cells #[.int .i64 p1, .int .i64 p2, .int .i64 p3, .slice uoa po.length uoc, .slice uia pin.length uic] 36)) (.agg #[.int .i64 p1, .int .i64 p2, .int .i64 p3, .slice voa po.length voc, .slice via pin.length vic]) ⟨p1, p2, p3, po, pin⟩ ∧ PartR (w4.alloc (.cells #[.int .i64 p1, .int .i64 p2, .int .i64 p3, .slice uoa po.length uoc, .slice uia pin.length uic] 36)) (.agg #[.int .i64 p1, .int .i64 p2, .int .i64 p3, .slice uoa po.length uoc, .slice uia pin.length uic]) ⟨p1, p2, p3, po, pin⟩ ∧ Reads .u8 (w4.alloc (.cells #[.int .i64 p1, .int .i64 p2, .int .i64 p3, .slice uoa po.length uoc, .slice uia pin.length uic] 36)) v1 xs) :=
    ⟨B4.out.alloc hs4 _, A4.out.kept (S := fun _ => False) ((Kept.refl _ _).alloc _) fun h => h, box_new _ _ _, PA4.out.below (below_alloc _ _) (Nat.le_refl _), P4.out.below (below_alloc _ _) (Nat.le_refl _), R4.out.below (below_alloc _ _) (Nat.le_refl _)⟩
  generalize w4.alloc (.cells #[.int .i64 p1, .int .i64 p2, .int .i64 p3, .slice uoa po.length uoc, .slice uia pin.length uic] 36) = w5 at *
  generalize w4.heap.size = C at *
  obtain ⟨a0, a1, a2, a3, a4⟩ := Q5.out.2.1.cells
  obtain ⟨b0, b1, b2, b3, b4⟩ := Q5.out.2.2.1.cells
  have he : (er == er) = true := by simp
  clear A4 P4 PA4 R4 B4
  go_wp2_with fail
  refine (samePart_yes _ _ ⟨p1, p2, p3, po, pin⟩ w5 Q5.out.2.2.2.1 Q5.out.2.2.2.2.1).mono ?_
  rintro e w6 ⟨rfl, hb6⟩
  have hs5 := Q5.out.1.size
  have B6 : Hid (Below w.heap.size w w6) := Q5.out.1.trans (hb6.mono hs5)
  have R6 : Hid (Reads .u8 w6 v1 xs) := Q5.out.2.2.2.2.2.below hb6 (Nat.le_refl _)
  clear hb6 a0 a1 a2 a3 a4 b0 b1 b2 b3 b4 Q5
  go_wp2_with fail
  refine (sameBytes_any _ _ xs xs _ R6.out (HR.out.below B6.out (Nat.le_refl _)) HX.out HX.out).mono ?_
  rintro e w7 ⟨rfl, rfl⟩
  have b4 : decide (xs = xs) = true := by simp
  rw [b4]
  clear b4
  go_wp2
  go_ret
  exact ⟨ret_bool (by simp), B6.out⟩


set_option maxRecDepth 100000 in
theorem lifted (os : Os) (started : os.Started) (H : Type) (enc : TypeId × Value → H) :
    ReturnsInHanded {} Try.checked os 4 .any (Rows.storeOpensSpec.pre6 enc Try.prog Try.f4 Rows.storeOpensRow.domain false) (Rows.storeOpensSpec.post enc Try.prog Try.f4 false true false false) := by
  refine returnsInHanded_of_change_sized (C := Try.checked) own started (by kernel_rfl) Try.func4
    (ChangeSpec.witness6 (enc := enc) (C := Try.checked) false ⟨#[], #[.slice none 0 0], []⟩ 8 (by kernel_rfl) (by kernel_rfl) (by kernel_rfl) (by kernel_rfl)) ?_
  intro W base args ds gs before hval0 hW hcnd hsz0 _
  have hval : ∀ (j : Nat) t v, Try.f4.params[j]? = some t → args[j]? = some v → Value.okWide Try.prog W .any base t v := hval0
  have hW' := hW
  obtain ⟨p, q, hA0, hV, rfl, hfz, hnd⟩ := hW
  have hA : DataW.TrodAll enc Try.prog W 0 (fun _ => true) true Try.f4.params.toList args.toList ds p := hA0
  have hsz : (DataW.weightsEach Try.prog (Try.f4.params.toList ++ Rows.storeOpensSpec.plain.varTypes Try.prog) (ds ++ gs)).all (fun x => decide (x ≤ reachBytes)) = true := hsz0
  rw [Try.params4] at hA hval hsz
  obtain ⟨v0, vs0, d0, ds0, p0, q0, hargs, rfl, rfl, h0, r0⟩ := trodAll_cons hA
  obtain ⟨rfl, rfl, rfl⟩ := trodAll_nil r0
  obtain rfl : args = #[v0] := by cases args; simp_all
  obtain ⟨rfl, rfl⟩ := trodVars_none hV
  obtain ⟨a0, len0, cap0, rfl⟩ := okWide_slice Try.underlying26 (hval 0 26 v0 rfl rfl)
  have k0 := h0
  have lt0 : ∀ x ∈ p0, x.block < W.heap.size := by obtain ⟨m, hm⟩ := k0; exact DataW.trod_lt m _ _ _ hm
  obtain ⟨z0, w0, s0⟩ : ∃ zs, IsRow .u8 W a0 len0 cap0 zs ∧ cap0 * 1 ≤ 140737488351232 := by
    obtain ⟨fuel, hf⟩ := h0
    rcases open_ints Try.underlying26 Try.underlying5 (by kernel_rfl) hf with ⟨hcs, _⟩ | ⟨x, l, c, zs, hcs, _, hl, hm, hz, hx, hcell, hwz⟩
    · simp [Value.cells] at hcs
      obtain ⟨rfl, rfl, rfl⟩ := hcs
      exact ⟨[], .inl ⟨rfl, rfl, rfl, rfl⟩, by simp⟩
    · simp [Value.cells] at hcs
      obtain ⟨rfl, rfl, rfl⟩ := hcs
      have hz2 : zs.length = cap0 := by simpa using hz
      simp only [Prod.mk.injEq] at hx
      have hd := hx.1
      have hr := sized_slice hsz (j := 0) (t := 26) (e := 5) rfl (by rw [hd]; rfl) Try.underlying26
      rw [show Try.prog.bytesOf 5 = 1 from by kernel_rfl] at hr
      simp only [lits, List.length_map, List.length_take, List.length_drop, reachBytes] at hr
      exact ⟨zs, .inr ⟨_, rfl, hl, hm, hz2, hcell, hwz⟩, by omega⟩
  clear hA0 hval0
  refine (walk a0 len0 cap0 z0 W s0 w0).mono fun e W' ⟨he, bel⟩ => ?_
  subst he
  exact ⟨_, rfl, _, _, _, [], _, [], hW', trodAll_mk1 (shut_bool Try.underlying4 _), (trodAll_cons_mk (Below.trod laidOut (by kernel_rfl) (of_decide_eq_true (by kernel_rfl)) k0 bel lt0) trodAll_mk0), rfl, bel.frame _, fun h => by cases h⟩

theorem over : Rows.storeOpensRow.holds Try.pinned (OpenSpec.ofChange Rows.storeOpensSpec) :=
  OpenClaim.holds_of_wide 4 Try.f4 rfl rfl rfl rfl rfl rfl rfl ⟨rfl, rfl, rfl, rfl, rfl⟩ rfl rfl rfl rfl rfl (by kernel_rfl) Try.func4 (by kernel_rfl)
    (of_decide_eq_true (by kernel_rfl)) (by unfold Func.isWrapper; first | (rw [if_pos (by decide +kernel)]; kernel_rfl) | (rw [if_neg (by decide +kernel)]; exact ⟨rfl, rfl⟩))
    (fun os started H enc _ => lifted os started H enc)

/-- ████ THE STATEMENT ████ -/
theorem proved : Rows.StoreOpensSaid := over
#print axioms proved
end Go.Proofs.Ytacpicnihgggaaa.storeOpens

