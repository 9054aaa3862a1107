/-
  For whatever bytes p and numbers at and by, a frame of at most 300 bytes in which one byte of the payload or of the sum was changed is refused with ErrSum (the law FrameOne returns true, and the slice argument reads as before); no condition.
-/
import Derived.Test.YtjagefchoggbaaaFrameMath
import Derived.Test.YtjagefchoggbaaaSameKeep
import Derived.Test.YtjagefchoggbaaaSome
import Derived.Test.YtjagefchoggbaaaUnwrapFace
import Derived.Test.YtjagefchoggbaaaSetReads
import Derived.WalkKit
import Derived.ProofKit
import Derived.OpenShut
import Derived.ShutString
import Derived.Deep.RegionWith
import Derived.SizedLaws
import Derived.ChangeOld
import Derived.Below
namespace Go.Proofs.Ytjagefchoggbaaa.frameOne
open Go.ChangeShapes Go.WideShapes Go.ChangeAt Go.RowKit
open Go.ChangeMaps (open_string shut_string)
set_option linter.unusedVariables false

theorem own : ownKnob Try.prog.godebug = none := by kernel_rfl
theorem laidOut : laidOutB Try.prog = true := by kernel_rfl


set_option maxHeartbeats 1000000 in
set_option maxRecDepth 100000 in
theorem walk (a0 : Option Addr) (len0 cap0 : Nat) (z0 : List Int) (a1 : Int) (a2 : Int) (w : World) (s0 : cap0 * 1 ≤ 140737488351232) (w0 : IsRow .u8 w a0 len0 cap0 z0) (w1 : (Lit.int .i64 a1).wf = true) (w2 : (Lit.int .i64 a2).wf = true) :
    Calls Try.prog 8 #[.slice a0 len0 cap0, .int .i64 a1, .int .i64 a2] w fun e w' => e = .returned (.bool true) ∧ Below w.heap.size w w' := by
  obtain ⟨r0, e0, le0, wf0⟩ := w0.reads
  have R0 : Hid (Reads .u8 w (.slice a0 len0 cap0) (z0.take len0)) := r0
  have X0 : Hid (∀ x ∈ z0.take len0, 0 ≤ x ∧ x ≤ 255) := bytes_wf wf0
  have hb1 := bounds_i64 w1
  have hb2 := bounds_i64 w2
  clear w0 wf0 r0 s0 w1 w2
  generalize z0.take len0 = ps at *
  go_enter Try.func8, Try.ntmps8
  go_wp2_with fail
  refine (some_any _ ps 300 _ R0.out (by omega)).mono ?_
  rintro e w1 ⟨v1, rfl, hown1, hbel1⟩
  have XP : Hid (∀ x ∈ ps.take 300, 0 ≤ x ∧ x ≤ 255) := fun x hx => X0.out x (List.mem_of_mem_take hx)
  have hpl : (ps.take 300).length ≤ 300 := by rw [List.length_take]; omega
  have O1 : Hid (w1.ownsRow w.heap.size 5 1 v1 (ps.take 300).length ((ps.take 300).map (Value.int .u8))) := hown1
  clear hown1
  generalize ps.take 300 = p at *
  have B1 : Hid (Below w.heap.size w w1) := hbel1
  have hs1 := hbel1.size
  clear hbel1
  go_wp2_with fail
  refine (wrap_any _ p _ (reads_own O1.out) XP.out (by omega)).mono ?_
  rintro e w2 ⟨v2, rfl, hown2, hbel2⟩
  have hpp := put_len (p.length : Int)
  have hwl := wrap_len p
  have XW : Hid (∀ x ∈ wrap p, 0 ≤ x ∧ x ≤ 255) := wrap_bytes XP.out (by omega)
  have HU : Hid (∀ (i : Nat) (y : Int), (put (p.length : Int)).length ≤ i → i < (wrap p).length → 0 ≤ y ∧ y ≤ 255 → y ≠ (wrap p).getD i 0 → unwrapF ((wrap p).set i y) = ([], 0, 5)) := fun i y h0 h1 h2 h3 => unwrapF_changed XP.out (by omega) h0 h1 h2 h3
  have R2 : Hid (Reads .u8 w2 v2 (wrap p)) := reads_own hown2
  have B2 : Hid (Below w.heap.size w w2) := B1.out.trans (hbel2.mono hs1)
  have hs2 := B2.out.size
  obtain ⟨g2, c2, rfl, hg2, _, hc2, hm2, _⟩ := own_shape hown2 (by omega)
  have HF : Hid (∀ j, w2.frozen? ⟨g2, j, none⟩ = false) := fun j => frozen_own hown2 j
  obtain ⟨x1, y1, rfl, _, _, _, _⟩ := reads_own O1.out
  clear hown2 hbel2
  generalize put (p.length : Int) = hd at *
  generalize hd.length = k at *
  generalize wrap p = f at *
  have hFL : f.length = k + p.length + 4 := hwl
  have HFL : Hid (f.length = k + p.length + 4) := hwl
  clear hwl hFL
  have HC : Hid (∀ i, i < k + p.length + 4 → w2.cell? ⟨g2, i, none⟩ = some (.int .u8 (f.getD i 0))) := fun i hi => by
    obtain ⟨b', off', cap', hv, _, _, _, hcell⟩ := R2.out.plain (by rw [HFL.out]; omega)
    injection hv with h1 _ _
    injection h1 with h1
    injection h1 with h1 h2
    subst h1 h2
    have := hcell i (by rw [HFL.out]; exact hi)
    simpa using this
  have R2' : Hid (∀ i y, i < k + p.length + 4 → Reads .u8 (w2.setCell ⟨g2, i, none⟩ (.int .u8 y)) (.slice (some ⟨g2, 0, none⟩) (k + p.length + 4) c2) (f.set i y)) := fun i y hi => by
    have := reads_set (y := y) R2.out (show i < f.length by rw [HFL.out]; exact hi)
    rwa [HFL.out] at this
  rw [HFL.out] at hc2 HU ⊢
  clear R2 O1
  unfold maxLen at hm2
  obtain ⟨pk, hpk⟩ : ∃ pk : Nat, pickF a1 ((p.length : Int) + 4) = (pk : Int) := ⟨_, (Int.toNat_of_nonneg (pickF_bd a1 _ (by omega)).1).symm⟩
  have hpk2 : (pk : Int) < (p.length : Int) + 4 := by rw [← hpk]; exact (pickF_bd a1 _ (by omega)).2
  obtain ⟨cc, hcc⟩ : ∃ cc : Nat, pickF a2 255 = (cc : Int) := ⟨_, (Int.toNat_of_nonneg (pickF_bd a2 _ (by omega)).1).symm⟩
  have hcc2 : (cc : Int) < 255 := by rw [← hcc]; exact (pickF_bd a2 _ (by omega)).2
  have hck := HC.out (k + pk) (by omega)
  have hfk := HF.out (k + pk)
  have hxb : 0 ≤ f.getD (k + pk) 0 ∧ f.getD (k + pk) 0 ≤ 255 := XW.out _ (by rw [List.getD_eq_getElem?_getD, List.getElem?_eq_getElem (show k + pk < f.length by rw [HFL.out]; omega)]; exact List.getElem_mem _)
  obtain ⟨x, hx⟩ : ∃ x : Nat, f.getD (k + pk) 0 = (x : Int) := ⟨_, (Int.toNat_of_nonneg hxb.1).symm⟩
  have HXE : Hid (f.getD (k + pk) 0 = (x : Int)) := hx
  rw [hx] at hck hxb
  clear hx
  have hxor : bits .xor .u8 (x : Int) (1 + (cc : Int)) = ((x ^^^ (1 + cc) : Nat) : Int) := u8_xor_nat x (1 + cc) (by omega) (by omega)
  have hyl : x ^^^ (1 + cc) < 256 := xor_lt8 (by omega) (by omega)
  have hyn : x ^^^ (1 + cc) ≠ x := fun h => by
    have h2 : x ^^^ (x ^^^ (1 + cc)) = x ^^^ x := by rw [h]
    rw [← Nat.xor_assoc, Nat.xor_self, Nat.zero_xor] at h2
    omega
  generalize x ^^^ (1 + cc) = y at *
  have HV : Hid (unwrapF (f.set (k + pk) (y : Int)) = ([], 0, 5)) := HU.out (k + pk) y (by omega) (by omega) (by omega) (by rw [HXE.out]; omega)
  have XS : Hid (∀ z ∈ f.set (k + pk) (y : Int), 0 ≤ z ∧ z ≤ 255) := fun z hz => by
    rcases List.mem_or_eq_of_mem_set hz with h | h
    · exact XW.out z h
    · rw [h]; omega
  have RR : Hid (Reads .u8 (w2.setCell ⟨g2, k + pk, none⟩ (.int .u8 (y : Int))) (.slice (some ⟨g2, 0, none⟩) (k + p.length + 4) c2) (f.set (k + pk) (y : Int))) := R2'.out _ _ (by omega)
  have BB : Hid (Below w.heap.size w (w2.setCell ⟨g2, k + pk, none⟩ (.int .u8 (y : Int)))) := B2.out.setCell (by show w.heap.size ≤ g2; omega) _
  clear HU hyn R2'
  generalize p.length = n at *
  have i0 : (0 : Int) ≤ (k : Int) + (pk : Int) := by omega
  have i1 : (k : Int) + (pk : Int) < (k : Int) + (n : Int) + 4 := by omega
  have i2 : ((k : Int) + (pk : Int)).toNat = k + pk := by omega
  have i3 : (k : Int) + (n : Int) + 4 - (n : Int) - 4 = (k : Int) := by omega
  set_option maxRecDepth 100000 in
  go_wp2_with fail
  have q1 : IntKind.i64.wrap ((n : Int) + 4) = (n : Int) + 4 := wrap_id64 (by omega) (by omega)
  have q2 : IntKind.i64.wrap ((k : Int) + (pk : Int)) = (k : Int) + (pk : Int) := wrap_id64 (by omega) (by omega)
  have q3 : IntKind.i64.wrap (1 + (cc : Int)) = 1 + (cc : Int) := wrap_id64 (by omega) (by omega)
  have q4 : IntKind.u8.wrap (1 + (cc : Int)) = 1 + (cc : Int) := by rw [IntKind.wrap_u8']; omega
  set_option maxRecDepth 100000 in
  go_region_with (first
    | (go_at_call 22; refine (picked_any _ _ _ ?_ ?_ ?_ ?_).mono ?_; omega; omega; omega; omega; rintro e w3 ⟨rfl, rfl⟩))
  all_goals
    go_wp2_with fail
    refine (unwrap_any _ (f.set (k + pk) (y : Int)) _ (RR.out.below (Below.refl _ _).drew (Nat.le_refl _)) XS.out).mono ?_
    rintro e w4 ⟨v4, rfl, hown4, hbel4⟩
    rw [HV.out] at hown4 ⊢
    have B4 : Hid (Below w.heap.size w w4) := BB.out.trans ((below_undrew hbel4).mono BB.out.size)
    rcases own_cases hown4 with ⟨rfl, _, _⟩ | ⟨g4, c4, rfl, _⟩
    all_goals
      clear hown4 hbel4
      go_wp2
      go_ret
      exact ⟨ret_bool (by simp), B4.out⟩


set_option maxRecDepth 100000 in
theorem lifted (os : Os) (started : os.Started) (H : Type) (enc : TypeId × Value → H) :
    ReturnsInHanded {} Try.checked os 8 .any (Rows.frameOneSpec.pre6 enc Try.prog Try.f8 Rows.frameOneRow.domain false) (Rows.frameOneSpec.post enc Try.prog Try.f8 false true false false) := by
  refine returnsInHanded_of_change_sized (C := Try.checked) own started (by kernel_rfl) Try.func8
    (ChangeSpec.witness6 (enc := enc) (C := Try.checked) false ⟨#[], #[.slice none 0 0, .int .i64 0, .int .i64 0], []⟩ 8 (by kernel_rfl) (by kernel_rfl) (by kernel_rfl) (by kernel_rfl)) ?_
  intro W base args ds gs before hval0 hW hcnd hsz0 _
  have hval : ∀ (j : Nat) t v, Try.f8.params[j]? = some t → args[j]? = some v → Value.okWide Try.prog W .any base t v := hval0
  have hW' := hW
  obtain ⟨p, q, hA0, hV, rfl, hfz, hnd⟩ := hW
  have hA : DataW.TrodAll enc Try.prog W 0 (fun _ => true) true Try.f8.params.toList args.toList ds p := hA0
  have hsz : (DataW.weightsEach Try.prog (Try.f8.params.toList ++ Rows.frameOneSpec.plain.varTypes Try.prog) (ds ++ gs)).all (fun x => decide (x ≤ reachBytes)) = true := hsz0
  rw [Try.params8] at hA hval hsz
  obtain ⟨v0, vs0, d0, ds0, p0, q0, hargs, rfl, rfl, h0, r0⟩ := trodAll_cons hA
  obtain ⟨v1, vs1, d1, ds1, p1, q1, rfl, rfl, rfl, h1, r1⟩ := trodAll_cons r0
  obtain ⟨v2, vs2, d2, ds2, p2, q2, rfl, rfl, rfl, h2, r2⟩ := trodAll_cons r1
  obtain ⟨rfl, rfl, rfl⟩ := trodAll_nil r2
  obtain rfl : args = #[v0, v1, v2] := by cases args; simp_all
  obtain ⟨rfl, rfl⟩ := trodVars_none hV
  obtain ⟨a0, len0, cap0, rfl⟩ := okWide_slice Try.underlying22 (hval 0 22 v0 rfl rfl)
  have k0 := h0
  have lt0 : ∀ x ∈ p0, x.block < W.heap.size := by obtain ⟨m, hm⟩ := k0; exact DataW.trod_lt m _ _ _ hm
  obtain ⟨z0, w0, s0⟩ : ∃ zs, IsRow .u8 W a0 len0 cap0 zs ∧ cap0 * 1 ≤ 140737488351232 := by
    obtain ⟨fuel, hf⟩ := h0
    rcases open_ints Try.underlying22 Try.underlying5 (by kernel_rfl) hf with ⟨hcs, _⟩ | ⟨x, l, c, zs, hcs, _, hl, hm, hz, hx, hcell, hwz⟩
    · simp [Value.cells] at hcs
      obtain ⟨rfl, rfl, rfl⟩ := hcs
      exact ⟨[], .inl ⟨rfl, rfl, rfl, rfl⟩, by simp⟩
    · simp [Value.cells] at hcs
      obtain ⟨rfl, rfl, rfl⟩ := hcs
      have hz2 : zs.length = cap0 := by simpa using hz
      simp only [Prod.mk.injEq] at hx
      have hd := hx.1
      have hr := sized_slice hsz (j := 0) (t := 22) (e := 5) rfl (by rw [hd]; rfl) Try.underlying22
      rw [show Try.prog.bytesOf 5 = 1 from by kernel_rfl] at hr
      simp only [lits, List.length_map, List.length_take, List.length_drop, reachBytes] at hr
      exact ⟨zs, .inr ⟨_, rfl, hl, hm, hz2, hcell, hwz⟩, by omega⟩
  obtain ⟨a1, rfl, rfl, rfl, w1⟩ := open_int Try.underlying3 (hval 1 3 v1 rfl rfl) h1
  obtain ⟨a2, rfl, rfl, rfl, w2⟩ := open_int Try.underlying3 (hval 2 3 v2 rfl rfl) h2
  clear hA0 hval0
  refine (walk a0 len0 cap0 z0 a1 a2 W s0 w0 w1 w2).mono fun e W' ⟨he, bel⟩ => ?_
  subst he
  exact ⟨_, rfl, _, _, _, [], _, [], hW', trodAll_mk1 (shut_bool Try.underlying4 _), (trodAll_cons_mk (Below.trod laidOut (by kernel_rfl) (of_decide_eq_true (by kernel_rfl)) k0 bel lt0) (trodAll_cons_mk (shut_int Try.underlying3 w1) (trodAll_cons_mk (shut_int Try.underlying3 w2) trodAll_mk0))), rfl, bel.frame _, fun h => by cases h⟩

theorem over : Rows.frameOneRow.holds Try.pinned (OpenSpec.ofChange Rows.frameOneSpec) :=
  OpenClaim.holds_of_wide 8 Try.f8 rfl rfl rfl rfl rfl rfl rfl ⟨rfl, rfl, rfl, rfl, rfl⟩ rfl rfl rfl rfl rfl (by kernel_rfl) Try.func8 (by kernel_rfl)
    (of_decide_eq_true (by kernel_rfl)) (by unfold Func.isWrapper; first | (rw [if_pos (by decide +kernel)]; kernel_rfl) | (rw [if_neg (by decide +kernel)]; exact ⟨rfl, rfl⟩))
    (fun os started H enc _ => lifted os started H enc)

/-- ████ THE STATEMENT ████ -/
theorem proved : Rows.FrameOneSaid := over
#print axioms proved
end Go.Proofs.Ytjagefchoggbaaa.frameOne

