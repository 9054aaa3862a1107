/-
  For whatever bytes p and tail, a frame that frame.Wrap made of at most 300 bytes is had again by frame.Unwrap, whatever stands behind it (the law FrameBack returns true, and both arguments read as before); no condition.
-/
import Derived.Test.YtjagefchoggbaaaFrameMath
import Derived.Test.YtjagefchoggbaaaSameKeep
import Derived.Test.YtjagefchoggbaaaSome
import Derived.Test.YtjagefchoggbaaaUnwrapFace
import Derived.WalkKit
import Derived.ProofKit
import Derived.OpenShut
import Derived.ShutString
import Derived.SizedLaws
import Derived.ChangeOld
import Derived.Below
namespace Go.Proofs.Ytjagefchoggbaaa.frameBack
open Go.ChangeShapes Go.WideShapes Go.ChangeAt Go.RowKit
open Go.ChangeMaps (open_string shut_string)
set_option linter.unusedVariables false

theorem own : ownKnob Try.prog.godebug = none := by kernel_rfl
theorem laidOut : laidOutB Try.prog = true := by kernel_rfl


set_option maxHeartbeats 1000000 in
set_option maxRecDepth 100000 in
theorem walk (a0 : Option Addr) (len0 cap0 : Nat) (z0 : List Int) (a1 : Option Addr) (len1 cap1 : Nat) (z1 : List Int) (w : World) (s0 : cap0 * 1 ≤ 140737488351232) (w0 : IsRow .u8 w a0 len0 cap0 z0) (s1 : cap1 * 1 ≤ 140737488351232) (w1 : IsRow .u8 w a1 len1 cap1 z1) :
    Calls Try.prog 7 #[.slice a0 len0 cap0, .slice a1 len1 cap1] w fun e w' => e = .returned (.bool true) ∧ Below w.heap.size w w' := by
  obtain ⟨r0, e0, le0, wf0⟩ := w0.reads
  obtain ⟨r1, e1, le1, wf1⟩ := w1.reads
  have R0 : Hid (Reads .u8 w (.slice a0 len0 cap0) (z0.take len0)) := r0
  have R1 : Hid (Reads .u8 w (.slice a1 len1 cap1) (z1.take len1)) := r1
  have X0 : Hid (∀ x ∈ z0.take len0, 0 ≤ x ∧ x ≤ 255) := bytes_wf wf0
  have X1 : Hid (∀ x ∈ z1.take len1, 0 ≤ x ∧ x ≤ 255) := bytes_wf wf1
  clear w0 wf0 r0 s0 w1 wf1 r1 s1
  generalize z0.take len0 = ps at *
  generalize z1.take len1 = ts at *
  go_enter Try.func7, Try.ntmps7
  go_wp2_with fail
  refine (some_any _ ps 300 _ R0.out (by omega)).mono ?_
  rintro e w1 ⟨v1, rfl, hown1, hbel1⟩
  have XP : Hid (∀ x ∈ ps.take 300, 0 ≤ x ∧ x ≤ 255) := fun x hx => X0.out x (List.mem_of_mem_take hx)
  have hpl : (ps.take 300).length ≤ 300 := by rw [List.length_take]; omega
  have O1 : Hid (w1.ownsRow w.heap.size 5 1 v1 (ps.take 300).length ((ps.take 300).map (Value.int .u8))) := hown1
  clear hown1
  generalize ps.take 300 = p at *
  have B1 : Hid (Below w.heap.size w w1) := hbel1
  have hs1 := hbel1.size
  clear hbel1
  go_wp2_with fail
  refine (wrap_any _ p _ (reads_own O1.out) XP.out (by omega)).mono ?_
  rintro e w2 ⟨v2, rfl, hown2, hbel2⟩
  have hwl : (wrap p).length ≤ 314 ∧ p.length + 5 ≤ (wrap p).length := by have := wrap_len p; have := put_len (p.length : Int); omega
  have XW : Hid (∀ x ∈ wrap p, 0 ≤ x ∧ x ≤ 255) := wrap_bytes XP.out (by omega)
  have HU : Hid (∀ t, unwrapF (wrap p ++ t) = (p, (wrap p).length, 0)) := fun t => unwrapF_wrap p t (by omega)
  have R2 : Hid (Reads .u8 w2 v2 (wrap p)) := reads_own hown2
  have O12 : Hid (w2.ownsRow w.heap.size 5 1 v1 p.length (p.map (Value.int .u8))) := own_below O1.out hbel2 (Nat.le_refl _)
  have B2 : Hid (Below w.heap.size w w2) := B1.out.trans (hbel2.mono hs1)
  have hs2 := B2.out.size
  obtain ⟨g2, c2, rfl, _, _, _, _, _⟩ := own_shape hown2 (by omega)
  clear hown2 hbel2
  generalize hf : wrap p = f at *
  clear hf
  go_wp2_with (at_builtin; refine wpList_append_reads rfl _ _ rfl w2.heap.size _ [] rfl (own_none _ _) _ f rfl R2.out (by rw [List.length_nil]; omega) (Nat.le_refl _) ?_)
  intro v3 w3 hown3 hbel3 _
  have O3 : Hid (w3.ownsRow w2.heap.size 5 1 v3 f.length (f.map (Value.int .u8))) := by simpa [Hid] using hown3
  have O13 : Hid (w3.ownsRow w.heap.size 5 1 v1 p.length (p.map (Value.int .u8))) := own_below O12.out hbel3 (Nat.le_refl _)
  have B3 : Hid (Below w.heap.size w w3) := B2.out.trans (hbel3.mono hs2)
  have hs3 := B3.out.size
  have hs3' := hbel3.size
  have C3 : Hid (Below w2.heap.size w2 w3) := hbel3
  clear hown3 hbel3
  go_wp2_with fail
  refine (some_any _ ts 20 _ (R1.out.below B3.out (Nat.le_refl _)) (by omega)).mono ?_
  rintro e w4 ⟨v4, rfl, hown4, hbel4⟩
  have XT : Hid (∀ x ∈ ts.take 20, 0 ≤ x ∧ x ≤ 255) := fun x hx => X1.out x (List.mem_of_mem_take hx)
  have htl : (ts.take 20).length ≤ 20 := by rw [List.length_take]; omega
  have O4 : Hid (w4.ownsRow w3.heap.size 5 1 v4 (ts.take 20).length ((ts.take 20).map (Value.int .u8))) := hown4
  clear hown4
  generalize ts.take 20 = t at *
  have O34 : Hid (w4.ownsRow w2.heap.size 5 1 v3 f.length (f.map (Value.int .u8))) := own_below O3.out hbel4 (Nat.le_refl _)
  have O14 : Hid (w4.ownsRow w.heap.size 5 1 v1 p.length (p.map (Value.int .u8))) := own_below O13.out hbel4 (Nat.le_refl _)
  have B4 : Hid (Below w.heap.size w w4) := B3.out.trans (hbel4.mono hs3)
  have hs4 := B4.out.size
  have hs4' := hbel4.size
  have C4 : Hid (Below w2.heap.size w2 w4) := C3.out.trans (hbel4.mono hs3')
  clear hbel4
  go_wp2_with (at_builtin; refine wpList_append_reads rfl _ _ rfl w2.heap.size _ f rfl O34.out _ t rfl (reads_own O4.out) (by omega) (by omega) ?_)
  intro v5 w5 hown5 hbel5 _
  have R5 : Hid (Reads .u8 w5 v5 (f ++ t)) := reads_own (by simpa using hown5)
  have B5 : Hid (Below w.heap.size w w5) := B4.out.trans (hbel5.mono hs2)
  have O15 : Hid (w5.ownsRow w.heap.size 5 1 v1 p.length (p.map (Value.int .u8))) := own_below O12.out (C4.out.trans hbel5) (Nat.le_refl _)
  have hs5 := B5.out.size
  clear hown5 hbel5
  have X5 : Hid (∀ x ∈ f ++ t, 0 ≤ x ∧ x ≤ 255) := fun x hx => by
    rcases List.mem_append.1 hx with h | h
    · exact XW.out x h
    · exact XT.out x h
  go_wp2_with fail
  refine (unwrap_any _ (f ++ t) _ R5.out X5.out).mono ?_
  rintro e w6 ⟨v6, rfl, hown6, hbel6⟩
  rw [HU.out] at hown6 ⊢
  have R6 : Hid (Reads .u8 w6 v6 p) := reads_own hown6
  have R16 : Hid (Reads .u8 w6 v1 p) := reads_own (own_below O15.out hbel6 (Nat.le_refl _))
  have B6 : Hid (Below w.heap.size w w6) := B5.out.trans (hbel6.mono hs5)
  clear hown6 hbel6
  obtain ⟨x1, y1, rfl, _, _, _, _⟩ := R16.out
  have b1 : ((f.length : Int) == (f.length : Int)) = true := by simp
  have b2 : decide ((p.length : Int) + 4 < (f.length : Int)) = true := by simp; omega
  go_wp2_with fail
  refine (sameBytesK_any _ _ p p _ R6.out R16.out XP.out XP.out).mono ?_
  rintro e w7 ⟨rfl, rfl⟩
  go_wp2
  go_ret
  exact ⟨ret_bool (by simp), B6.out⟩


set_option maxRecDepth 100000 in
theorem lifted (os : Os) (started : os.Started) (H : Type) (enc : TypeId × Value → H) :
    ReturnsInHanded {} Try.checked os 7 .any (Rows.frameBackSpec.pre6 enc Try.prog Try.f7 Rows.frameBackRow.domain false) (Rows.frameBackSpec.post enc Try.prog Try.f7 false true false false) := by
  refine returnsInHanded_of_change_sized (C := Try.checked) own started (by kernel_rfl) Try.func7
    (ChangeSpec.witness6 (enc := enc) (C := Try.checked) false ⟨#[], #[.slice none 0 0, .slice none 0 0], []⟩ 8 (by kernel_rfl) (by kernel_rfl) (by kernel_rfl) (by kernel_rfl)) ?_
  intro W base args ds gs before hval0 hW hcnd hsz0 _
  have hval : ∀ (j : Nat) t v, Try.f7.params[j]? = some t → args[j]? = some v → Value.okWide Try.prog W .any base t v := hval0
  have hW' := hW
  obtain ⟨p, q, hA0, hV, rfl, hfz, hnd⟩ := hW
  have hA : DataW.TrodAll enc Try.prog W 0 (fun _ => true) true Try.f7.params.toList args.toList ds p := hA0
  have hsz : (DataW.weightsEach Try.prog (Try.f7.params.toList ++ Rows.frameBackSpec.plain.varTypes Try.prog) (ds ++ gs)).all (fun x => decide (x ≤ reachBytes)) = true := hsz0
  rw [Try.params7] at hA hval hsz
  obtain ⟨v0, vs0, d0, ds0, p0, q0, hargs, rfl, rfl, h0, r0⟩ := trodAll_cons hA
  obtain ⟨v1, vs1, d1, ds1, p1, q1, rfl, rfl, rfl, h1, r1⟩ := trodAll_cons r0
  obtain ⟨rfl, rfl, rfl⟩ := trodAll_nil r1
  obtain rfl : args = #[v0, v1] := by cases args; simp_all
  obtain ⟨rfl, rfl⟩ := trodVars_none hV
  obtain ⟨a0, len0, cap0, rfl⟩ := okWide_slice Try.underlying22 (hval 0 22 v0 rfl rfl)
  have k0 := h0
  have lt0 : ∀ x ∈ p0, x.block < W.heap.size := by obtain ⟨m, hm⟩ := k0; exact DataW.trod_lt m _ _ _ hm
  obtain ⟨z0, w0, s0⟩ : ∃ zs, IsRow .u8 W a0 len0 cap0 zs ∧ cap0 * 1 ≤ 140737488351232 := by
    obtain ⟨fuel, hf⟩ := h0
    rcases open_ints Try.underlying22 Try.underlying5 (by kernel_rfl) hf with ⟨hcs, _⟩ | ⟨x, l, c, zs, hcs, _, hl, hm, hz, hx, hcell, hwz⟩
    · simp [Value.cells] at hcs
      obtain ⟨rfl, rfl, rfl⟩ := hcs
      exact ⟨[], .inl ⟨rfl, rfl, rfl, rfl⟩, by simp⟩
    · simp [Value.cells] at hcs
      obtain ⟨rfl, rfl, rfl⟩ := hcs
      have hz2 : zs.length = cap0 := by simpa using hz
      simp only [Prod.mk.injEq] at hx
      have hd := hx.1
      have hr := sized_slice hsz (j := 0) (t := 22) (e := 5) rfl (by rw [hd]; rfl) Try.underlying22
      rw [show Try.prog.bytesOf 5 = 1 from by kernel_rfl] at hr
      simp only [lits, List.length_map, List.length_take, List.length_drop, reachBytes] at hr
      exact ⟨zs, .inr ⟨_, rfl, hl, hm, hz2, hcell, hwz⟩, by omega⟩
  obtain ⟨a1, len1, cap1, rfl⟩ := okWide_slice Try.underlying22 (hval 1 22 v1 rfl rfl)
  have k1 := h1
  have lt1 : ∀ x ∈ p1, x.block < W.heap.size := by obtain ⟨m, hm⟩ := k1; exact DataW.trod_lt m _ _ _ hm
  obtain ⟨z1, w1, s1⟩ : ∃ zs, IsRow .u8 W a1 len1 cap1 zs ∧ cap1 * 1 ≤ 140737488351232 := by
    obtain ⟨fuel, hf⟩ := h1
    rcases open_ints Try.underlying22 Try.underlying5 (by kernel_rfl) hf with ⟨hcs, _⟩ | ⟨x, l, c, zs, hcs, _, hl, hm, hz, hx, hcell, hwz⟩
    · simp [Value.cells] at hcs
      obtain ⟨rfl, rfl, rfl⟩ := hcs
      exact ⟨[], .inl ⟨rfl, rfl, rfl, rfl⟩, by simp⟩
    · simp [Value.cells] at hcs
      obtain ⟨rfl, rfl, rfl⟩ := hcs
      have hz2 : zs.length = cap1 := by simpa using hz
      simp only [Prod.mk.injEq] at hx
      have hd := hx.1
      have hr := sized_slice hsz (j := 1) (t := 22) (e := 5) rfl (by rw [hd]; rfl) Try.underlying22
      rw [show Try.prog.bytesOf 5 = 1 from by kernel_rfl] at hr
      simp only [lits, List.length_map, List.length_take, List.length_drop, reachBytes] at hr
      exact ⟨zs, .inr ⟨_, rfl, hl, hm, hz2, hcell, hwz⟩, by omega⟩
  clear hA0 hval0
  refine (walk a0 len0 cap0 z0 a1 len1 cap1 z1 W s0 w0 s1 w1).mono fun e W' ⟨he, bel⟩ => ?_
  subst he
  exact ⟨_, rfl, _, _, _, [], _, [], hW', trodAll_mk1 (shut_bool Try.underlying4 _), (trodAll_cons_mk (Below.trod laidOut (by kernel_rfl) (of_decide_eq_true (by kernel_rfl)) k0 bel lt0) (trodAll_cons_mk (Below.trod laidOut (by kernel_rfl) (of_decide_eq_true (by kernel_rfl)) k1 bel lt1) trodAll_mk0)), rfl, bel.frame _, fun h => by cases h⟩

theorem over : Rows.frameBackRow.holds Try.pinned (OpenSpec.ofChange Rows.frameBackSpec) :=
  OpenClaim.holds_of_wide 7 Try.f7 rfl rfl rfl rfl rfl rfl rfl ⟨rfl, rfl, rfl, rfl, rfl⟩ rfl rfl rfl rfl rfl (by kernel_rfl) Try.func7 (by kernel_rfl)
    (of_decide_eq_true (by kernel_rfl)) (by unfold Func.isWrapper; first | (rw [if_pos (by decide +kernel)]; kernel_rfl) | (rw [if_neg (by decide +kernel)]; exact ⟨rfl, rfl⟩))
    (fun os started H enc _ => lifted os started H enc)

/-- ████ THE STATEMENT ████ -/
theorem proved : Rows.FrameBackSaid := over
#print axioms proved
end Go.Proofs.Ytjagefchoggbaaa.frameBack

