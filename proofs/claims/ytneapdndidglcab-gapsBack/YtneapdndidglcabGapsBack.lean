/-
  For every list of ints, made to rise, and whatever bytes stand behind it: varint.Gaps packs it, and varint.Ungap of that answers the list and how many bytes that are (the law GapsBack returns true, and both arguments read as before); no condition.
-/
import Derived.Test.YtneapdndidglcabRising
import Derived.Test.YtneapdndidglcabSome
import Derived.WalkKit
import Derived.ProofKit
import Derived.OpenShut
import Derived.ShutString
import Derived.SizedLaws
import Derived.ChangeOld
import Derived.Below
namespace Go.Proofs.Ytneapdndidglcab.gapsBack
open Go.ChangeShapes Go.WideShapes Go.ChangeAt Go.RowKit
open Go.ChangeMaps (open_string shut_string)
set_option linter.unusedVariables false

theorem own : ownKnob Try.prog.godebug = none := by kernel_rfl
theorem laidOut : laidOutB Try.prog = true := by kernel_rfl

theorem gapsTo_ge (l : List Int) : ∀ k, k ≤ (gapsTo l k).length
  | 0 => by simp
  | k + 1 => by
    have := gapsTo_ge l k
    have := put_len (l.getD k 0 - prev l k)
    simp only [gapsTo, List.length_append]; omega
set_option maxHeartbeats 1000000 in
theorem walk (a0 : Option Addr) (len0 cap0 : Nat) (z0 : List Int) (a1 : Option Addr) (len1 cap1 : Nat) (z1 : List Int) (w : World) (s0 : cap0 * 8 ≤ 140737488351232) (w0 : IsRow .i64 w a0 len0 cap0 z0) (s1 : cap1 * 1 ≤ 140737488351232) (w1 : IsRow .u8 w a1 len1 cap1 z1) :
    Calls Try.prog 7 #[.slice a0 len0 cap0, .slice a1 len1 cap1] w fun e w' => e = .returned (.bool true) ∧ Below w.heap.size w w' := by
  obtain ⟨r0, e0, le0, wf0⟩ := w0.reads
  obtain ⟨r1, e1, le1, wf1⟩ := w1.reads
  have R0 : Hid (Reads .i64 w (.slice a0 len0 cap0) (z0.take len0)) := r0
  have RT : Hid (Reads .u8 w (.slice a1 len1 cap1) (z1.take len1)) := r1
  have HX0 : Hid (∀ x ∈ z0.take len0, -9223372036854775808 ≤ x ∧ x ≤ 9223372036854775807) := fun x hx => bounds_i64 (wf0 x hx)
  have HX : Hid (∀ x ∈ z1.take len1, 0 ≤ x ∧ x ≤ 255) := bytes_wf wf1
  clear w1 wf1 r1 s1 w0 wf0 r0 s0
  generalize z1.take len1 = ts at *
  generalize z0.take len0 = rs at *
  obtain ⟨i0, hi, hz0, hz1, hz2⟩ := info_parts Try.info5
  go_enter Try.func7, Try.ntmps7
  go_wp2_with fail
  refine (rising_any _ rs _ R0.out HX0.out).mono ?_
  rintro e wa ⟨va, l, rfl, hll, hla, hlr, howna, hbela⟩
  have HN : Hid (Named l 0) := .inr (.inr (.inr ⟨rfl, by omega, hla, hlr⟩))
  have RA : Hid (Reads .i64 wa va l) := reads_own howna
  obtain ⟨aa, ca, rfl⟩ : ∃ a c, va = .slice a l.length c := by obtain ⟨a, c, h, _⟩ := RA.out; exact ⟨a, c, h⟩
  clear hla hlr howna R0 HX0
  go_wp2_with fail
  refine (gaps_any _ l _ RA.out).mono ?_
  rintro e wb ⟨c, vb, rfl, hnb, hownb, hbelb⟩
  obtain rfl : c = 0 := hnb.one HN.out
  have RA2 : Hid (Reads .i64 wb (.slice aa l.length ca) l) := RA.out.below hbelb (Nat.le_refl _)
  have hb1 : Below w.heap.size w wb := hbela.trans (hbelb.mono hbela.size)
  have hlb : l.length + 1 ≤ (gapsF l 0).length ∧ (gapsF l 0).length ≤ 1010 := by
    have h1 := gapsTo_ge l l.length
    have h2 := gapsTo_len l l.length
    have h3 := put_len l.length
    show l.length + 1 ≤ (put (l.length : Int) ++ gapsTo l l.length).length ∧ (put (l.length : Int) ++ gapsTo l l.length).length ≤ 1010
    rw [List.length_append]; omega
  have HU : Hid (ungap (gapsF l 0 ++ ts.take 20) = (l, (gapsF l 0).length, 0)) := ungap_gaps _ HN.out
  have HBY : Hid (∀ x ∈ gapsF l 0 ++ ts.take 20, 0 ≤ x ∧ x ≤ 255) := fun x hx => by
    rcases List.mem_append.1 hx with h | h
    · exact gapsF_bytes HN.out x h
    · exact HX.out x (List.mem_of_mem_take h)
  have lt : (ts.take 20).length ≤ 20 := by simp; omega
  generalize gapsF l 0 = bs at *
  obtain ⟨g1, c1, rfl, hg1, hg1', hc1, hm1, hcell1⟩ := own_shape hownb (by omega)
  have HC1 : Hid (∀ (j : Nat) (u : Value), (bs.map (Value.int .u8))[j]? = some u → wb.cell? ((⟨g1, 0, none⟩ : Addr).add j) = some u) := hcell1
  have hs1 := hb1.size
  clear hownb hcell1 hnb hbela hbelb RA
  go_wp2_with (at_builtin; refine wpList_append_own _ rfl _ _ 23 rfl wb.heap.size 5 i0 (.int .u8 0) 1 1 Try.underlying23 hi hz0 hz1 hz2 rfl (by decide) _ 0 [] rfl (World.ownsRow_nil _ _ _ _) ⟨g1, 0, none⟩ bs.length c1 (bs.map (Value.int .u8)) rfl (by simp) HC1.out (bytes_oneCell _) ?d3 ?d4 ?d5 ?_)
  case d3 => unfold maxLen; omega
  case d4 => omega
  case d5 => exact Nat.le_refl _
  intro v2 w2 hown2 hgrow2 _
  have hbn : Below wb.heap.size wb w2 := (Below.refl _ _).grown hgrow2 (Nat.le_refl _) (fun k hk => by simp [Value.ownBlock] at hk)
  have hbel2 : Below w.heap.size w w2 := hb1.trans (hbn.mono hs1)
  have RT2 : Hid (Reads .u8 w2 (.slice a1 len1 cap1) ts) := RT.out.below hbel2 (Nat.le_refl _)
  have hs2 := hbel2.size
  have HO2 : Hid (w2.ownsRow wb.heap.size 5 1 v2 bs.length (bs.map (Value.int .u8))) := by first | exact hown2 | (have := hown2; simp only [Nat.zero_add, List.nil_append] at this; exact this)
  have hsn := hbn.size
  clear hgrow2 HC1 hown2
  go_wp2_with fail
  refine (some_any _ ts 20 _ RT2.out (by omega)).mono ?_
  rintro e w3 ⟨v3, rfl, hown3, hbel3⟩
  generalize ts.take 20 = us at *
  have hown2' := own_below HO2.out hbel3 (Nat.le_refl _)
  have hbn3 : Below wb.heap.size wb w3 := hbn.trans (hbel3.mono hsn)
  have hsn3 := hbn3.size
  have RA4 : Hid (Reads .i64 w3 (.slice aa l.length ca) l) := RA2.out.below hbn3 (Nat.le_refl _)
  have hbel4 : Below w.heap.size w w3 := hbel2.trans (hbel3.mono hs2)
  have hs4 := hbel4.size
  clear HO2 hbel2 hbel3 RT2 hbn
  rcases own_cases hown3 with ⟨rfl, h0, hnil⟩ | ⟨g3, c3, rfl, hg3, hg3', hc3, hm3, hcell3⟩
  · have htn : us = [] := List.eq_nil_of_length_eq_zero h0
    rw [htn, List.append_nil] at HU HBY
    have HR : Hid (Reads .u8 w3 v2 bs) := reads_own hown2'
    clear hown3 h0 hnil htn
    go_wp2_with (at_builtin; refine wpList_append_own_none rfl _ _ 23 rfl wb.heap.size 5 i0 1 Try.underlying23 hi _ _ _ rfl hown2' rfl ?_)
    refine (ungap_any _ bs _ HR.out HBY.out).mono ?_
    rintro e w5 ⟨v5, rfl, hown5, hbel5⟩
    rw [HU.out] at hown5 ⊢
    have HO5 : Hid (Reads .i64 w5 v5 l) := reads_own hown5
    have RA5 : Hid (Reads .i64 w5 (.slice aa l.length ca) l) := RA4.out.below hbel5 (Nat.le_refl _)
    have hbel6 : Below w.heap.size w w5 := hbel4.trans (hbel5.mono hs4)
    clear hown5 hbel5 hbel4 RA4
    have b2 : ((bs.length : Int) == (bs.length : Int)) = true := by simp
    have b3 : (l.length : Int) < (bs.length : Int) := by omega
    go_wp2_with fail
    refine (sameInts_any _ _ l l _ HO5.out RA5.out).mono ?_
    rintro e w7 ⟨rfl, hbel7⟩
    have b4 : decide (l = l) = true := by simp
    rw [b4]
    clear b4
    go_wp2
    go_ret
    exact ⟨ret_bool (by simp), hbel6.trans (hbel7.mono hbel6.size)⟩
  · have HC3 : Hid (∀ (j : Nat) (u : Value), (us.map (Value.int .u8))[j]? = some u → w3.cell? ((⟨g3, 0, none⟩ : Addr).add j) = some u) := hcell3
    clear hown3 hcell3
    go_wp2_with (at_builtin; refine wpList_append_own _ rfl _ _ 23 rfl wb.heap.size 5 i0 (.int .u8 0) 1 1 Try.underlying23 hi hz0 hz1 hz2 rfl (by decide) _ _ _ rfl hown2' ⟨g3, 0, none⟩ us.length c3 (us.map (Value.int .u8)) rfl (by simp) HC3.out (bytes_oneCell _) ?e3 ?e4 ?e5 ?_)
    case e3 => unfold maxLen; omega
    case e4 => omega
    case e5 => exact hsn3
    intro v4 w4 hown4 hgrow4 _
    have hbn4 : Below wb.heap.size wb w4 := hbn3.grown hgrow4 hsn3 (fun k hk => (hown2'.lt k hk).1)
    have RA4' : Hid (Reads .i64 w4 (.slice aa l.length ca) l) := RA2.out.below hbn4 (Nat.le_refl _)
    have hbel5 : Below w.heap.size w w4 := hb1.trans (hbn4.mono hs1)
    have HR : Hid (Reads .u8 w4 v4 (bs ++ us)) := reads_own (by simpa using hown4)
    clear hown4 hgrow4 HC3 hown2' hbel4 RA4
    have hs5 := hbel5.size
    go_wp2_with fail
    refine (ungap_any _ (bs ++ us) _ HR.out HBY.out).mono ?_
    rintro e w5 ⟨v5, rfl, hown5, hbel6⟩
    rw [HU.out] at hown5 ⊢
    have HO5 : Hid (Reads .i64 w5 v5 l) := reads_own hown5
    have RA5 : Hid (Reads .i64 w5 (.slice aa l.length ca) l) := RA4'.out.below hbel6 (Nat.le_refl _)
    have hbel7 : Below w.heap.size w w5 := hbel5.trans (hbel6.mono hs5)
    clear hown5 hbel5 hbel6 RA4'
    have b2 : ((bs.length : Int) == (bs.length : Int)) = true := by simp
    have b3 : (l.length : Int) < (bs.length : Int) := by omega
    go_wp2_with fail
    refine (sameInts_any _ _ l l _ HO5.out RA5.out).mono ?_
    rintro e w7 ⟨rfl, hbel8⟩
    have b4 : decide (l = l) = true := by simp
    rw [b4]
    clear b4
    go_wp2
    go_ret
    exact ⟨ret_bool (by simp), hbel7.trans (hbel8.mono hbel7.size)⟩


set_option maxRecDepth 100000 in
theorem lifted (os : Os) (started : os.Started) (H : Type) (enc : TypeId × Value → H) :
    ReturnsInHanded {} Try.checked os 7 .any (Rows.gapsBackSpec.pre6 enc Try.prog Try.f7 Rows.gapsBackRow.domain false) (Rows.gapsBackSpec.post enc Try.prog Try.f7 false true false false) := by
  refine returnsInHanded_of_change_sized (C := Try.checked) own started (by kernel_rfl) Try.func7
    (ChangeSpec.witness6 (enc := enc) (C := Try.checked) false ⟨#[], #[.slice none 0 0, .slice none 0 0], []⟩ 8 (by kernel_rfl) (by kernel_rfl) (by kernel_rfl) (by kernel_rfl)) ?_
  intro W base args ds gs before hval0 hW hcnd hsz0 _
  have hval : ∀ (j : Nat) t v, Try.f7.params[j]? = some t → args[j]? = some v → Value.okWide Try.prog W .any base t v := hval0
  have hW' := hW
  obtain ⟨p, q, hA0, hV, rfl, hfz, hnd⟩ := hW
  have hA : DataW.TrodAll enc Try.prog W 0 (fun _ => true) true Try.f7.params.toList args.toList ds p := hA0
  have hsz : (DataW.weightsEach Try.prog (Try.f7.params.toList ++ Rows.gapsBackSpec.plain.varTypes Try.prog) (ds ++ gs)).all (fun x => decide (x ≤ reachBytes)) = true := hsz0
  rw [Try.params7] at hA hval hsz
  obtain ⟨v0, vs0, d0, ds0, p0, q0, hargs, rfl, rfl, h0, r0⟩ := trodAll_cons hA
  obtain ⟨v1, vs1, d1, ds1, p1, q1, rfl, rfl, rfl, h1, r1⟩ := trodAll_cons r0
  obtain ⟨rfl, rfl, rfl⟩ := trodAll_nil r1
  obtain rfl : args = #[v0, v1] := by cases args; simp_all
  obtain ⟨rfl, rfl⟩ := trodVars_none hV
  obtain ⟨a0, len0, cap0, rfl⟩ := okWide_slice Try.underlying36 (hval 0 36 v0 rfl rfl)
  have k0 := h0
  have lt0 : ∀ x ∈ p0, x.block < W.heap.size := by obtain ⟨m, hm⟩ := k0; exact DataW.trod_lt m _ _ _ hm
  obtain ⟨z0, w0, s0⟩ : ∃ zs, IsRow .i64 W a0 len0 cap0 zs ∧ cap0 * 8 ≤ 140737488351232 := by
    obtain ⟨fuel, hf⟩ := h0
    rcases open_ints Try.underlying36 Try.underlying3 (by kernel_rfl) hf with ⟨hcs, _⟩ | ⟨x, l, c, zs, hcs, _, hl, hm, hz, hx, hcell, hwz⟩
    · simp [Value.cells] at hcs
      obtain ⟨rfl, rfl, rfl⟩ := hcs
      exact ⟨[], .inl ⟨rfl, rfl, rfl, rfl⟩, by simp⟩
    · simp [Value.cells] at hcs
      obtain ⟨rfl, rfl, rfl⟩ := hcs
      have hz2 : zs.length = cap0 := by simpa using hz
      simp only [Prod.mk.injEq] at hx
      have hd := hx.1
      have hr := sized_slice hsz (j := 0) (t := 36) (e := 3) rfl (by rw [hd]; rfl) Try.underlying36
      rw [show Try.prog.bytesOf 3 = 8 from by kernel_rfl] at hr
      simp only [lits, List.length_map, List.length_take, List.length_drop, reachBytes] at hr
      exact ⟨zs, .inr ⟨_, rfl, hl, hm, hz2, hcell, hwz⟩, by omega⟩
  obtain ⟨a1, len1, cap1, rfl⟩ := okWide_slice Try.underlying23 (hval 1 23 v1 rfl rfl)
  have k1 := h1
  have lt1 : ∀ x ∈ p1, x.block < W.heap.size := by obtain ⟨m, hm⟩ := k1; exact DataW.trod_lt m _ _ _ hm
  obtain ⟨z1, w1, s1⟩ : ∃ zs, IsRow .u8 W a1 len1 cap1 zs ∧ cap1 * 1 ≤ 140737488351232 := by
    obtain ⟨fuel, hf⟩ := h1
    rcases open_ints Try.underlying23 Try.underlying5 (by kernel_rfl) hf with ⟨hcs, _⟩ | ⟨x, l, c, zs, hcs, _, hl, hm, hz, hx, hcell, hwz⟩
    · simp [Value.cells] at hcs
      obtain ⟨rfl, rfl, rfl⟩ := hcs
      exact ⟨[], .inl ⟨rfl, rfl, rfl, rfl⟩, by simp⟩
    · simp [Value.cells] at hcs
      obtain ⟨rfl, rfl, rfl⟩ := hcs
      have hz2 : zs.length = cap1 := by simpa using hz
      simp only [Prod.mk.injEq] at hx
      have hd := hx.1
      have hr := sized_slice hsz (j := 1) (t := 23) (e := 5) rfl (by rw [hd]; rfl) Try.underlying23
      rw [show Try.prog.bytesOf 5 = 1 from by kernel_rfl] at hr
      simp only [lits, List.length_map, List.length_take, List.length_drop, reachBytes] at hr
      exact ⟨zs, .inr ⟨_, rfl, hl, hm, hz2, hcell, hwz⟩, by omega⟩
  clear hA0 hval0
  refine (walk a0 len0 cap0 z0 a1 len1 cap1 z1 W s0 w0 s1 w1).mono fun e W' ⟨he, bel⟩ => ?_
  subst he
  exact ⟨_, rfl, _, _, _, [], _, [], hW', trodAll_mk1 (shut_bool Try.underlying4 _), (trodAll_cons_mk (Below.trod laidOut (by kernel_rfl) (of_decide_eq_true (by kernel_rfl)) k0 bel lt0) (trodAll_cons_mk (Below.trod laidOut (by kernel_rfl) (of_decide_eq_true (by kernel_rfl)) k1 bel lt1) trodAll_mk0)), rfl, bel.frame _, fun h => by cases h⟩

theorem over : Rows.gapsBackRow.holds Try.pinned (OpenSpec.ofChange Rows.gapsBackSpec) :=
  OpenClaim.holds_of_wide 7 Try.f7 rfl rfl rfl rfl rfl rfl rfl ⟨rfl, rfl, rfl, rfl, rfl⟩ rfl rfl rfl rfl rfl (by kernel_rfl) Try.func7 (by kernel_rfl)
    (of_decide_eq_true (by kernel_rfl)) (by unfold Func.isWrapper; first | (rw [if_pos (by decide +kernel)]; kernel_rfl) | (rw [if_neg (by decide +kernel)]; exact ⟨rfl, rfl⟩))
    (fun os started H enc _ => lifted os started H enc)

/-- ████ THE STATEMENT ████ -/
theorem proved : Rows.GapsBackSaid := over
#print axioms proved
end Go.Proofs.Ytneapdndidglcab.gapsBack

