/-
  For every uint64 n and whatever bytes stand behind it, varint.Get of what varint.Put made answers n and how many bytes that are, 1 to 10 (the law VarintBack returns true, and both arguments read as before); no condition.
-/
import Derived.Test.YtneapdndidglcabGetWalk
import Derived.Test.YtneapdndidglcabSome
import Derived.WalkKit
import Derived.ProofKit
import Derived.OpenShut
import Derived.ShutString
import Derived.SizedLaws
import Derived.ChangeOld
import Derived.Below
namespace Go.Proofs.Ytneapdndidglcab.varintBack
open Go.ChangeShapes Go.WideShapes Go.ChangeAt Go.RowKit
open Go.ChangeMaps (open_string shut_string)
set_option linter.unusedVariables false

theorem own : ownKnob Try.prog.godebug = none := by kernel_rfl
theorem laidOut : laidOutB Try.prog = true := by kernel_rfl


set_option maxHeartbeats 1000000 in
theorem walk (a0 : Int) (a1 : Option Addr) (len1 cap1 : Nat) (z1 : List Int) (w : World) (w0 : (Lit.int .u64 a0).wf = true) (s1 : cap1 * 1 ≤ 140737488351232) (w1 : IsRow .u8 w a1 len1 cap1 z1) :
    Calls Try.prog 3 #[.int .u64 a0, .slice a1 len1 cap1] w fun e w' => e = .returned (.bool true) ∧ Below w.heap.size w w' := by
  obtain ⟨r1, e1, le1, wf1⟩ := w1.reads
  have hx := bytes_wf wf1
  have hb := bounds_u64 w0
  have RT : Hid (Reads .u8 w (.slice a1 len1 cap1) (z1.take len1)) := r1
  have HX : Hid (∀ x ∈ z1.take len1, 0 ≤ x ∧ x ≤ 255) := hx
  clear w1 wf1 r1 hx s1 w0
  generalize z1.take len1 = ts at *
  obtain ⟨i0, hi, hz0, hz1, hz2⟩ := info_parts Try.info5
  have lp := put_len a0
  have lt : (ts.take 20).length ≤ 20 := by simp; omega
  have HG : Hid (get (put a0 ++ ts.take 20) = (a0, (put a0).length, 0)) := get_put _ hb.1 hb.2
  have HBY : Hid (∀ x ∈ put a0 ++ ts.take 20, 0 ≤ x ∧ x ≤ 255) := fun x hx => by
    rcases List.mem_append.1 hx with h | h
    · exact put_bytes hb.1 hb.2 x h
    · exact HX.out x (List.mem_of_mem_take h)
  go_enter Try.func3, Try.ntmps3
  go_wp2_with fail
  refine (put_any a0 _ hb.1 hb.2).mono ?_
  rintro e w1 ⟨v1, rfl, hown1, hbel1⟩
  obtain ⟨g1, c1, rfl, hg1, hg1', hc1, hm1, hcell1⟩ := own_shape hown1 (by omega)
  have HC1 : Hid (∀ (j : Nat) (u : Value), ((put a0).map (Value.int .u8))[j]? = some u → w1.cell? ((⟨g1, 0, none⟩ : Addr).add j) = some u) := hcell1
  have hs1 := hbel1.size
  clear hown1 hcell1
  go_wp2_with (at_builtin; refine wpList_append_own _ rfl _ _ 23 rfl w.heap.size 5 i0 (.int .u8 0) 1 1 Try.underlying23 hi hz0 hz1 hz2 rfl (by decide) _ 0 [] rfl (World.ownsRow_nil _ _ _ _) ⟨g1, 0, none⟩ (put a0).length c1 ((put a0).map (Value.int .u8)) rfl (by simp) HC1.out (bytes_oneCell _) ?d3 ?d4 ?d5 ?_)
  case d3 => unfold maxLen; omega
  case d4 => omega
  case d5 => exact hs1
  intro v2 w2 hown2 hgrow2 _
  have hbel2 : Below w.heap.size w w2 := hbel1.grown hgrow2 hs1 (fun k hk => by simp [Value.ownBlock] at hk)
  have RT2 : Hid (Reads .u8 w2 (.slice a1 len1 cap1) ts) := RT.out.below hbel2 (Nat.le_refl _)
  have hs2 := hbel2.size
  clear hgrow2 HC1 hbel1
  have HO2 : Hid (w2.ownsRow w.heap.size 5 1 v2 (put a0).length ((put a0).map (Value.int .u8))) := by first | exact hown2 | (have := hown2; simp only [Nat.zero_add, List.nil_append] at this; exact this)
  clear hown2
  go_wp2_with fail
  refine (some_any _ ts 20 _ RT2.out (by omega)).mono ?_
  rintro e w3 ⟨v3, rfl, hown3, hbel3⟩
  generalize ts.take 20 = us at *
  have hown2' := own_below HO2.out hbel3 (Nat.le_refl _)
  have hbel4 : Below w.heap.size w w3 := hbel2.trans (hbel3.mono hs2)
  have hs4 := hbel4.size
  clear HO2 hbel2 hbel3 RT2
  rcases own_cases hown3 with ⟨rfl, h0, hnil⟩ | ⟨g3, c3, rfl, hg3, hg3', hc3, hm3, hcell3⟩
  · have htn : us = [] := List.eq_nil_of_length_eq_zero h0
    rw [htn, List.append_nil] at HG HBY
    have HR : Hid (Reads .u8 w3 v2 (put a0)) := reads_own hown2'
    clear hown3 h0 hnil htn
    go_wp2_with (at_builtin; refine wpList_append_own_none rfl _ _ 23 rfl w.heap.size 5 i0 1 Try.underlying23 hi _ _ _ rfl hown2' rfl ?_)
    refine (get_any _ (put a0) _ HR.out HBY.out).mono ?_
    rintro e w4 ⟨rfl, rfl⟩
    rw [HG.out]
    have b1 : (a0 == a0) = true := by simp
    have b2 : (((put a0).length : Int) == ((put a0).length : Int)) = true := by simp
    go_wp2
    go_ret
    exact ⟨ret_bool (by simp; try omega), hbel4⟩
  · have HC3 : Hid (∀ (j : Nat) (u : Value), ((us).map (Value.int .u8))[j]? = some u → w3.cell? ((⟨g3, 0, none⟩ : Addr).add j) = some u) := hcell3
    clear hown3 hcell3
    go_wp2_with (at_builtin; refine wpList_append_own _ rfl _ _ 23 rfl w.heap.size 5 i0 (.int .u8 0) 1 1 Try.underlying23 hi hz0 hz1 hz2 rfl (by decide) _ _ _ rfl hown2' ⟨g3, 0, none⟩ (us).length c3 ((us).map (Value.int .u8)) rfl (by simp) HC3.out (bytes_oneCell _) ?e3 ?e4 ?e5 ?_)
    case e3 => unfold maxLen; omega
    case e4 => omega
    case e5 => exact hs4
    intro v4 w4 hown4 hgrow4 _
    have hbel5 : Below w.heap.size w w4 := hbel4.grown hgrow4 hs4 (fun k hk => (hown2'.lt k hk).1)
    have HR : Hid (Reads .u8 w4 v4 (put a0 ++ us)) := reads_own (by simpa using hown4)
    clear hown4 hgrow4 HC3 hown2' hbel4
    go_wp2_with fail
    refine (get_any _ (put a0 ++ us) _ HR.out HBY.out).mono ?_
    rintro e w5 ⟨rfl, rfl⟩
    rw [HG.out]
    have b1 : (a0 == a0) = true := by simp
    have b2 : (((put a0).length : Int) == ((put a0).length : Int)) = true := by simp
    go_wp2
    go_ret
    exact ⟨ret_bool (by simp; try omega), hbel5⟩


set_option maxRecDepth 100000 in
theorem lifted (os : Os) (started : os.Started) (H : Type) (enc : TypeId × Value → H) :
    ReturnsInHanded {} Try.checked os 3 .any (Rows.varintBackSpec.pre6 enc Try.prog Try.f3 Rows.varintBackRow.domain false) (Rows.varintBackSpec.post enc Try.prog Try.f3 false true false false) := by
  refine returnsInHanded_of_change_sized (C := Try.checked) own started (by kernel_rfl) Try.func3
    (ChangeSpec.witness6 (enc := enc) (C := Try.checked) false ⟨#[], #[.int .u64 0, .slice none 0 0], []⟩ 8 (by kernel_rfl) (by kernel_rfl) (by kernel_rfl) (by kernel_rfl)) ?_
  intro W base args ds gs before hval0 hW hcnd hsz0 _
  have hval : ∀ (j : Nat) t v, Try.f3.params[j]? = some t → args[j]? = some v → Value.okWide Try.prog W .any base t v := hval0
  have hW' := hW
  obtain ⟨p, q, hA0, hV, rfl, hfz, hnd⟩ := hW
  have hA : DataW.TrodAll enc Try.prog W 0 (fun _ => true) true Try.f3.params.toList args.toList ds p := hA0
  have hsz : (DataW.weightsEach Try.prog (Try.f3.params.toList ++ Rows.varintBackSpec.plain.varTypes Try.prog) (ds ++ gs)).all (fun x => decide (x ≤ reachBytes)) = true := hsz0
  rw [Try.params3] at hA hval hsz
  obtain ⟨v0, vs0, d0, ds0, p0, q0, hargs, rfl, rfl, h0, r0⟩ := trodAll_cons hA
  obtain ⟨v1, vs1, d1, ds1, p1, q1, rfl, rfl, rfl, h1, r1⟩ := trodAll_cons r0
  obtain ⟨rfl, rfl, rfl⟩ := trodAll_nil r1
  obtain rfl : args = #[v0, v1] := by cases args; simp_all
  obtain ⟨rfl, rfl⟩ := trodVars_none hV
  obtain ⟨a0, rfl, rfl, rfl, w0⟩ := open_int Try.underlying22 (hval 0 22 v0 rfl rfl) h0
  obtain ⟨a1, len1, cap1, rfl⟩ := okWide_slice Try.underlying23 (hval 1 23 v1 rfl rfl)
  have k1 := h1
  have lt1 : ∀ x ∈ p1, x.block < W.heap.size := by obtain ⟨m, hm⟩ := k1; exact DataW.trod_lt m _ _ _ hm
  obtain ⟨z1, w1, s1⟩ : ∃ zs, IsRow .u8 W a1 len1 cap1 zs ∧ cap1 * 1 ≤ 140737488351232 := by
    obtain ⟨fuel, hf⟩ := h1
    rcases open_ints Try.underlying23 Try.underlying5 (by kernel_rfl) hf with ⟨hcs, _⟩ | ⟨x, l, c, zs, hcs, _, hl, hm, hz, hx, hcell, hwz⟩
    · simp [Value.cells] at hcs
      obtain ⟨rfl, rfl, rfl⟩ := hcs
      exact ⟨[], .inl ⟨rfl, rfl, rfl, rfl⟩, by simp⟩
    · simp [Value.cells] at hcs
      obtain ⟨rfl, rfl, rfl⟩ := hcs
      have hz2 : zs.length = cap1 := by simpa using hz
      simp only [Prod.mk.injEq] at hx
      have hd := hx.1
      have hr := sized_slice hsz (j := 1) (t := 23) (e := 5) rfl (by rw [hd]; rfl) Try.underlying23
      rw [show Try.prog.bytesOf 5 = 1 from by kernel_rfl] at hr
      simp only [lits, List.length_map, List.length_take, List.length_drop, reachBytes] at hr
      exact ⟨zs, .inr ⟨_, rfl, hl, hm, hz2, hcell, hwz⟩, by omega⟩
  clear hA0 hval0
  refine (walk a0 a1 len1 cap1 z1 W w0 s1 w1).mono fun e W' ⟨he, bel⟩ => ?_
  subst he
  exact ⟨_, rfl, _, _, _, [], _, [], hW', trodAll_mk1 (shut_bool Try.underlying4 _), (trodAll_cons_mk (shut_int Try.underlying22 w0) (trodAll_cons_mk (Below.trod laidOut (by kernel_rfl) (of_decide_eq_true (by kernel_rfl)) k1 bel lt1) trodAll_mk0)), rfl, bel.frame _, fun h => by cases h⟩

theorem over : Rows.varintBackRow.holds Try.pinned (OpenSpec.ofChange Rows.varintBackSpec) :=
  OpenClaim.holds_of_wide 3 Try.f3 rfl rfl rfl rfl rfl rfl rfl ⟨rfl, rfl, rfl, rfl, rfl⟩ rfl rfl rfl rfl rfl (by kernel_rfl) Try.func3 (by kernel_rfl)
    (of_decide_eq_true (by kernel_rfl)) (by unfold Func.isWrapper; first | (rw [if_pos (by decide +kernel)]; kernel_rfl) | (rw [if_neg (by decide +kernel)]; exact ⟨rfl, rfl⟩))
    (fun os started H enc _ => lifted os started H enc)

/-- ████ THE STATEMENT ████ -/
theorem proved : Rows.VarintBackSaid := over
#print axioms proved
end Go.Proofs.Ytneapdndidglcab.varintBack

