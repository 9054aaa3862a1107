/-
  For every slice of bytes, cut to 200: what varint.Ungap refuses has no numbers and the count 0; what it answers is, packed by varint.Gaps again, just the bytes that it took (the law GapsFixed returns true, and its argument reads as before); no condition.
-/
import Derived.Test.YtneapdndidglcabGapsPlain
import Derived.Test.YtneapdndidglcabSome
import Derived.WalkKit
import Derived.ProofKit
import Derived.OpenShut
import Derived.ShutString
import Derived.SizedLaws
import Derived.ChangeOld
import Derived.Below
namespace Go.Proofs.Ytneapdndidglcab.gapsFixed
open Go.ChangeShapes Go.WideShapes Go.ChangeAt Go.RowKit
open Go.ChangeMaps (open_string shut_string)
set_option linter.unusedVariables false

theorem own : ownKnob Try.prog.godebug = none := by kernel_rfl
theorem laidOut : laidOutB Try.prog = true := by kernel_rfl

theorem reads_take {w : World} {g cap : Nat} {ys zs : List Int} (hc : ys.length ≤ cap) (hm : cap ≤ maxLen) (hl : zs.length ≤ ys.length) (h : ∀ i, i < zs.length → zs.getD i 0 = ys.getD i 0)
    (hcell : ∀ j u, (ys.map (Value.int .u8))[j]? = some u → w.cell? ((⟨g, 0, none⟩ : Addr).add j) = some u) : Reads .u8 w (.slice (some ⟨g, 0, none⟩) zs.length cap) zs := by
  refine ⟨_, cap, rfl, by omega, hm, fun hx => (by cases hx), ?_⟩
  intro x hx i hi
  injection hx with hx
  subst hx
  rw [h i hi]
  refine hcell i _ ?_
  rw [List.getElem?_map, List.getElem?_eq_getElem (by omega)]
  simp [List.getD_eq_getElem?_getD, List.getElem?_eq_getElem (show i < ys.length by omega)]
set_option maxHeartbeats 1000000 in
theorem walk (a0 : Option Addr) (len0 cap0 : Nat) (z0 : List Int) (w : World) (s0 : cap0 * 1 ≤ 140737488351232) (w0 : IsRow .u8 w a0 len0 cap0 z0) :
    Calls Try.prog 8 #[.slice a0 len0 cap0] w fun e w' => e = .returned (.bool true) ∧ Below w.heap.size w w' := by
  obtain ⟨r0, e0, le0, wf0⟩ := w0.reads
  have hx := bytes_wf wf0
  have R0 : Hid (Reads .u8 w (.slice a0 len0 cap0) (z0.take len0)) := r0
  have HX : Hid (∀ x ∈ (z0.take len0).take 200, 0 ≤ x ∧ x ≤ 255) := fun x h => hx x (List.mem_of_mem_take h)
  clear w0 wf0 r0 hx s0
  generalize z0.take len0 = xs at *
  go_enter Try.func8, Try.ntmps8
  go_wp2_with fail
  refine (some_any _ xs 200 _ R0.out (by omega)).mono ?_
  rintro e w1 ⟨v1, rfl, hown1, hbel1⟩
  generalize xs.take 200 = ys at *
  have R1 : Hid (Reads .u8 w1 v1 ys) := reads_own hown1
  have HO1 : Hid (w1.ownsRow w.heap.size 5 1 v1 ys.length (ys.map (Value.int .u8))) := hown1
  clear hown1 R0
  go_wp2_with fail
  refine (ungap_any _ ys _ R1.out HX.out).mono ?_
  rintro e w2 ⟨v2, rfl, hown2, hbel2⟩
  have hbA : Below w.heap.size w w2 := hbel1.trans (hbel2.mono hbel1.size)
  rcases ungap_inv HX.out with ⟨e, he, hne⟩ | ⟨x, k, he, hnm, hk, hk1, hgf⟩
  · rw [he] at hown2 ⊢
    have hne' : (e != 0) = true := by simp [hne]
    rcases own_cases hown2 with ⟨rfl, _, _⟩ | ⟨g, cap, rfl, _⟩
    all_goals
      clear he hne hown2
      go_wp2
      go_ret
      exact ⟨ret_bool (by simp), hbA⟩
  · rw [he] at hown2 ⊢
    have RX : Hid (Reads .i64 w2 v2 x) := reads_own hown2
    have HN : Hid (Named x 0) := hnm
    have HO1' := own_below HO1.out hbel2 (Nat.le_refl _)
    have hzl : (gapsF x 0).length = k := by rw [hgf, List.length_take_of_le hk]
    obtain ⟨g, cap, rfl, hg, hg', hc, hm, hcell⟩ := own_shape HO1' (by omega)
    have R2 : Hid (∀ w', Below w2.heap.size w2 w' → Reads .u8 w' (.slice (some ⟨g, 0, none⟩) k cap) (gapsF x 0)) := fun w' hb => by
      have h1 := reads_take (zs := gapsF x 0) hc hm (by omega) (fun i hi => by
        rw [hgf, List.getD_eq_getElem?_getD, List.getD_eq_getElem?_getD, List.getElem?_take_of_lt (by omega)]) hcell
      rw [hzl] at h1
      exact h1.below hb (Nat.le_refl _)
    have HB : Hid (∀ y ∈ gapsF x 0, 0 ≤ y ∧ y ≤ 255) := gapsF_bytes hnm
    unfold maxLen at hm
    clear he hown2 HO1 HO1' hcell hgf hzl hnm R1 hbel1 hbel2 HX
    generalize ys.length = m at *
    go_wp2_with fail
    refine (gaps_any _ x _ RX.out).mono ?_
    rintro e w3 ⟨c, v3, rfl, hn3, hown3, hbel3⟩
    obtain rfl : c = 0 := hn3.one HN.out
    have R3 : Hid (Reads .u8 w3 v3 (gapsF x 0)) := reads_own hown3
    have R4 : Hid (Reads .u8 w3 (.slice (some ⟨g, 0, none⟩) k cap) (gapsF x 0)) := R2.out _ hbel3
    have hbB : Below w.heap.size w w3 := hbA.trans (hbel3.mono hbA.size)
    clear hn3 hown3 hbel3 hbA R2
    have k1 : k ≤ cap := by omega
    have k2 : (k : Int) ≤ (cap : Int) := by omega
    have k3 : (0 : Int) ≤ (k : Int) := by omega
    go_wp2_with fail
    refine (sameBytes_any _ _ _ _ _ R3.out R4.out HB.out HB.out).mono ?_
    rintro e w5 ⟨rfl, rfl⟩
    have b4 : decide (gapsF x 0 = gapsF x 0) = true := by simp
    rw [b4]
    clear b4
    go_wp2
    go_ret
    exact ⟨ret_bool (by simp), hbB⟩


set_option maxRecDepth 100000 in
theorem lifted (os : Os) (started : os.Started) (H : Type) (enc : TypeId × Value → H) :
    ReturnsInHanded {} Try.checked os 8 .any (Rows.gapsFixedSpec.pre6 enc Try.prog Try.f8 Rows.gapsFixedRow.domain false) (Rows.gapsFixedSpec.post enc Try.prog Try.f8 false true false false) := by
  refine returnsInHanded_of_change_sized (C := Try.checked) own started (by kernel_rfl) Try.func8
    (ChangeSpec.witness6 (enc := enc) (C := Try.checked) false ⟨#[], #[.slice none 0 0], []⟩ 8 (by kernel_rfl) (by kernel_rfl) (by kernel_rfl) (by kernel_rfl)) ?_
  intro W base args ds gs before hval0 hW hcnd hsz0 _
  have hval : ∀ (j : Nat) t v, Try.f8.params[j]? = some t → args[j]? = some v → Value.okWide Try.prog W .any base t v := hval0
  have hW' := hW
  obtain ⟨p, q, hA0, hV, rfl, hfz, hnd⟩ := hW
  have hA : DataW.TrodAll enc Try.prog W 0 (fun _ => true) true Try.f8.params.toList args.toList ds p := hA0
  have hsz : (DataW.weightsEach Try.prog (Try.f8.params.toList ++ Rows.gapsFixedSpec.plain.varTypes Try.prog) (ds ++ gs)).all (fun x => decide (x ≤ reachBytes)) = true := hsz0
  rw [Try.params8] at hA hval hsz
  obtain ⟨v0, vs0, d0, ds0, p0, q0, hargs, rfl, rfl, h0, r0⟩ := trodAll_cons hA
  obtain ⟨rfl, rfl, rfl⟩ := trodAll_nil r0
  obtain rfl : args = #[v0] := by cases args; simp_all
  obtain ⟨rfl, rfl⟩ := trodVars_none hV
  obtain ⟨a0, len0, cap0, rfl⟩ := okWide_slice Try.underlying23 (hval 0 23 v0 rfl rfl)
  have k0 := h0
  have lt0 : ∀ x ∈ p0, x.block < W.heap.size := by obtain ⟨m, hm⟩ := k0; exact DataW.trod_lt m _ _ _ hm
  obtain ⟨z0, w0, s0⟩ : ∃ zs, IsRow .u8 W a0 len0 cap0 zs ∧ cap0 * 1 ≤ 140737488351232 := by
    obtain ⟨fuel, hf⟩ := h0
    rcases open_ints Try.underlying23 Try.underlying5 (by kernel_rfl) hf with ⟨hcs, _⟩ | ⟨x, l, c, zs, hcs, _, hl, hm, hz, hx, hcell, hwz⟩
    · simp [Value.cells] at hcs
      obtain ⟨rfl, rfl, rfl⟩ := hcs
      exact ⟨[], .inl ⟨rfl, rfl, rfl, rfl⟩, by simp⟩
    · simp [Value.cells] at hcs
      obtain ⟨rfl, rfl, rfl⟩ := hcs
      have hz2 : zs.length = cap0 := by simpa using hz
      simp only [Prod.mk.injEq] at hx
      have hd := hx.1
      have hr := sized_slice hsz (j := 0) (t := 23) (e := 5) rfl (by rw [hd]; rfl) Try.underlying23
      rw [show Try.prog.bytesOf 5 = 1 from by kernel_rfl] at hr
      simp only [lits, List.length_map, List.length_take, List.length_drop, reachBytes] at hr
      exact ⟨zs, .inr ⟨_, rfl, hl, hm, hz2, hcell, hwz⟩, by omega⟩
  clear hA0 hval0
  refine (walk a0 len0 cap0 z0 W s0 w0).mono fun e W' ⟨he, bel⟩ => ?_
  subst he
  exact ⟨_, rfl, _, _, _, [], _, [], hW', trodAll_mk1 (shut_bool Try.underlying4 _), (trodAll_cons_mk (Below.trod laidOut (by kernel_rfl) (of_decide_eq_true (by kernel_rfl)) k0 bel lt0) trodAll_mk0), rfl, bel.frame _, fun h => by cases h⟩

theorem over : Rows.gapsFixedRow.holds Try.pinned (OpenSpec.ofChange Rows.gapsFixedSpec) :=
  OpenClaim.holds_of_wide 8 Try.f8 rfl rfl rfl rfl rfl rfl rfl ⟨rfl, rfl, rfl, rfl, rfl⟩ rfl rfl rfl rfl rfl (by kernel_rfl) Try.func8 (by kernel_rfl)
    (of_decide_eq_true (by kernel_rfl)) (by unfold Func.isWrapper; first | (rw [if_pos (by decide +kernel)]; kernel_rfl) | (rw [if_neg (by decide +kernel)]; exact ⟨rfl, rfl⟩))
    (fun os started H enc _ => lifted os started H enc)

/-- ████ THE STATEMENT ████ -/
theorem proved : Rows.GapsFixedSaid := over
#print axioms proved
end Go.Proofs.Ytneapdndidglcab.gapsFixed

