/-
  For whatever bytes p and q and numbers at and by: turning bits of one byte of what is summed turns frame.Sum, in a way that does not hang on the other bytes; and the sums of nothing and of 123456789 are as P2.1 has them (the law FrameSum returns true, and both slices read as before); no condition.
-/
import Derived.Test.YtjagefchoggbaabFrameMath
import Derived.Test.YtjagefchoggbaabSameKeep
import Derived.Test.YtjagefchoggbaabSome
import Derived.Test.YtjagefchoggbaabSetReads
import Derived.WalkKit
import Derived.ProofKit
import Derived.OpenShut
import Derived.ShutString
import Derived.SizedLaws
import Derived.ChangeOld
import Derived.Below
namespace Go.Proofs.Ytjagefchoggbaab.frameSum
open Go.ChangeShapes Go.WideShapes Go.ChangeAt Go.RowKit
open Go.ChangeMaps (open_string shut_string)
set_option linter.unusedVariables false

theorem own : ownKnob Try.prog.godebug = none := by kernel_rfl
theorem laidOut : laidOutB Try.prog = true := by kernel_rfl


set_option maxHeartbeats 1000000 in
set_option maxRecDepth 100000 in
theorem walk (a0 : Option Addr) (len0 cap0 : Nat) (z0 : List Int) (a1 : Option Addr) (len1 cap1 : Nat) (z1 : List Int) (a2 : Int) (a3 : Int) (w : World) (s0 : cap0 * 1 ≤ 140737488351232) (w0 : IsRow .u8 w a0 len0 cap0 z0) (s1 : cap1 * 1 ≤ 140737488351232) (w1 : IsRow .u8 w a1 len1 cap1 z1) (w2 : (Lit.int .i64 a2).wf = true) (w3 : (Lit.int .i64 a3).wf = true) :
    Calls Try.prog 4 #[.slice a0 len0 cap0, .slice a1 len1 cap1, .int .i64 a2, .int .i64 a3] w fun e w' => e = .returned (.bool true) ∧ Below w.heap.size w w' := by
  obtain ⟨r0, e0, le0, wf0⟩ := w0.reads
  obtain ⟨r1, e1, le1, wf1⟩ := w1.reads
  have R0 : Hid (Reads .u8 w (.slice a0 len0 cap0) (z0.take len0)) := r0
  have R1 : Hid (Reads .u8 w (.slice a1 len1 cap1) (z1.take len1)) := r1
  have X0 : Hid (∀ x ∈ z0.take len0, 0 ≤ x ∧ x ≤ 255) := bytes_wf wf0
  have X1 : Hid (∀ x ∈ z1.take len1, 0 ≤ x ∧ x ≤ 255) := bytes_wf wf1
  have hb2 := bounds_i64 w2
  have hb3 := bounds_i64 w3
  have hl0 : len0 ≤ 140737488355328 := by omega
  have hl1 : len1 ≤ 140737488355328 := by omega
  clear w0 wf0 r0 s0 w1 wf1 r1 s1 w2 w3
  generalize z0.take len0 = ps at *
  generalize z1.take len1 = qs at *
  obtain ⟨m, hmin, hm0', hm1', hm2'⟩ : ∃ m : Nat, (if (200 : Int) < (if (len1 : Int) < (len0 : Int) then (len1 : Int) else (len0 : Int)) then 200 else (if (len1 : Int) < (len0 : Int) then (len1 : Int) else (len0 : Int))) = (m : Int) ∧ m ≤ len0 ∧ m ≤ len1 ∧ m ≤ 200 := by
    by_cases c : (len1 : Int) < (len0 : Int)
    · rw [if_pos c]
      by_cases d : (200 : Int) < (len1 : Int)
      · exact ⟨200, by rw [if_pos d]; rfl, by omega, by omega, by omega⟩
      · exact ⟨len1, by rw [if_neg d], by omega, by omega, by omega⟩
    · rw [if_neg c]
      by_cases d : (200 : Int) < (len0 : Int)
      · exact ⟨200, by rw [if_pos d]; rfl, by omega, by omega, by omega⟩
      · exact ⟨len0, by rw [if_neg d], by omega, by omega, by omega⟩
  have HM : Hid _ := hmin
  clear hmin
  have hrun : ∀ (w : World) (t : TypeId), (Builtin.min_ #[3, 3, 3] t #[.int .i64 (len0 : Int), .int .i64 (len1 : Int), .int .i64 200]).run Try.prog w = .ok (.int .i64 (m : Int)) w := fun w t => by rw [run_min_int3, HM.out]
  by_cases hm0 : m = 0
  · subst hm0
    have kc := fun (w : World) (C : Array Value) (n c : Nat) => Lib.run_convert_bytes_const (P := Try.prog) w 23 5 C n c Try.underlying23 Try.underlying5
    have hnil : Hid (crc [] = 0) := show crc [] = 0 from by decide
    have hnine : Hid (crc [49, 50, 51, 52, 53, 54, 55, 56, 57] = 3421780262) := show crc [49, 50, 51, 52, 53, 54, 55, 56, 57] = 3421780262 from by decide
    have RN : Hid (Reads .u8 w (.slice none 0 0) []) := ⟨none, 0, rfl, by simp, by simp [maxLen], fun _ => rfl, fun x hx => by cases hx⟩
    go_enter Try.func4, Try.ntmps4
    go_wp2_with fail
    refine (frameSum_any _ [] _ RN.out (by simp)).mono ?_
    rintro e w1 ⟨rfl, hbel1⟩
    rw [hnil.out]
    have hs1 := hbel1.size
    have R9 : Hid (Reads .u8 (w1.alloc (.cells (([49, 50, 51, 52, 53, 54, 55, 56, 57] : List Int).map (Value.int .u8)).toArray 5 (9, 10))) (.slice (some ⟨w1.heap.size, 0, none⟩) 9 9) [49, 50, 51, 52, 53, 54, 55, 56, 57]) := reads_block (heap_alloc_new _ _) (by simp [maxLen])
    have B9 : Hid (Below w.heap.size w (w1.alloc (.cells (([49, 50, 51, 52, 53, 54, 55, 56, 57] : List Int).map (Value.int .u8)).toArray 5 (9, 10)))) := hbel1.alloc hs1 _
    simp only [List.map_cons, List.map_nil] at R9 B9
    go_wp2_with fail
    refine (frameSum_any _ [49, 50, 51, 52, 53, 54, 55, 56, 57] _ R9.out (by decide)).mono ?_
    rintro e w2 ⟨rfl, hbel2⟩
    rw [hnine.out]
    have BF : Hid (Below w.heap.size w w2) := B9.out.trans (hbel2.mono B9.out.size)
    clear hbel2 hbel1
    go_wp2
    go_ret
    exact ⟨ret_bool (by simp), BF.out⟩
  · have hmz : ((m : Int) == 0) = false := by simp; omega
    have LA : (ps.take m).length = m := by rw [List.length_take]; omega
    have LB : (qs.take m).length = m := by rw [List.length_take]; omega
    have XA : Hid (∀ x ∈ ps.take m, 0 ≤ x ∧ x ≤ 255) := fun x hx => X0.out x (List.mem_of_mem_take hx)
    have XB : Hid (∀ x ∈ qs.take m, 0 ≤ x ∧ x ≤ 255) := fun x hx => X1.out x (List.mem_of_mem_take hx)
    go_enter Try.func4, Try.ntmps4
    go_wp2_with fail
    refine (some_any _ ps m _ R0.out (by omega)).mono ?_
    rintro e w1 ⟨v1, rfl, hown1, hbel1⟩
    have R1w : Hid (Reads .u8 w1 (.slice a1 len1 cap1) qs) := R1.out.below hbel1 (Nat.le_refl _)
    have B1 : Hid (Below w.heap.size w w1) := hbel1
    have hs1 := hbel1.size
    clear hbel1
    obtain ⟨A, hA⟩ : ∃ A, ps.take m = A := ⟨_, rfl⟩
    rw [hA] at hown1 LA XA
    have lA1 : m ≤ A.length := by omega
    have lA2 : A.length ≤ m := by omega
    have HLA : Hid (A.length = m) := LA
    clear LA
    have O1 : Hid (w1.ownsRow w.heap.size 5 1 v1 A.length (A.map (Value.int .u8))) := hown1
    clear hown1 hA
    go_wp2_with fail
    refine (some_any _ qs m _ R1w.out (by omega)).mono ?_
    rintro e w2 ⟨v2, rfl, hown2, hbel2⟩
    obtain ⟨B, hB⟩ : ∃ B, qs.take m = B := ⟨_, rfl⟩
    rw [hB] at hown2 LB XB
    have lB1 : m ≤ B.length := by omega
    have lB2 : B.length ≤ m := by omega
    have HLB : Hid (B.length = m) := LB
    clear LB
    clear hB
    have O12 : Hid (w2.ownsRow w.heap.size 5 1 v1 A.length (A.map (Value.int .u8))) := own_below O1.out hbel2 (Nat.le_refl _)
    have O2 : Hid (w2.ownsRow w1.heap.size 5 1 v2 B.length (B.map (Value.int .u8))) := hown2
    have B2 : Hid (Below w.heap.size w w2) := B1.out.trans (hbel2.mono hs1)
    have hs2 := B2.out.size
    obtain ⟨g1, c1, rfl, hg1, hg1', hc1, hmc1, _⟩ := own_shape O1.out (by omega)
    obtain ⟨g2, c2, rfl, hg2, hg2', hc2, hmc2, _⟩ := own_shape O2.out (by omega)
    clear hown2 hbel2 O1
    go_wp2_with fail
    refine (frameSum_any _ A _ (reads_own O12.out) XA.out).mono ?_
    rintro e w3 ⟨rfl, hbel3⟩
    have O13 : Hid (w3.ownsRow w.heap.size 5 1 (.slice (some ⟨g1, 0, none⟩) A.length c1) A.length (A.map (Value.int .u8))) := own_below O12.out hbel3 (Nat.le_refl _)
    have O23 : Hid (w3.ownsRow w1.heap.size 5 1 (.slice (some ⟨g2, 0, none⟩) B.length c2) B.length (B.map (Value.int .u8))) := own_below O2.out hbel3 (Nat.le_refl _)
    have B3 : Hid (Below w.heap.size w w3) := B2.out.trans (hbel3.mono hs2)
    have hs3 := B3.out.size
    have hs3' := hbel3.size
    clear hbel3 O12 O2
    go_wp2_with fail
    refine (frameSum_any _ B _ (reads_own O23.out) XB.out).mono ?_
    rintro e w4 ⟨rfl, hbel4⟩
    have O14 : Hid (w4.ownsRow w.heap.size 5 1 (.slice (some ⟨g1, 0, none⟩) A.length c1) A.length (A.map (Value.int .u8))) := own_below O13.out hbel4 (Nat.le_refl _)
    have O24 : Hid (w4.ownsRow w1.heap.size 5 1 (.slice (some ⟨g2, 0, none⟩) B.length c2) B.length (B.map (Value.int .u8))) := own_below O23.out hbel4 (Nat.le_refl _)
    have B4 : Hid (Below w.heap.size w w4) := B3.out.trans (hbel4.mono hs3)
    have hs4 := B4.out.size
    have hs4' := hbel4.size
    clear hbel4 O13 O23
    go_wp2_with fail
    refine (picked_any a2 (m : Int) _ hb2.1 hb2.2 (by omega) (by omega)).mono ?_
    rintro e w5 ⟨rfl, rfl⟩
    obtain ⟨pk, hpk⟩ : ∃ pk : Nat, pickF a2 (m : Int) = (pk : Int) := ⟨_, (Int.toNat_of_nonneg (pickF_bd a2 _ (by omega)).1).symm⟩
    have hpk2 : (pk : Int) < (m : Int) := by rw [← hpk]; exact (pickF_bd a2 _ (by omega)).2
    rw [hpk]
    clear hpk
    go_wp2_with fail
    refine (picked_any a3 255 _ hb3.1 hb3.2 (by omega) (by omega)).mono ?_
    rintro e w6 ⟨rfl, rfl⟩
    obtain ⟨cc, hcc⟩ : ∃ cc : Nat, pickF a3 255 = (cc : Int) := ⟨_, (Int.toNat_of_nonneg (pickF_bd a3 _ (by omega)).1).symm⟩
    have hcc2 : (cc : Int) < 255 := by rw [← hcc]; exact (pickF_bd a3 _ (by omega)).2
    rw [hcc]
    clear hcc
    have hgne : g1 ≠ g2 := by omega
    have hpkA : (pk : Int) < (A.length : Int) := by omega
    have hpkB : (pk : Int) < (B.length : Int) := by omega
    have hpk0 : (0 : Int) ≤ (pk : Int) := by omega
    have hckA := own_cell O14.out (i := pk) (by omega)
    have hckB := own_cell O24.out (i := pk) (by omega)
    have hfA := frozen_own O14.out pk
    have hfB := frozen_own O24.out pk
    have hxA := XA.out (A.getD pk 0) (by rw [List.getD_eq_getElem?_getD, List.getElem?_eq_getElem (show pk < A.length by omega)]; exact List.getElem_mem _)
    have hxB := XB.out (B.getD pk 0) (by rw [List.getD_eq_getElem?_getD, List.getElem?_eq_getElem (show pk < B.length by omega)]; exact List.getElem_mem _)
    obtain ⟨xA, hxA'⟩ : ∃ x : Nat, A.getD pk 0 = (x : Int) := ⟨_, (Int.toNat_of_nonneg hxA.1).symm⟩
    obtain ⟨xB, hxB'⟩ : ∃ x : Nat, B.getD pk 0 = (x : Int) := ⟨_, (Int.toNat_of_nonneg hxB.1).symm⟩
    have turn : ∀ x : Nat, x < 256 → bits .xor .u8 (x : Int) (1 + (cc : Int)) = ((x ^^^ (1 + cc) : Nat) : Int) := fun x hx => u8_xor_nat x (1 + cc) hx (by omega)
    have back : ∀ x : Nat, x ^^^ (x ^^^ (1 + cc)) = 1 + cc := fun x => by rw [← Nat.xor_assoc, Nat.xor_self, Nat.zero_xor]
    have fA : crc A ^^^ crc (A.set pk ((xA ^^^ (1 + cc) : Nat) : Int)) = farN (m - pk) (1 + cc) := by
      rw [crc_set_xor (by omega), hxA', HLA.out]
      show farN (m - pk) (xA ^^^ (xA ^^^ (1 + cc))) = _
      rw [back]
    have fB : crc B ^^^ crc (B.set pk ((xB ^^^ (1 + cc) : Nat) : Int)) = farN (m - pk) (1 + cc) := by
      rw [crc_set_xor (by omega), hxB', HLB.out]
      show farN (m - pk) (xB ^^^ (xB ^^^ (1 + cc))) = _
      rw [back]
    rw [hxA'] at hckA hxA
    rw [hxB'] at hckB hxB
    have tA := turn xA (by omega)
    have tB := turn xB (by omega)
    have lyA := xor_lt8 (show xA < 256 by omega) (show 1 + cc < 256 by omega)
    have lyB := xor_lt8 (show xB < 256 by omega) (show 1 + cc < 256 by omega)
    have neA : crc (A.set pk ((xA ^^^ (1 + cc) : Nat) : Int)) ≠ crc A := crc_set XA.out (by omega) (by omega) (by
      rw [hxA']
      intro hh
      have h1 := back xA
      have h2 : xA ^^^ (1 + cc) = xA := by omega
      rw [h2, Nat.xor_self] at h1
      omega)
    clear turn back hxA' hxB'
    generalize xA ^^^ (1 + cc) = yA at *
    generalize xB ^^^ (1 + cc) = yB at *
    have RA1 : Hid (Reads .u8 (w6.setCell ⟨g1, pk, none⟩ (.int .u8 (yA : Int))) (.slice (some ⟨g1, 0, none⟩) A.length c1) (A.set pk (yA : Int))) := reads_set (reads_own O14.out) (by omega)
    have RB1 : Hid (Reads .u8 (w6.setCell ⟨g1, pk, none⟩ (.int .u8 (yA : Int))) (.slice (some ⟨g2, 0, none⟩) B.length c2) B) := reads_far (reads_own O24.out) (fun h => hgne h.symm)
    have RA2 : Hid (Reads .u8 ((w6.setCell ⟨g1, pk, none⟩ (.int .u8 (yA : Int))).setCell ⟨g2, pk, none⟩ (.int .u8 (yB : Int))) (.slice (some ⟨g1, 0, none⟩) A.length c1) (A.set pk (yA : Int))) := reads_far RA1.out hgne
    have RB2 : Hid (Reads .u8 ((w6.setCell ⟨g1, pk, none⟩ (.int .u8 (yA : Int))).setCell ⟨g2, pk, none⟩ (.int .u8 (yB : Int))) (.slice (some ⟨g2, 0, none⟩) B.length c2) (B.set pk (yB : Int))) := reads_set RB1.out (by omega)
    have BW : Hid (Below w.heap.size w ((w6.setCell ⟨g1, pk, none⟩ (.int .u8 (yA : Int))).setCell ⟨g2, pk, none⟩ (.int .u8 (yB : Int)))) := (B4.out.setCell (show w.heap.size ≤ g1 by omega) _).setCell (show w.heap.size ≤ g2 by omega) _
    have hckB2 : (w6.setCell ⟨g1, pk, none⟩ (.int .u8 (yA : Int))).cell? ⟨g2, pk, none⟩ = some (.int .u8 (xB : Int)) := by
      rw [World.cell?_setCell_other _ _ _ _ (by intro hh; injection hh with hh1 _; exact hgne hh1), hckB]
    have XA2 : Hid (∀ z ∈ A.set pk (yA : Int), 0 ≤ z ∧ z ≤ 255) := fun z hz => by
      rcases List.mem_or_eq_of_mem_set hz with h | h
      · exact XA.out z h
      · rw [h]; omega
    have XB2 : Hid (∀ z ∈ B.set pk (yB : Int), 0 ≤ z ∧ z ≤ 255) := fun z hz => by
      rcases List.mem_or_eq_of_mem_set hz with h | h
      · exact XB.out z h
      · rw [h]; omega
    have xorA : bits .xor .u32 (crc A : Int) (crc (A.set pk (yA : Int)) : Int) = ((farN (m - pk) (1 + cc) : Nat) : Int) := by rw [u32_xor_nat _ _ (crc_lt XA.out) (crc_lt XA2.out), fA]
    have xorB : bits .xor .u32 (crc B : Int) (crc (B.set pk (yB : Int)) : Int) = ((farN (m - pk) (1 + cc) : Nat) : Int) := by rw [u32_xor_nat _ _ (crc_lt XB.out) (crc_lt XB2.out), fB]
    have neB : ((crc A : Int) != (crc (A.set pk (yA : Int)) : Int)) = true := by simp; omega
    clear fA fB neA RA1 RB1 hckB O14 O24
    generalize hA' : A.set pk (yA : Int) = A' at *
    generalize hB' : B.set pk (yB : Int) = B' at *
    clear hA' hB'
    generalize farN (m - pk) (1 + cc) = d at *
    have deq : ((d : Int) == (d : Int)) = true := by simp
    go_wp2_with fail
    refine (frameSum_any _ A' _ RA2.out XA2.out).mono ?_
    rintro e w7 ⟨rfl, hbel7⟩
    have RB7 : Hid (Reads .u8 w7 (.slice (some ⟨g2, 0, none⟩) B.length c2) B') := RB2.out.below hbel7 (Nat.le_refl _)
    have B7 : Hid (Below w.heap.size w w7) := BW.out.trans (hbel7.mono BW.out.size)
    have hs7 := B7.out.size
    clear hbel7
    go_wp2_with fail
    refine (frameSum_any _ B' _ RB7.out XB2.out).mono ?_
    rintro e w8 ⟨rfl, hbel8⟩
    have B8 : Hid (Below w.heap.size w w8) := B7.out.trans (hbel8.mono hs7)
    clear hbel8
    go_wp2
    go_ret
    exact ⟨ret_bool (by simp), B8.out⟩


set_option maxRecDepth 100000 in
theorem lifted (os : Os) (started : os.Started) (H : Type) (enc : TypeId × Value → H) :
    ReturnsInHanded {} Try.checked os 4 .any (Rows.frameSumSpec.pre6 enc Try.prog Try.f4 Rows.frameSumRow.domain false) (Rows.frameSumSpec.post enc Try.prog Try.f4 false true false false) := by
  refine returnsInHanded_of_change_sized (C := Try.checked) own started (by kernel_rfl) Try.func4
    (ChangeSpec.witness6 (enc := enc) (C := Try.checked) false ⟨#[], #[.slice none 0 0, .slice none 0 0, .int .i64 0, .int .i64 0], []⟩ 8 (by kernel_rfl) (by kernel_rfl) (by kernel_rfl) (by kernel_rfl)) ?_
  intro W base args ds gs before hval0 hW hcnd hsz0 _
  have hval : ∀ (j : Nat) t v, Try.f4.params[j]? = some t → args[j]? = some v → Value.okWide Try.prog W .any base t v := hval0
  have hW' := hW
  obtain ⟨p, q, hA0, hV, rfl, hfz, hnd⟩ := hW
  have hA : DataW.TrodAll enc Try.prog W 0 (fun _ => true) true Try.f4.params.toList args.toList ds p := hA0
  have hsz : (DataW.weightsEach Try.prog (Try.f4.params.toList ++ Rows.frameSumSpec.plain.varTypes Try.prog) (ds ++ gs)).all (fun x => decide (x ≤ reachBytes)) = true := hsz0
  rw [Try.params4] at hA hval hsz
  obtain ⟨v0, vs0, d0, ds0, p0, q0, hargs, rfl, rfl, h0, r0⟩ := trodAll_cons hA
  obtain ⟨v1, vs1, d1, ds1, p1, q1, rfl, rfl, rfl, h1, r1⟩ := trodAll_cons r0
  obtain ⟨v2, vs2, d2, ds2, p2, q2, rfl, rfl, rfl, h2, r2⟩ := trodAll_cons r1
  obtain ⟨v3, vs3, d3, ds3, p3, q3, rfl, rfl, rfl, h3, r3⟩ := trodAll_cons r2
  obtain ⟨rfl, rfl, rfl⟩ := trodAll_nil r3
  obtain rfl : args = #[v0, v1, v2, v3] := by cases args; simp_all
  obtain ⟨rfl, rfl⟩ := trodVars_none hV
  obtain ⟨a0, len0, cap0, rfl⟩ := okWide_slice Try.underlying23 (hval 0 23 v0 rfl rfl)
  have k0 := h0
  have lt0 : ∀ x ∈ p0, x.block < W.heap.size := by obtain ⟨m, hm⟩ := k0; exact DataW.trod_lt m _ _ _ hm
  obtain ⟨z0, w0, s0⟩ : ∃ zs, IsRow .u8 W a0 len0 cap0 zs ∧ cap0 * 1 ≤ 140737488351232 := by
    obtain ⟨fuel, hf⟩ := h0
    rcases open_ints Try.underlying23 Try.underlying5 (by kernel_rfl) hf with ⟨hcs, _⟩ | ⟨x, l, c, zs, hcs, _, hl, hm, hz, hx, hcell, hwz⟩
    · simp [Value.cells] at hcs
      obtain ⟨rfl, rfl, rfl⟩ := hcs
      exact ⟨[], .inl ⟨rfl, rfl, rfl, rfl⟩, by simp⟩
    · simp [Value.cells] at hcs
      obtain ⟨rfl, rfl, rfl⟩ := hcs
      have hz2 : zs.length = cap0 := by simpa using hz
      simp only [Prod.mk.injEq] at hx
      have hd := hx.1
      have hr := sized_slice hsz (j := 0) (t := 23) (e := 5) rfl (by rw [hd]; rfl) Try.underlying23
      rw [show Try.prog.bytesOf 5 = 1 from by kernel_rfl] at hr
      simp only [lits, List.length_map, List.length_take, List.length_drop, reachBytes] at hr
      exact ⟨zs, .inr ⟨_, rfl, hl, hm, hz2, hcell, hwz⟩, by omega⟩
  obtain ⟨a1, len1, cap1, rfl⟩ := okWide_slice Try.underlying23 (hval 1 23 v1 rfl rfl)
  have k1 := h1
  have lt1 : ∀ x ∈ p1, x.block < W.heap.size := by obtain ⟨m, hm⟩ := k1; exact DataW.trod_lt m _ _ _ hm
  obtain ⟨z1, w1, s1⟩ : ∃ zs, IsRow .u8 W a1 len1 cap1 zs ∧ cap1 * 1 ≤ 140737488351232 := by
    obtain ⟨fuel, hf⟩ := h1
    rcases open_ints Try.underlying23 Try.underlying5 (by kernel_rfl) hf with ⟨hcs, _⟩ | ⟨x, l, c, zs, hcs, _, hl, hm, hz, hx, hcell, hwz⟩
    · simp [Value.cells] at hcs
      obtain ⟨rfl, rfl, rfl⟩ := hcs
      exact ⟨[], .inl ⟨rfl, rfl, rfl, rfl⟩, by simp⟩
    · simp [Value.cells] at hcs
      obtain ⟨rfl, rfl, rfl⟩ := hcs
      have hz2 : zs.length = cap1 := by simpa using hz
      simp only [Prod.mk.injEq] at hx
      have hd := hx.1
      have hr := sized_slice hsz (j := 1) (t := 23) (e := 5) rfl (by rw [hd]; rfl) Try.underlying23
      rw [show Try.prog.bytesOf 5 = 1 from by kernel_rfl] at hr
      simp only [lits, List.length_map, List.length_take, List.length_drop, reachBytes] at hr
      exact ⟨zs, .inr ⟨_, rfl, hl, hm, hz2, hcell, hwz⟩, by omega⟩
  obtain ⟨a2, rfl, rfl, rfl, w2⟩ := open_int Try.underlying3 (hval 2 3 v2 rfl rfl) h2
  obtain ⟨a3, rfl, rfl, rfl, w3⟩ := open_int Try.underlying3 (hval 3 3 v3 rfl rfl) h3
  clear hA0 hval0
  refine (walk a0 len0 cap0 z0 a1 len1 cap1 z1 a2 a3 W s0 w0 s1 w1 w2 w3).mono fun e W' ⟨he, bel⟩ => ?_
  subst he
  exact ⟨_, rfl, _, _, _, [], _, [], hW', trodAll_mk1 (shut_bool Try.underlying4 _), (trodAll_cons_mk (Below.trod laidOut (by kernel_rfl) (of_decide_eq_true (by kernel_rfl)) k0 bel lt0) (trodAll_cons_mk (Below.trod laidOut (by kernel_rfl) (of_decide_eq_true (by kernel_rfl)) k1 bel lt1) (trodAll_cons_mk (shut_int Try.underlying3 w2) (trodAll_cons_mk (shut_int Try.underlying3 w3) trodAll_mk0)))), rfl, bel.frame _, fun h => by cases h⟩

theorem over : Rows.frameSumRow.holds Try.pinned (OpenSpec.ofChange Rows.frameSumSpec) :=
  OpenClaim.holds_of_wide 4 Try.f4 rfl rfl rfl rfl rfl rfl rfl ⟨rfl, rfl, rfl, rfl, rfl⟩ rfl rfl rfl rfl rfl (by kernel_rfl) Try.func4 (by kernel_rfl)
    (of_decide_eq_true (by kernel_rfl)) (by unfold Func.isWrapper; first | (rw [if_pos (by decide +kernel)]; kernel_rfl) | (rw [if_neg (by decide +kernel)]; exact ⟨rfl, rfl⟩))
    (fun os started H enc _ => lifted os started H enc)

/-- ████ THE STATEMENT ████ -/
theorem proved : Rows.FrameSumSaid := over
#print axioms proved
end Go.Proofs.Ytjagefchoggbaab.frameSum

