/-
  Contracts of play's number and guess: the move that a line tells, whatever is wrong in it.
-/
import Derived.Test.YtdeghndcglgfkaaDoorPlayForm
import Derived.Test.YtdeghndcglgfkaaDoorAtoiLib
namespace Go.Proofs.YtdeghndcglgfkaaDoor
set_option maxRecDepth 100000
open Go.ChangeShapes Go.WideShapes Go.ChangeAt Go.RowKit

set_option maxHeartbeats 2000000 in
theorem number_any (s : ByteArray) (hs : s.size ≤ 281474976710656) (w : World) (hV : VarF w.heap.size w) :
    Calls Tryd.prog 33 #[.string s] w fun e w' => e = .returned (.int .i64 (atoiV s.data.toList)) ∧ Below w.heap.size w w' := by
  have HA := Lib.hid (atoi_any s hs w.heap.size w hV)
  generalize atoiV s.data.toList = n at HA ⊢
  clear hV
  go_enter Tryd.func33, Tryd.ntmps33
  go_wp2_with fail
  refine HA.out.mono ?_
  rintro e w1 ⟨ev, rfl, hb1⟩
  have B1 : Hid (Below w.heap.size w w1) := hb1
  clear hb1 HA
  go_wp2_with fail
  go_ret
  exact ⟨rfl, B1.out⟩

theorem cut_lens (l : List UInt8) (c : UInt8) : (Lib.cut l [c]).1.length ≤ l.length ∧ (Lib.cut l [c]).2.1.length ≤ l.length := by
  unfold Lib.cut
  split
  · simp; omega
  · simp
theorem trim_len (l : List UInt8) : (Lib.trimSuffix l [10]).length ≤ l.length := by
  unfold Lib.trimSuffix
  split
  · simp
  · exact Nat.le_refl _

set_option maxHeartbeats 4000000 in
theorem guess_any (s : ByteArray) (hs : s.size ≤ 5000000) (w : World) (hF : FrmF w.heap.size w) (hV : VarF w.heap.size w) :
    Calls Tryd.prog 19 #[.string s] w fun e w' => e = .returned (.agg #[.int .i64 (guessM s.data.toList).1, .int .i64 (guessM s.data.toList).2.1, .int .i64 (guessM s.data.toList).2.2]) ∧ Below w.heap.size w w' := by
  obtain ⟨m, hm⟩ := hV.mx
  have HF : Hid (FrmF w.heap.size w) := hF
  have HV : Hid (VarF w.heap.size w) := hV
  have hsl : s.data.toList.length = s.size := Array.length_toList
  have HTR := Lib.hid (fun X => Tryd.strings_TrimSuffix s ⟨#[10]⟩ X (by omega))
  rw [show (⟨#[10]⟩ : ByteArray).data.toList = [10] from rfl] at HTR
  have h1 := trim_len s.data.toList
  unfold guessM
  obtain ⟨T, hT⟩ : ∃ T : ByteArray, T = ⟨(Lib.trimSuffix s.data.toList [10]).toArray⟩ := ⟨_, rfl⟩
  have eT : Lib.trimSuffix s.data.toList [10] = T.data.toList := by rw [hT]
  have hTs : T.size ≤ 5000000 := by rw [hT, bytes_size]; omega
  rw [← hT] at HTR
  rw [eT]
  have HC1 := Lib.hid (fun X (hX : X.cell? ⟨1, 0, none⟩ = some (.int .i64 m)) => Tryd.strings_Cut T ⟨#[32]⟩ m X (by omega) hX)
  rw [show (⟨#[32]⟩ : ByteArray).data.toList = [32] from rfl] at HC1
  have h2 := cut_lens T.data.toList 32
  have hTl : T.data.toList.length = T.size := Array.length_toList
  obtain ⟨C1, hC1⟩ : ∃ C1 : ByteArray, C1 = ⟨(Lib.cut T.data.toList [32]).1.toArray⟩ := ⟨_, rfl⟩
  obtain ⟨C2, hC2⟩ : ∃ C2 : ByteArray, C2 = ⟨(Lib.cut T.data.toList [32]).2.1.toArray⟩ := ⟨_, rfl⟩
  have eC1 : (Lib.cut T.data.toList [32]).1 = C1.data.toList := by rw [hC1]
  have eC2 : (Lib.cut T.data.toList [32]).2.1 = C2.data.toList := by rw [hC2]
  have hC2s : C2.size ≤ 5000000 := by rw [hC2, bytes_size]; omega
  rw [← hC1, ← hC2] at HC1
  rw [eC1, eC2]
  generalize (Lib.cut T.data.toList [32]).2.2 = cb at HC1
  have HC2 := Lib.hid (fun X (hX : X.cell? ⟨1, 0, none⟩ = some (.int .i64 m)) => Tryd.strings_Cut C2 ⟨#[32]⟩ m X (by omega) hX)
  rw [show (⟨#[32]⟩ : ByteArray).data.toList = [32] from rfl] at HC2
  have h3 := cut_lens C2.data.toList 32
  have hCl : C2.data.toList.length = C2.size := Array.length_toList
  obtain ⟨D1, hD1⟩ : ∃ D1 : ByteArray, D1 = ⟨(Lib.cut C2.data.toList [32]).1.toArray⟩ := ⟨_, rfl⟩
  obtain ⟨D2, hD2⟩ : ∃ D2 : ByteArray, D2 = ⟨(Lib.cut C2.data.toList [32]).2.1.toArray⟩ := ⟨_, rfl⟩
  have eD1 : (Lib.cut C2.data.toList [32]).1 = D1.data.toList := by rw [hD1]
  have eD2 : (Lib.cut C2.data.toList [32]).2.1 = D2.data.toList := by rw [hD2]
  have hD1s : D1.size ≤ 5000000 := by rw [hD1, bytes_size]; omega
  have hD2s : D2.size ≤ 5000000 := by rw [hD2, bytes_size]; omega
  rw [← hD1, ← hD2] at HC2
  rw [eD1, eD2]
  generalize (Lib.cut C2.data.toList [32]).2.2 = cd at HC2
  have HK := Lib.hid (fun X (hX : FrmF X.heap.size X) => kindOf_any C1 X hX)
  have HN1 := Lib.hid (fun X (hX : VarF X.heap.size X) => number_any D1 (by omega) X hX)
  have HN2 := Lib.hid (fun X (hX : VarF X.heap.size X) => number_any D2 (by omega) X hX)
  generalize findW C1.data.toList = vk at HK ⊢
  generalize atoiV D1.data.toList = va at HN1 ⊢
  generalize atoiV D2.data.toList = vb at HN2 ⊢
  have HM : Hid (w.cell? ⟨1, 0, none⟩ = some (.int .i64 m)) := hm
  have HLT := Lib.hid hV.lt.1
  clear hF hV hm eT eC1 eC2 eD1 eD2 hT hC1 hC2 hD1 hD2 h1 h2 h3 hsl hTl hCl hTs hC2s hD1s hD2s
  go_enter Tryd.func19, Tryd.ntmps19
  go_wp2_with fail
  refine (HTR.out _).mono ?_
  rintro e w1 ⟨rfl, hw⟩
  rw [hw]
  clear hw HTR
  go_wp2_with fail
  refine (HC1.out _ ?_).mono ?_
  · exact ((below_alloc w _).cell (p := ⟨1, 0, none⟩) HLT.out).trans HM.out
  rintro e w2 ⟨rfl, nd, hw⟩
  have B2 : Hid (Below (w.heap.size + 1) (w.alloc (.cells #[.int .i64 0, .int .i64 0, .int .i64 0] 34)) w2) := by
    show Below _ _ _
    rw [hw]
    exact below_drewN (Below.refl _ _) _
  have B2w : Hid (Below w.heap.size w w2) := (below_alloc w _).trans (B2.out.mono (by omega))
  clear hw HC1
  go_wp2_with fail
  refine (HC2.out _ ?_).mono ?_
  · exact (B2w.out.cell (p := ⟨1, 0, none⟩) HLT.out).trans HM.out
  rintro e w3 ⟨rfl, nd, hw⟩
  have B3 : Hid (Below (w.heap.size + 1) (w.alloc (.cells #[.int .i64 0, .int .i64 0, .int .i64 0] 34)) w3) := by
    show Below _ _ _
    rw [hw]
    exact below_drewN B2.out _
  have B3w : Hid (Below w.heap.size w w3) := (below_alloc w _).trans (B3.out.mono (by omega))
  have hs3 : w.heap.size + 1 ≤ w3.heap.size := by have := B3.out.size; simpa using this
  clear hw HC2 B2 B2w
  go_wp2_with fail
  refine (HK.out _ ?_).mono ?_
  · exact (HF.out.on B3w.out).up B3w.out.size
  rintro e w4 ⟨rfl, hb⟩
  have B4 : Hid (Below (w.heap.size + 1) (w.alloc (.cells #[.int .i64 0, .int .i64 0, .int .i64 0] 34)) w4) := B3.out.trans (hb.mono hs3)
  have B4w : Hid (Below w.heap.size w w4) := (below_alloc w _).trans (B4.out.mono (by omega))
  have hs4 : w.heap.size + 1 ≤ w4.heap.size := by have := B4.out.size; simpa using this
  clear hb HK B3 B3w hs3
  go_wp2_with fail
  refine (HN1.out _ ?_).mono ?_
  · exact (HV.out.on B4w.out).up B4w.out.size
  rintro e w5 ⟨rfl, hb⟩
  have B5 : Hid (Below (w.heap.size + 1) (w.alloc (.cells #[.int .i64 0, .int .i64 0, .int .i64 0] 34)) w5) := B4.out.trans (hb.mono hs4)
  have B5w : Hid (Below w.heap.size w w5) := (below_alloc w _).trans (B5.out.mono (by omega))
  have hs5 : w.heap.size + 1 ≤ w5.heap.size := by have := B5.out.size; simpa using this
  clear hb HN1 B4 B4w hs4
  go_wp2_with fail
  refine (HN2.out _ ?_).mono ?_
  · exact (HV.out.on B5w.out).up B5w.out.size
  rintro e w6 ⟨rfl, hb⟩
  have B6 : Hid (Below (w.heap.size + 1) (w.alloc (.cells #[.int .i64 0, .int .i64 0, .int .i64 0] 34)) w6) := B5.out.trans (hb.mono hs5)
  have B6w : Hid (Below w.heap.size w w6) := (below_alloc w _).trans (B6.out.mono (by omega))
  have HX : Hid (BX 34 w6 w.heap.size #[.int .i64 0, .int .i64 0, .int .i64 0]) := BX.below (BX.new _ _ _) B6.out (by omega)
  obtain ⟨d0, d1, d2, g0, g1, g2⟩ := HX.out.all3
  clear hb HN2 B5 B5w hs5
  go_wp2_with fail
  obtain ⟨r0, r1, r2, _⟩ := (HX.out.put3 (.int .i64 vk) (.int .i64 va) (.int .i64 vb)).all3
  unfold put3 at r0 r1 r2
  refine bodyPost_ret (v := .agg #[.int .i64 vk, .int .i64 va, .int .i64 vb]) (by simp [results, Tryd.results19, go_sem, r0, r1, r2]) rfl ⟨rfl, ?_⟩
  exact below_put3 B6w.out (Nat.le_refl _) _ _ _
end Go.Proofs.YtdeghndcglgfkaaDoor
