/-
  Contract of the closure that writes a line in sheet.Show.
-/
import Derived.Test.YtcfcpibamjgodaaDoorShowLib
namespace Go.Proofs.YtcfcpibamjgodaaDoor
set_option maxRecDepth 100000
open Go.ChangeShapes Go.WideShapes Go.ChangeAt Go.RowKit

set_option maxHeartbeats 2000000 in
theorem write_walk (B b g : Nat) (l : List UInt8) (xs : List Int) (w : World) (hI : Lib.IsBuilderF 38 5 B b (Lib.byteCells l) w) (hg : w.heap[g]? = some (.cells (xs.map (Value.int .i64)).toArray 3 (0, 0))) (hgb : g ≠ b)
    (hx : ∀ x ∈ xs, i64B x) (h3 : xs.length ≤ 3) (hl : l.length ≤ 1000000) (hT : Tab10 B w) (hB : B ≤ w.heap.size) :
    Calls Tryd.prog 15 #[.slice (some ⟨g, 0, none⟩) xs.length xs.length, .pointer (some ⟨b, 0, none⟩)] w fun e w' => e = .returned (.tuple #[]) ∧ Lib.IsBuilderF 38 5 B b (Lib.byteCells (l ++ lineL xs)) w' ∧ Below B w w' ∧ Lib.OthersKept 5 (some b) w w' := by
  have HI : Hid (Lib.IsBuilderF 38 5 B b (Lib.byteCells l) w) := hI
  have HG : Hid (w.heap[g]? = some (.cells (xs.map (Value.int .i64)).toArray 3 (0, 0))) := hg
  have HX : Hid (∀ x ∈ xs, i64B x) := hx
  have HT : Hid (Tab10 B w) := hT
  have HE : Hid (lineL xs = putsL xs ++ [10]) := (rfl : lineL xs = _)
  clear hI hg hx hT
  generalize lineL xs = L at HE ⊢
  go_enter Tryd.func15, Tryd.ntmps15
  go_wp2_with fail
  go_loopw [7] (fun i wr => ∃ k : Nat, k ≤ xs.length ∧ i = .int .i64 k ∧ Lib.IsBuilderF 38 5 B b (Lib.byteCells (l ++ putsL (xs.take k))) wr ∧ Below B w wr ∧ Lib.OthersKept 5 (some b) w wr) (fun i _ => xs.length - (intOf i).toNat)
  case atStart => exact ⟨0, by omega, rfl, by simpa [putsL] using HI.out, Below.refl _ _, Lib.OthersKept.refl _ _ _⟩
  case round =>
    obtain ⟨k, hk, rfl, hb, hbel, hoth⟩ := hrel
    have HIr : Hid (Lib.IsBuilderF 38 5 B b (Lib.byteCells (l ++ putsL (xs.take k))) wr) := hb
    have HB : Hid (Below B w wr) := hbel
    have HO : Hid (Lib.OthersKept 5 (some b) w wr) := hoth
    have hsr : B ≤ wr.heap.size := Nat.le_trans hB hbel.size
    have HGr : Hid (wr.heap[g]? = some (.cells (xs.map (Value.int .i64)).toArray 3 (0, 0))) := hoth _ _ HG.out (by simpa using hgb) (by intro c fz e; cases e)
    clear hb hbel hoth
    by_cases hlt : k < xs.length
    · obtain ⟨x, hx⟩ : ∃ x, xs[k]? = some x := ⟨xs[k], List.getElem?_eq_getElem hlt⟩
      have hxi := HX.out x (List.mem_of_getElem? hx)
      have c1 : wr.cell? ⟨g, k, none⟩ = some (.int .i64 x) := by rw [cell_of HGr.out]; simp [hx]
      have HN : Hid (putsL (xs.take (k + 1)) = putsL (xs.take k) ++ ((if k = 0 then [] else [32]) ++ Lib.itoa x)) := by
        show _ = _
        rw [take_snoc hx, puts_snoc]
        simp [Nat.min_eq_left hk]
      have HLn : Hid ((putsL (xs.take k)).length ≤ 66) := by
        have := puts_len (xs.take k) (fun y hy => HX.out y (List.mem_of_mem_take hy))
        have h4 : (xs.take k).length ≤ 3 := by simp; omega
        exact Nat.le_trans this (by omega)
      have HC : Hid (∀ X, Tab10 B X → Calls Tryd.prog 18 #[.int .i64 x] X fun e w' => e = .returned (.string ⟨(Lib.itoa x).toArray⟩) ∧ Below X.heap.size X w') := fun X hX => itoa_any x hxi B X hX
      have HLx : Hid ((Lib.itoa x).length ≤ 21) := Lib.itoa_length_le x hxi.1 hxi.2
      obtain ⟨P1, hP1⟩ : ∃ P1, putsL (xs.take (k + 1)) = P1 := ⟨_, rfl⟩
      have HP1 : Hid (putsL (xs.take (k + 1)) = P1) := hP1
      rw [hP1] at HN
      clear hP1
      generalize putsL (xs.take k) = P0 at HN HLn HIr
      generalize Lib.itoa x = ix at HN HC HLx
      by_cases h0 : k = 0
      · subst h0
        go_wp2_with fail
        refine (HC.out _ (HT.out.on HB.out)).mono ?_
        rintro e w1 ⟨rfl, hb1⟩
        have HB1 : Hid (Below wr.heap.size wr w1) := hb1
        clear hb1
        go_wp2_with fail
        refine (wstring_walk B b _ _ _ (builder_below HIr.out HB1.out (Nat.le_refl _)) ?_ (Nat.le_trans hsr HB1.out.size)).mono ?_
        · rw [Lib.byteCells_length, bytes_size]; have := HLn.out; have := HLx.out; simp only [List.length_append]; omega
        rintro e w2 ⟨rfl, hI2, hb2, ho2⟩
        have H2 : Hid (Lib.IsBuilderF 38 5 B b (Lib.byteCells (l ++ P1)) w2 ∧ Below B w w2 ∧ Lib.OthersKept 5 (some b) w w2) := by
          refine ⟨?_, HB.out.trans ((below_low HB1.out hsr).trans hb2), HO.out.trans ((others_below HB1.out (Nat.le_refl _)).trans ho2)⟩
          rw [HN.out]
          simp only [if_true, List.nil_append]
          rw [← List.append_assoc, Lib.byteCells_append _ ix, ← Lib.strCells_toArray]
          exact hI2
        clear hI2 hb2 ho2
        go_wp2_with fail
        go_roundw
        case rel => exact ⟨1, by omega, by simp, by rw [show putsL (xs.take 1) = P1 from HP1.out]; exact H2.out⟩
        case measure => simp [intOf]; omega
      · have hk0 : (0 : Int) < (k : Int) := by omega
        go_wp2_with fail
        refine (wbyte_walk B b _ 32 _ HIr.out ?_ hsr).mono ?_
        · rw [Lib.byteCells_length]; have := HLn.out; simp only [List.length_append]; omega
        rintro e w0 ⟨rfl, hI0, hb0, ho0⟩
        have HI0 : Hid (Lib.IsBuilderF 38 5 B b (Lib.byteCells (l ++ P0 ++ [32])) w0) := by
          show Lib.IsBuilderF _ _ _ _ _ _
          rw [Lib.byteCells_append]; exact hI0
        have HB0 : Hid (Below B wr w0) := hb0
        have HO0 : Hid (Lib.OthersKept 5 (some b) wr w0) := ho0
        have hs0 : B ≤ w0.heap.size := Nat.le_trans hsr hb0.size
        clear hI0 hb0 ho0
        go_wp2_with fail
        refine (HC.out _ ((HT.out.on HB.out).on HB0.out)).mono ?_
        rintro e w1 ⟨rfl, hb1⟩
        have HB1 : Hid (Below w0.heap.size w0 w1) := hb1
        clear hb1
        go_wp2_with fail
        refine (wstring_walk B b _ _ _ (builder_below HI0.out HB1.out (Nat.le_refl _)) ?_ (Nat.le_trans hs0 HB1.out.size)).mono ?_
        · rw [Lib.byteCells_length, bytes_size]; have := HLn.out; have := HLx.out; simp only [List.length_append, List.length_cons, List.length_nil]; omega
        rintro e w2 ⟨rfl, hI2, hb2, ho2⟩
        have H2 : Hid (Lib.IsBuilderF 38 5 B b (Lib.byteCells (l ++ P1)) w2 ∧ Below B w w2 ∧ Lib.OthersKept 5 (some b) w w2) := by
          refine ⟨?_, HB.out.trans (HB0.out.trans ((below_low HB1.out hs0).trans hb2)), HO.out.trans (HO0.out.trans ((others_below HB1.out (Nat.le_refl _)).trans ho2))⟩
          rw [HN.out, if_neg h0]
          rw [← List.append_assoc, ← List.append_assoc, Lib.byteCells_append _ ix, ← Lib.strCells_toArray]
          exact hI2
        clear hI2 hb2 ho2
        go_wp2_with fail
        go_roundw
        case rel => exact ⟨k + 1, by omega, by simp, by rw [HP1.out]; exact H2.out⟩
        case measure => simp [intOf]; omega
    · have e : k = xs.length := by omega
      subst e
      have HL2 : Hid ((putsL xs).length ≤ 66) := by
        have := puts_len xs HX.out
        show _ ≤ _
        omega
      have HI2 : Hid (Lib.IsBuilderF 38 5 B b (Lib.byteCells (l ++ putsL xs)) wr) := by
        have := HIr.out
        rw [List.take_length] at this
        exact this
      clear HIr
      go_wp2_with fail
      refine (wbyte_walk B b _ 10 _ HI2.out ?_ hsr).mono ?_
      · rw [Lib.byteCells_length]; have := HL2.out; simp only [List.length_append]; omega
      rintro e w2 ⟨rfl, hI2, hb2, ho2⟩
      have H2 : Hid (Lib.IsBuilderF 38 5 B b (Lib.byteCells (l ++ L)) w2 ∧ Below B w w2 ∧ Lib.OthersKept 5 (some b) w w2) := by
        refine ⟨?_, HB.out.trans hb2, HO.out.trans ho2⟩
        rw [HE.out, ← List.append_assoc, Lib.byteCells_append _ [10]]
        exact hI2
      clear hI2 hb2 ho2
      go_wp2_with fail
      go_end0
      exact ⟨rfl, H2.out⟩
end Go.Proofs.YtcfcpibamjgodaaDoor
