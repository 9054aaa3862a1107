/-
  Contract of play's lineOf: P17.2.
-/
import Derived.Test.YtdeghndcglgfkaaDoorPlayForm
import Derived.Test.YtdeghndcglgfkaaDoorBuildLib
namespace Go.Proofs.YtdeghndcglgfkaaDoor
set_option maxRecDepth 100000
open Go.ChangeShapes Go.WideShapes Go.ChangeAt Go.RowKit

/-- What lineOf answers. -/
def linO (m : Mv) : Value := .tuple #[.string ⟨(if plE m = 0 then plW m else []).toArray⟩, .int .i64 (plE m)]
theorem Tryd.size3 : (Tryd.prog.info? 3).map (·.size) = some 1 := by kernel_rfl
theorem str_app (a b : List UInt8) : (⟨a.toArray⟩ : ByteArray) ++ ⟨b.toArray⟩ = ⟨(a ++ b).toArray⟩ := by
  apply ByteArray.ext
  simp

theorem pair_index (a b : Int) (w : World) : (Instr.index 58 (.agg #[.int .i64 a, .int .i64 b]) (.int .i64 0)).run Tryd.prog w = .ok (.int .i64 a) w ∧ (Instr.index 58 (.agg #[.int .i64 a, .int .i64 b]) (.int .i64 1)).run Tryd.prog w = .ok (.int .i64 b) w := by
  obtain ⟨j, hj, hjs⟩ := Option.map_eq_some_iff.1 Tryd.size3
  constructor <;> simp [Instr.index, asIntOf, run_underlying Tryd.underlying58 w, part, isAgg, Sem.run_bind, sizeOf, typeInfo, hj, hjs]

set_option maxHeartbeats 4000000 in
theorem lineOf_any (m : Mv) (w : World) (hF : FrmF w.heap.size w) (hT : Tab10 w.heap.size w) :
    Calls Tryd.prog 14 #[.agg #[.int .i64 m.1, .int .i64 m.2.1, .int .i64 m.2.2]] w fun e w' => e = .returned (linO m) ∧ Below w.heap.size w w' := by
  obtain ⟨k, a, b⟩ := m
  simp only
  have HF : Hid (FrmF w.heap.size w) := hF
  have HT : Hid (Tab10 w.heap.size w) := hT
  have HFO : Hid (∀ X, FrmF X.heap.size X → Calls Tryd.prog 22 #[.int .i64 k] X fun e w' => e = .returned (frmO (findK k)) ∧ Below X.heap.size X w') := fun X hX => formOf_any k X hX
  clear hF hT
  cases hk : findK k with
  | none =>
    have HO : Hid (linO (k, a, b) = .tuple #[.string ⟨#[]⟩, .int .i64 3]) := by
      show linO _ = _
      have : plE (k, a, b) = 3 := by unfold plE; rw [show findK (k, a, b).1 = none from hk]
      unfold linO
      rw [this]
      rfl
    rw [hk] at HFO
    unfold frmO at HFO
    simp only at HFO
    generalize linO (k, a, b) = LO at HO ⊢
    clear hk
    go_enter Tryd.func14, Tryd.ntmps14
    go_wp2_with fail
    refine (HFO.out _ ?_).mono ?_
    · exact (HF.out.on (below_alloc _ _)).up (by simp)
    rintro e w1 ⟨rfl, hb1⟩
    have B1 : Hid (Below w.heap.size w w1) := (below_alloc w _).trans (hb1.mono (by simp))
    have hs1 := B1.out.size
    clear hb1 HFO
    go_wp2_with fail
    go_ret2
    exact ⟨HO.out.symm ▸ rfl, B1.out.alloc hs1 _⟩
  | some f =>
    obtain ⟨hfm, hfk⟩ := findK_mem hk
    obtain ⟨_, _, _, _, hf2, hf6, _⟩ := forms_all f hfm
    have HBAD : Hid (plB f.2.2 0 a = true ∨ plB f.2.2 1 b = true → linO (k, a, b) = .tuple #[.string ⟨#[]⟩, .int .i64 2]) := by
      intro h
      have : plE (k, a, b) = 2 := by
        unfold plE
        rw [show findK (k, a, b).1 = some f from hk]
        simp only
        rw [if_pos (by rcases h with h | h <;> simp [h])]
      unfold linO
      rw [this]
      rfl
    have HGOOD : Hid (plB f.2.2 0 a = false → plB f.2.2 1 b = false → linO (k, a, b) = .tuple #[.string ⟨(f.2.1 ++ plP f.2.2 0 a ++ plP f.2.2 1 b ++ [10]).toArray⟩, .int .i64 0]) := by
      intro h1 h2
      have e1 : plE (k, a, b) = 0 := by
        unfold plE
        rw [show findK (k, a, b).1 = some f from hk]
        simp only
        rw [if_neg (by simp [h1, h2])]
      unfold linO
      rw [e1, if_pos rfl]
      unfold plW
      rw [show findK (k, a, b).1 = some f from hk]
    have HIT : Hid (∀ n, i64B n → ∀ X, Tab10 X.heap.size X → Calls Tryd.prog 23 #[.int .i64 n] X fun e w' => e = .returned (.string ⟨(Lib.itoa n).toArray⟩) ∧ Below X.heap.size X w') := fun n hn X hX => itoa_any n hn X.heap.size X hX
    rw [hk] at HFO
    unfold frmO at HFO
    obtain ⟨fk, fw, fn⟩ := f
    simp only at HFO HBAD HGOOD hf2 hf6
    have HL0 : Hid (fw.length ≤ 50) := by show _ ≤ _; omega
    have HL1 : Hid (0 ≤ a → a ≤ 1152921504606846976 → (fw ++ plP fn 0 a).length ≤ 50) := fun h1 h2 => by have := plP_len (j := fn) (i := 0) h1 h2; simp; omega
    have HL2 : Hid (0 ≤ a → a ≤ 1152921504606846976 → 0 ≤ b → b ≤ 1152921504606846976 → (fw ++ plP fn 0 a ++ plP fn 1 b).length ≤ 50) := fun h1 h2 h3 h4 => by have := plP_len (j := fn) (i := 0) h1 h2; have := plP_len (j := fn) (i := 1) h3 h4; simp; omega
    clear hk hfm hfk hf2 hf6
    go_enter Tryd.func14, Tryd.ntmps14
    go_wp2_with fail
    refine (HFO.out _ ?_).mono ?_
    · exact (HF.out.on (below_alloc _ _)).up (by simp)
    rintro e w1 ⟨rfl, hb1⟩
    have B1 : Hid (Below (w.heap.size + 1) (w.alloc (.cells #[.int .i64 k, .int .i64 a, .int .i64 b] 34)) w1) := by
      show Below _ _ _
      simpa using hb1
    have hs1 : w.heap.size + 1 ≤ w1.heap.size := by have := B1.out.size; simpa using this
    have HX : Hid (BX 34 w1 w.heap.size #[.int .i64 k, .int .i64 a, .int .i64 b]) := BX.below (BX.new _ _ _) B1.out (by omega)
    have m1 : ∀ X, (w1.alloc X).cell? ⟨w.heap.size, 1, none⟩ = some (.int .i64 a) := fun X => ((below_alloc w1 X).cell (p := ⟨w.heap.size, 1, none⟩) (show w.heap.size < w1.heap.size by omega)).trans (HX.out.cell 1)
    have m2 : ∀ X, (w1.alloc X).cell? ⟨w.heap.size, 2, none⟩ = some (.int .i64 b) := fun X => ((below_alloc w1 X).cell (p := ⟨w.heap.size, 2, none⟩) (show w.heap.size < w1.heap.size by omega)).trans (HX.out.cell 2)
    clear hb1 HFO
    go_wp2_with fail
    have HY : Hid (BX 55 (w1.alloc (.cells #[.int .i64 fk, .string ⟨fw.toArray⟩, .int .i64 (fn : Int)] 55)) w1.heap.size #[.int .i64 fk, .string ⟨fw.toArray⟩, .int .i64 (fn : Int)]) := BX.new _ _ _
    have HB0 : Hid (Below w.heap.size w (w1.alloc (.cells #[.int .i64 fk, .string ⟨fw.toArray⟩, .int .i64 (fn : Int)] 55))) := ((below_alloc w _).trans (B1.out.mono (by omega))).alloc (by omega) _
    have hsz : (w1.alloc (.cells #[.int .i64 fk, .string ⟨fw.toArray⟩, .int .i64 (fn : Int)] 55)).heap.size = w1.heap.size + 1 := by simp
    generalize w1.alloc (.cells #[.int .i64 fk, .string ⟨fw.toArray⟩, .int .i64 (fn : Int)] 55) = W0 at HY HB0 hsz ⊢
    clear m1 m2
    go_loopw [6, 24] (fun l i wr => Below (w1.heap.size + 1) W0 wr ∧ ∃ n : Nat, i = .int .i64 n ∧ ((n = 0 ∧ l = .string ⟨fw.toArray⟩) ∨ (n = 1 ∧ (plB fn 0 a = false ∧ l = .string ⟨(fw ++ plP fn 0 a).toArray⟩)) ∨ (n = 2 ∧ (plB fn 0 a = false ∧ plB fn 1 b = false ∧ l = .string ⟨(fw ++ plP fn 0 a ++ plP fn 1 b).toArray⟩)))) (fun _ i _ => 2 - (intOf i).toNat)
    case atStart => exact ⟨Below.refl _ _, 0, rfl, .inl ⟨rfl, rfl⟩⟩
    case round =>
      obtain ⟨hbel, n, rfl, hcase⟩ := hrel
      have HB : Hid (Below (w1.heap.size + 1) W0 wr) := hbel
      have hsr : w1.heap.size + 1 ≤ wr.heap.size := by have := hbel.size; omega
      have HBW : Hid (Below w.heap.size w wr) := HB0.out.trans (hbel.mono (by omega))
      have HTR : Hid (Tab10 wr.heap.size wr) := (HT.out.on HBW.out).up HBW.out.size
      have c2 : wr.cell? ⟨w1.heap.size, 2, none⟩ = some (.int .i64 (fn : Int)) := (BX.below HY.out hbel (by omega)).cell 2
      have ix0 := fun W => (pair_index a b W).1
      have ix1 := fun W => (pair_index a b W).2
      clear hbel
      rcases hcase with ⟨hn, rfl⟩ | ⟨hn, hp0, rfl⟩ | ⟨hn, hp0, hp1, rfl⟩
      · subst hn
        have HLN : Hid (fw.length ≤ 50) := HL0.out
        by_cases h0 : a < 0
        · skip
          have HO : Hid (linO (k, a, b) = .tuple #[.string ⟨#[]⟩, .int .i64 2]) := HBAD.out (.inl (by simp [plB, h0]))
          clear HBAD HIT
          go_wp2_with fail
          go_ret2
          exact ⟨by rw [HO.out]; rfl, HBW.out⟩
        by_cases h1 : 1152921504606846976 < a
        · skip
          have HO : Hid (linO (k, a, b) = .tuple #[.string ⟨#[]⟩, .int .i64 2]) := HBAD.out (.inl (by simp [plB, h1]))
          clear HBAD HIT
          go_wp2_with fail
          go_ret2
          exact ⟨by rw [HO.out]; rfl, HBW.out⟩
        by_cases hj : fn ≤ 0
        · obtain rfl : fn = 0 := by omega
          by_cases hz : a = 0
          · have HG : Hid (plB 0 0 a = false ∧ plP 0 0 a = []) := ⟨by simp [plB, hz], by unfold plP; rw [if_neg (by omega)]⟩
            have hz1 : (a != 0) = false := by simpa using hz
            clear hz hj
            go_wp2_with fail
            go_roundw
            case rel => exact ⟨HB.out, 1, rfl, .inr (.inl ⟨rfl, HG.out.1, by rw [HG.out.2, List.append_nil]⟩)⟩
            case measure => simp [intOf]
          · have hz1 : (a != 0) = true := by simpa using hz
            have HO : Hid (linO (k, a, b) = .tuple #[.string ⟨#[]⟩, .int .i64 2]) := HBAD.out (.inl (by simp [plB, hz]))
            clear HBAD HIT
            go_wp2_with fail
            go_ret2
            exact ⟨by rw [HO.out]; rfl, HBW.out⟩
        · have hj1 : ¬ (fn : Int) ≤ 0 := by omega
          have hj2 : (0 : Int) < (fn : Int) := by omega
          have HG : Hid (plB fn 0 a = false ∧ plP fn 0 a = 32 :: Lib.itoa a) := ⟨by simp [plB, h0, h1, hj], by unfold plP; rw [if_pos (by omega)]⟩
          clear hj
          have HIA := HIT.out a (by unfold i64B; omega)
          have HIL : Hid ((Lib.itoa a).length ≤ 21) := Lib.itoa_length_le a (by omega) (by omega)
          generalize Lib.itoa a = IA at HG HIA HIL
          have hla : ¬ 9223372036854775807 < 1 + IA.length := by have := HIL.out; omega
          have hla2 : ¬ 9223372036854775807 < IA.length + 1 := by have := HIL.out; omega
          have hap1 : (⟨#[32]⟩ : ByteArray) ++ ⟨IA.toArray⟩ = ⟨(32 :: IA).toArray⟩ := str_app [32] IA
          have hap2 : (⟨fw.toArray⟩ : ByteArray) ++ ⟨(32 :: IA).toArray⟩ = ⟨(fw ++ 32 :: IA).toArray⟩ := str_app _ _
          have hlb : ¬ 9223372036854775807 < fw.length + (IA.length + 1) := by have := HIL.out; have := HLN.out; omega
          have HIB := Lib.hid (HIA wr HTR.out)
          clear HIA HIT
          go_wp2_with fail
          refine HIB.out.mono ?_
          rintro e w3 ⟨rfl, hb3⟩
          have HB3 : Hid (Below (w1.heap.size + 1) W0 w3) := HB.out.trans (hb3.mono (by omega))
          clear hb3 HIB
          go_wp2_with fail
          go_roundw
          case rel => exact ⟨HB3.out, 1, rfl, .inr (.inl ⟨rfl, HG.out.1, by rw [HG.out.2]⟩)⟩
          case measure => simp [intOf]
      · subst hn
        have HP0 : Hid (plB fn 0 a = false) := hp0
        obtain ⟨g1, g2⟩ : 0 ≤ a ∧ a ≤ 1152921504606846976 := by simp only [plB, Bool.or_eq_false_iff, decide_eq_false_iff_not] at hp0; omega
        have HLN' := HL1.out g1 g2
        clear hp0 g1 g2
        obtain ⟨L0, hL0⟩ : ∃ L0, L0 = fw ++ plP fn 0 a := ⟨_, rfl⟩
        have HLE : Hid (L0 = fw ++ plP fn 0 a) := hL0
        rw [← hL0] at HLN' ⊢
        clear hL0
        have HLN : Hid (L0.length ≤ 50) := HLN'
        clear HLN'
        by_cases h0 : b < 0
        · skip
          have HO : Hid (linO (k, a, b) = .tuple #[.string ⟨#[]⟩, .int .i64 2]) := HBAD.out (.inr (by simp [plB, h0]))
          clear HBAD HIT
          go_wp2_with fail
          go_ret2
          exact ⟨by rw [HO.out]; rfl, HBW.out⟩
        by_cases h1 : 1152921504606846976 < b
        · skip
          have HO : Hid (linO (k, a, b) = .tuple #[.string ⟨#[]⟩, .int .i64 2]) := HBAD.out (.inr (by simp [plB, h1]))
          clear HBAD HIT
          go_wp2_with fail
          go_ret2
          exact ⟨by rw [HO.out]; rfl, HBW.out⟩
        by_cases hj : fn ≤ 1
        · have hj1 : (fn : Int) ≤ 1 := by omega
          have hj2 : ¬ (1 : Int) < (fn : Int) := by omega
          by_cases hz : b = 0
          · have HG : Hid (plB fn 1 b = false ∧ plP fn 1 b = []) := ⟨by simp [plB, hz], by unfold plP; rw [if_neg (by omega)]⟩
            have hz1 : (b != 0) = false := by simpa using hz
            clear hz hj
            go_wp2_with fail
            go_roundw
            case rel => exact ⟨HB.out, 2, rfl, .inr (.inr ⟨rfl, HP0.out, HG.out.1, by rw [HG.out.2, List.append_nil, HLE.out]⟩)⟩
            case measure => simp [intOf]
          · have hz1 : (b != 0) = true := by simpa using hz
            have HO : Hid (linO (k, a, b) = .tuple #[.string ⟨#[]⟩, .int .i64 2]) := HBAD.out (.inr (by simp [plB, hj, hz]))
            clear HBAD HIT
            go_wp2_with fail
            go_ret2
            exact ⟨by rw [HO.out]; rfl, HBW.out⟩
        · have hj1 : ¬ (fn : Int) ≤ 1 := by omega
          have hj2 : (1 : Int) < (fn : Int) := by omega
          have HG : Hid (plB fn 1 b = false ∧ plP fn 1 b = 32 :: Lib.itoa b) := ⟨by simp [plB, h0, h1, hj], by unfold plP; rw [if_pos (by omega)]⟩
          clear hj
          have HIA := HIT.out b (by unfold i64B; omega)
          have HIL : Hid ((Lib.itoa b).length ≤ 21) := Lib.itoa_length_le b (by omega) (by omega)
          generalize Lib.itoa b = IA at HG HIA HIL
          have hla : ¬ 9223372036854775807 < 1 + IA.length := by have := HIL.out; omega
          have hla2 : ¬ 9223372036854775807 < IA.length + 1 := by have := HIL.out; omega
          have hap1 : (⟨#[32]⟩ : ByteArray) ++ ⟨IA.toArray⟩ = ⟨(32 :: IA).toArray⟩ := str_app [32] IA
          have hap2 : (⟨L0.toArray⟩ : ByteArray) ++ ⟨(32 :: IA).toArray⟩ = ⟨(L0 ++ 32 :: IA).toArray⟩ := str_app _ _
          have hlb : ¬ 9223372036854775807 < L0.length + (IA.length + 1) := by have := HIL.out; have := HLN.out; omega
          have HIB := Lib.hid (HIA wr HTR.out)
          clear HIA HIT
          go_wp2_with fail
          refine HIB.out.mono ?_
          rintro e w3 ⟨rfl, hb3⟩
          have HB3 : Hid (Below (w1.heap.size + 1) W0 w3) := HB.out.trans (hb3.mono (by omega))
          clear hb3 HIB
          go_wp2_with fail
          go_roundw
          case rel => exact ⟨HB3.out, 2, rfl, .inr (.inr ⟨rfl, HP0.out, HG.out.1, by rw [HG.out.2]⟩)⟩
          case measure => simp [intOf]
      · subst hn
        have HO := Lib.hid (HGOOD.out hp0 hp1)
        obtain ⟨g1, g2⟩ : 0 ≤ a ∧ a ≤ 1152921504606846976 := by simp only [plB, Bool.or_eq_false_iff, decide_eq_false_iff_not] at hp0; omega
        obtain ⟨g3, g4⟩ : 0 ≤ b ∧ b ≤ 1152921504606846976 := by simp only [plB, Bool.or_eq_false_iff, decide_eq_false_iff_not] at hp1; omega
        have HLN := Lib.hid (HL2.out g1 g2 g3 g4)
        clear hp0 hp1 HGOOD HBAD HL0 HL1 HL2 HIT g1 g2 g3 g4
        generalize fw ++ plP fn 0 a ++ plP fn 1 b = L2 at HO HLN ⊢
        have hap : (⟨L2.toArray⟩ : ByteArray) ++ ⟨#[10]⟩ = ⟨(L2 ++ [10]).toArray⟩ := str_app _ [10]
        have hlb : ¬ 9223372036854775807 < L2.length + 1 := by have := HLN.out; omega
        go_wp2_with fail
        go_ret2
        exact ⟨by rw [HO.out]; rfl, HBW.out⟩
end Go.Proofs.YtdeghndcglgfkaaDoor
