/-
  Contracts of the document's own MoveLine and MovesShown (P17.2, P17.3).
-/
import Derived.Test.YtdeghndcglgfkaaDoorRefWord
namespace Go.Proofs.YtdeghndcglgfkaaDoor
set_option maxRecDepth 100000
open Go.ChangeShapes Go.WideShapes Go.ChangeAt Go.RowKit

set_option maxHeartbeats 4000000 in
theorem moveLine_none (k a b : Int) (hk : findK k = none) (w : World) :
    Calls Tryd.prog 17 #[.agg #[.int .i64 k, .int .i64 a, .int .i64 b]] w fun e w' => e = .returned (.tuple #[.string ⟨#[]⟩, .int .i64 3]) ∧ Below w.heap.size w w' := by
  have HW : Hid (∀ X, Calls Tryd.prog 25 #[.int .i64 k] X fun e w' => e = .returned (.tuple #[.string ⟨#[]⟩, .bool false, .bool false]) ∧ w' = X) := fun X => by have := moveWord_any k X; rw [hk] at this; exact this
  clear hk
  go_enter Tryd.func17, Tryd.ntmps17
  go_wp2_with fail
  refine (HW.out _).mono ?_
  rintro e w1 ⟨rfl, hw⟩
  rw [hw]
  clear hw
  go_wp2_with fail
  go_ret2
  exact ⟨rfl, below_alloc _ _⟩

section
variable {at_ kp : Bool}
set_option maxHeartbeats 4000000 in
theorem moveLine_a (k a b : Int) (fw : List UInt8) (hne : fw.isEmpty = false) (hl : fw.length ≤ 6) (hA : inB a 0 1152921504606846976 = false) (w : World)
    (HW : Hid (∀ X, Calls Tryd.prog 25 #[.int .i64 k] X fun e w' => e = .returned (.tuple #[.string ⟨fw.toArray⟩, .bool at_, .bool kp]) ∧ w' = X)) :
    Calls Tryd.prog 17 #[.agg #[.int .i64 k, .int .i64 a, .int .i64 b]] w fun e w' => e = .returned (.tuple #[.string ⟨#[]⟩, .int .i64 2]) ∧ Below w.heap.size w w' := by
  have hne2 : (fw == []) = false := by cases fw <;> simp_all
  have hne3 : ¬ fw = [] := by intro e; rw [e] at hne; exact absurd hne (by decide)
  go_enter Tryd.func17, Tryd.ntmps17
  go_wp2_with fail
  refine (HW.out _).mono ?_
  rintro e w1 ⟨rfl, hw⟩
  rw [hw]
  clear hw HW
  go_wp2_with fail
  refine (in_any _ _ _ _).mono ?_
  rintro e w2 ⟨rfl, hw⟩
  rw [hw]
  clear hw
  go_wp2_with fail
  go_ret2
  exact ⟨rfl, below_alloc _ _⟩

set_option maxHeartbeats 4000000 in
theorem moveLine_b (k a b : Int) (fw : List UInt8) (hne : fw.isEmpty = false) (hl : fw.length ≤ 6) (hA : inB a 0 1152921504606846976 = true) (hB : inB b 0 1152921504606846976 = false) (w : World)
    (HW : Hid (∀ X, Calls Tryd.prog 25 #[.int .i64 k] X fun e w' => e = .returned (.tuple #[.string ⟨fw.toArray⟩, .bool at_, .bool kp]) ∧ w' = X)) :
    Calls Tryd.prog 17 #[.agg #[.int .i64 k, .int .i64 a, .int .i64 b]] w fun e w' => e = .returned (.tuple #[.string ⟨#[]⟩, .int .i64 2]) ∧ Below w.heap.size w w' := by
  have hne2 : (fw == []) = false := by cases fw <;> simp_all
  have hne3 : ¬ fw = [] := by intro e; rw [e] at hne; exact absurd hne (by decide)
  go_enter Tryd.func17, Tryd.ntmps17
  go_wp2_with fail
  refine (HW.out _).mono ?_
  rintro e w1 ⟨rfl, hw⟩
  rw [hw]
  clear hw HW
  go_wp2_with fail
  refine (in_any _ _ _ _).mono ?_
  rintro e w2 ⟨rfl, hw⟩
  rw [hw]
  clear hw
  go_wp2_with fail
  refine (in_any _ _ _ _).mono ?_
  rintro e w2 ⟨rfl, hw⟩
  rw [hw]
  clear hw
  go_wp2_with fail
  go_ret2
  exact ⟨rfl, below_alloc _ _⟩

end
set_option maxHeartbeats 4000000 in
theorem moveLine_0a (k a b : Int) (fw : List UInt8) (hne : fw.isEmpty = false) (hl : fw.length ≤ 6) (hA : inB a 0 1152921504606846976 = true) (hB : inB b 0 1152921504606846976 = true) (ha : 0 < a) (w : World)
    (HW : Hid (∀ X, Calls Tryd.prog 25 #[.int .i64 k] X fun e w' => e = .returned (.tuple #[.string ⟨fw.toArray⟩, .bool false, .bool false]) ∧ w' = X)) :
    Calls Tryd.prog 17 #[.agg #[.int .i64 k, .int .i64 a, .int .i64 b]] w fun e w' => e = .returned (.tuple #[.string ⟨#[]⟩, .int .i64 2]) ∧ Below w.heap.size w w' := by
  have hne2 : (fw == []) = false := by cases fw <;> simp_all
  have hne3 : ¬ fw = [] := by intro e; rw [e] at hne; exact absurd hne (by decide)
  go_enter Tryd.func17, Tryd.ntmps17
  go_wp2_with fail
  refine (HW.out _).mono ?_
  rintro e w1 ⟨rfl, hw⟩
  rw [hw]
  clear hw HW
  go_wp2_with fail
  refine (in_any _ _ _ _).mono ?_
  rintro e w2 ⟨rfl, hw⟩
  rw [hw]
  clear hw
  go_wp2_with fail
  refine (in_any _ _ _ _).mono ?_
  rintro e w2 ⟨rfl, hw⟩
  rw [hw]
  clear hw
  go_wp2_with fail
  go_ret2
  exact ⟨rfl, below_alloc _ _⟩

set_option maxHeartbeats 4000000 in
theorem moveLine_0b (k a b : Int) (fw : List UInt8) (hne : fw.isEmpty = false) (hl : fw.length ≤ 6) (hA : inB a 0 1152921504606846976 = true) (hB : inB b 0 1152921504606846976 = true) (ha : ¬ 0 < a) (hb : 0 < b) (w : World)
    (HW : Hid (∀ X, Calls Tryd.prog 25 #[.int .i64 k] X fun e w' => e = .returned (.tuple #[.string ⟨fw.toArray⟩, .bool false, .bool false]) ∧ w' = X)) :
    Calls Tryd.prog 17 #[.agg #[.int .i64 k, .int .i64 a, .int .i64 b]] w fun e w' => e = .returned (.tuple #[.string ⟨#[]⟩, .int .i64 2]) ∧ Below w.heap.size w w' := by
  have hne2 : (fw == []) = false := by cases fw <;> simp_all
  have hne3 : ¬ fw = [] := by intro e; rw [e] at hne; exact absurd hne (by decide)
  go_enter Tryd.func17, Tryd.ntmps17
  go_wp2_with fail
  refine (HW.out _).mono ?_
  rintro e w1 ⟨rfl, hw⟩
  rw [hw]
  clear hw HW
  go_wp2_with fail
  refine (in_any _ _ _ _).mono ?_
  rintro e w2 ⟨rfl, hw⟩
  rw [hw]
  clear hw
  go_wp2_with fail
  refine (in_any _ _ _ _).mono ?_
  rintro e w2 ⟨rfl, hw⟩
  rw [hw]
  clear hw
  go_wp2_with fail
  go_ret2
  exact ⟨rfl, below_alloc _ _⟩

set_option maxHeartbeats 4000000 in
theorem moveLine_1b (k a b : Int) (fw : List UInt8) (hne : fw.isEmpty = false) (hl : fw.length ≤ 6) (hA : inB a 0 1152921504606846976 = true) (hB : inB b 0 1152921504606846976 = true) (hb : 0 < b) (w : World)
    (HW : Hid (∀ X, Calls Tryd.prog 25 #[.int .i64 k] X fun e w' => e = .returned (.tuple #[.string ⟨fw.toArray⟩, .bool true, .bool false]) ∧ w' = X)) :
    Calls Tryd.prog 17 #[.agg #[.int .i64 k, .int .i64 a, .int .i64 b]] w fun e w' => e = .returned (.tuple #[.string ⟨#[]⟩, .int .i64 2]) ∧ Below w.heap.size w w' := by
  have hne2 : (fw == []) = false := by cases fw <;> simp_all
  have hne3 : ¬ fw = [] := by intro e; rw [e] at hne; exact absurd hne (by decide)
  go_enter Tryd.func17, Tryd.ntmps17
  go_wp2_with fail
  refine (HW.out _).mono ?_
  rintro e w1 ⟨rfl, hw⟩
  rw [hw]
  clear hw HW
  go_wp2_with fail
  refine (in_any _ _ _ _).mono ?_
  rintro e w2 ⟨rfl, hw⟩
  rw [hw]
  clear hw
  go_wp2_with fail
  refine (in_any _ _ _ _).mono ?_
  rintro e w2 ⟨rfl, hw⟩
  rw [hw]
  clear hw
  go_wp2_with fail
  go_ret2
  exact ⟨rfl, below_alloc _ _⟩

set_option maxHeartbeats 4000000 in
theorem moveLine_0 (k a b : Int) (fw : List UInt8) (hne : fw.isEmpty = false) (hl : fw.length ≤ 6) (hA : inB a 0 1152921504606846976 = true) (hB : inB b 0 1152921504606846976 = true) (ha : ¬ 0 < a) (hb : ¬ 0 < b) (w : World)
    (HW : Hid (∀ X, Calls Tryd.prog 25 #[.int .i64 k] X fun e w' => e = .returned (.tuple #[.string ⟨fw.toArray⟩, .bool false, .bool false]) ∧ w' = X)) :
    Calls Tryd.prog 17 #[.agg #[.int .i64 k, .int .i64 a, .int .i64 b]] w fun e w' => e = .returned (.tuple #[.string ⟨(fw ++ [10]).toArray⟩, .int .i64 0]) ∧ Below w.heap.size w w' := by
  have hne2 : (fw == []) = false := by cases fw <;> simp_all
  have hne3 : ¬ fw = [] := by intro e; rw [e] at hne; exact absurd hne (by decide)
  have hap : (⟨fw.toArray⟩ : ByteArray) ++ ⟨#[10]⟩ = ⟨(fw ++ [10]).toArray⟩ := str_app _ [10]
  have hlb : ¬ 9223372036854775807 < fw.length + 1 := by omega
  go_enter Tryd.func17, Tryd.ntmps17
  go_wp2_with fail
  refine (HW.out _).mono ?_
  rintro e w1 ⟨rfl, hw⟩
  rw [hw]
  clear hw HW
  go_wp2_with fail
  refine (in_any _ _ _ _).mono ?_
  rintro e w2 ⟨rfl, hw⟩
  rw [hw]
  clear hw
  go_wp2_with fail
  refine (in_any _ _ _ _).mono ?_
  rintro e w2 ⟨rfl, hw⟩
  rw [hw]
  clear hw
  go_wp2_with fail
  go_ret2
  exact ⟨rfl, below_alloc _ _⟩

set_option maxHeartbeats 4000000 in
theorem moveLine_1 (k a b : Int) (fw : List UInt8) (hne : fw.isEmpty = false) (hl : fw.length ≤ 6) (hA : inB a 0 1152921504606846976 = true) (hB : inB b 0 1152921504606846976 = true) (hb : ¬ 0 < b) (w : World)
    (HW : Hid (∀ X, Calls Tryd.prog 25 #[.int .i64 k] X fun e w' => e = .returned (.tuple #[.string ⟨fw.toArray⟩, .bool true, .bool false]) ∧ w' = X)) :
    Calls Tryd.prog 17 #[.agg #[.int .i64 k, .int .i64 a, .int .i64 b]] w fun e w' => e = .returned (.tuple #[.string ⟨(fw ++ 32 :: Lib.itoa a ++ [10]).toArray⟩, .int .i64 0]) ∧ Below w.heap.size w w' := by
  have hne2 : (fw == []) = false := by cases fw <;> simp_all
  have hne3 : ¬ fw = [] := by intro e; rw [e] at hne; exact absurd hne (by decide)
  have ha0 : 0 ≤ a ∧ a ≤ 1152921504606846976 := by simpa [inB] using hA
  have HDA : Hid (∀ X, Calls Tryd.prog 27 #[.int .i64 a] X fun e w' => e = .returned (.string ⟨(Lib.itoa a).toArray⟩) ∧ Below X.heap.size X w') := fun X => dec_int a ha0.1 (by omega) X
  have la := Lib.itoa_length_le a (by omega) (by omega)
  generalize Lib.itoa a = IA at HDA la ⊢
  have hl0 : ¬ 9223372036854775807 < fw.length + 1 := by omega
  have hl1 : ¬ 9223372036854775807 < fw.length + 1 + IA.length := by omega
  have hp0 : (⟨fw.toArray⟩ : ByteArray) ++ ⟨#[32]⟩ = ⟨(fw ++ [32]).toArray⟩ := str_app _ [32]
  have hp1 : (⟨(fw ++ [32]).toArray⟩ : ByteArray) ++ ⟨IA.toArray⟩ = ⟨(fw ++ 32 :: IA).toArray⟩ := by rw [str_app]; simp
  have hl2 : ¬ 9223372036854775807 < fw.length + (IA.length + 1) + 1 := by omega
  have hp2 : (⟨(fw ++ 32 :: IA).toArray⟩ : ByteArray) ++ ⟨#[10]⟩ = ⟨(fw ++ 32 :: IA ++ [10]).toArray⟩ := str_app _ [10]
  clear la
  go_enter Tryd.func17, Tryd.ntmps17
  go_wp2_with fail
  refine (HW.out _).mono ?_
  rintro e w1 ⟨rfl, hw⟩
  rw [hw]
  clear hw HW
  go_wp2_with fail
  refine (in_any _ _ _ _).mono ?_
  rintro e w2 ⟨rfl, hw⟩
  rw [hw]
  clear hw
  go_wp2_with fail
  refine (in_any _ _ _ _).mono ?_
  rintro e w2 ⟨rfl, hw⟩
  rw [hw]
  clear hw
  go_wp2_with fail
  refine (HDA.out _).mono ?_
  rintro e w3 ⟨rfl, hb3⟩
  have B3 : Hid (Below w.heap.size w w3) := (below_alloc w _).trans (hb3.mono (by simp))
  clear hb3 HDA
  go_wp2_with fail
  go_ret2
  exact ⟨by simp, B3.out⟩

set_option maxHeartbeats 4000000 in
theorem moveLine_2 (k a b : Int) (fw : List UInt8) (hne : fw.isEmpty = false) (hl : fw.length ≤ 6) (hA : inB a 0 1152921504606846976 = true) (hB : inB b 0 1152921504606846976 = true) (w : World)
    (HW : Hid (∀ X, Calls Tryd.prog 25 #[.int .i64 k] X fun e w' => e = .returned (.tuple #[.string ⟨fw.toArray⟩, .bool true, .bool true]) ∧ w' = X)) :
    Calls Tryd.prog 17 #[.agg #[.int .i64 k, .int .i64 a, .int .i64 b]] w fun e w' => e = .returned (.tuple #[.string ⟨(fw ++ 32 :: Lib.itoa a ++ 32 :: Lib.itoa b ++ [10]).toArray⟩, .int .i64 0]) ∧ Below w.heap.size w w' := by
  have hne2 : (fw == []) = false := by cases fw <;> simp_all
  have hne3 : ¬ fw = [] := by intro e; rw [e] at hne; exact absurd hne (by decide)
  have ha0 : 0 ≤ a ∧ a ≤ 1152921504606846976 := by simpa [inB] using hA
  have HDA : Hid (∀ X, Calls Tryd.prog 27 #[.int .i64 a] X fun e w' => e = .returned (.string ⟨(Lib.itoa a).toArray⟩) ∧ Below X.heap.size X w') := fun X => dec_int a ha0.1 (by omega) X
  have la := Lib.itoa_length_le a (by omega) (by omega)
  generalize Lib.itoa a = IA at HDA la ⊢
  have hl0 : ¬ 9223372036854775807 < fw.length + 1 := by omega
  have hl1 : ¬ 9223372036854775807 < fw.length + 1 + IA.length := by omega
  have hp0 : (⟨fw.toArray⟩ : ByteArray) ++ ⟨#[32]⟩ = ⟨(fw ++ [32]).toArray⟩ := str_app _ [32]
  have hp1 : (⟨(fw ++ [32]).toArray⟩ : ByteArray) ++ ⟨IA.toArray⟩ = ⟨(fw ++ 32 :: IA).toArray⟩ := by rw [str_app]; simp
  have hb0 : 0 ≤ b ∧ b ≤ 1152921504606846976 := by simpa [inB] using hB
  have HDB : Hid (∀ X, Calls Tryd.prog 27 #[.int .i64 b] X fun e w' => e = .returned (.string ⟨(Lib.itoa b).toArray⟩) ∧ Below X.heap.size X w') := fun X => dec_int b hb0.1 (by omega) X
  have lb := Lib.itoa_length_le b (by omega) (by omega)
  generalize Lib.itoa b = IB at HDB lb ⊢
  have HG1 : Hid ((fw ++ 32 :: IA).length ≤ 30) := by show _ ≤ _; simp; omega
  obtain ⟨G1, hG1⟩ : ∃ G1, G1 = fw ++ 32 :: IA := ⟨_, rfl⟩
  rw [← hG1] at hp1 HG1 ⊢
  have hl2 : ¬ 9223372036854775807 < G1.length + 1 := by have := HG1.out; omega
  have hl3 : ¬ 9223372036854775807 < G1.length + 1 + IB.length := by have := HG1.out; omega
  have hp2 : (⟨G1.toArray⟩ : ByteArray) ++ ⟨#[32]⟩ = ⟨(G1 ++ [32]).toArray⟩ := str_app _ [32]
  have hp3 : (⟨(G1 ++ [32]).toArray⟩ : ByteArray) ++ ⟨IB.toArray⟩ = ⟨(G1 ++ 32 :: IB).toArray⟩ := by rw [str_app]; simp
  have hp4 : (⟨(G1 ++ 32 :: IB).toArray⟩ : ByteArray) ++ ⟨#[10]⟩ = ⟨(G1 ++ 32 :: IB ++ [10]).toArray⟩ := str_app _ [10]
  have hl4 : ¬ 9223372036854775807 < G1.length + (IB.length + 1) + 1 := by have := HG1.out; omega
  clear la lb hG1
  go_enter Tryd.func17, Tryd.ntmps17
  go_wp2_with fail
  refine (HW.out _).mono ?_
  rintro e w1 ⟨rfl, hw⟩
  rw [hw]
  clear hw HW
  go_wp2_with fail
  refine (in_any _ _ _ _).mono ?_
  rintro e w2 ⟨rfl, hw⟩
  rw [hw]
  clear hw
  go_wp2_with fail
  refine (in_any _ _ _ _).mono ?_
  rintro e w2 ⟨rfl, hw⟩
  rw [hw]
  clear hw
  go_wp2_with fail
  refine (HDA.out _).mono ?_
  rintro e w3 ⟨rfl, hb3⟩
  have B3 : Hid (Below (w.heap.size + 1) (w.alloc (.cells #[.int .i64 k, .int .i64 a, .int .i64 b] 34)) w3) := by show Below _ _ _; simpa using hb3
  have hs3 : w.heap.size + 1 ≤ w3.heap.size := by have := B3.out.size; simpa using this
  have c2 : w3.cell? ⟨w.heap.size, 2, none⟩ = some (.int .i64 b) := (BX.below (BX.new 34 w #[.int .i64 k, .int .i64 a, .int .i64 b]) B3.out (by omega)).cell 2
  clear hb3 HDA
  go_wp2_with fail
  refine (HDB.out _).mono ?_
  rintro e w4 ⟨rfl, hb4⟩
  have B4 : Hid (Below w.heap.size w w4) := ((below_alloc w _).trans (B3.out.mono (by omega))).trans (hb4.mono (by omega))
  clear hb4 HDB c2
  go_wp2_with fail
  go_ret2
  exact ⟨by simp, B4.out⟩

theorem moveLine_any (m : Mv) (w : World) :
    Calls Tryd.prog 17 #[.agg #[.int .i64 m.1, .int .i64 m.2.1, .int .i64 m.2.2]] w fun e w' => e = .returned (linO m) ∧ Below w.heap.size w w' := by
  obtain ⟨k, a, b⟩ := m
  simp only
  cases hk : findK k with
  | none =>
    have : linO (k, a, b) = .tuple #[.string ⟨#[]⟩, .int .i64 3] := by
      have e : plE (k, a, b) = 3 := by unfold plE; rw [show findK (k, a, b).1 = none from hk]
      unfold linO; rw [e]; rfl
    rw [this]
    exact moveLine_none k a b hk w
  | some f =>
    obtain ⟨hfm, _⟩ := findK_mem hk
    obtain ⟨_, _, _, _, hf2, hf6, _⟩ := forms_all f hfm
    have hfe : f.2.1.isEmpty = false := by
      have : ∀ f ∈ formsL, f.2.1.isEmpty = false := by decide
      exact this f hfm
    have HBAD : plB f.2.2 0 a = true ∨ plB f.2.2 1 b = true → linO (k, a, b) = .tuple #[.string ⟨#[]⟩, .int .i64 2] := by
      intro h
      have : plE (k, a, b) = 2 := by
        unfold plE
        rw [show findK (k, a, b).1 = some f from hk]
        simp only
        rw [if_pos (by rcases h with h | h <;> simp [h])]
      unfold linO
      rw [this]
      rfl
    have HGOOD : plB f.2.2 0 a = false → plB f.2.2 1 b = false → linO (k, a, b) = .tuple #[.string ⟨(f.2.1 ++ plP f.2.2 0 a ++ plP f.2.2 1 b ++ [10]).toArray⟩, .int .i64 0] := by
      intro h1 h2
      have e1 : plE (k, a, b) = 0 := by
        unfold plE
        rw [show findK (k, a, b).1 = some f from hk]
        simp only
        rw [if_neg (by simp [h1, h2])]
      unfold linO
      rw [e1, if_pos rfl]
      unfold plW
      rw [show findK (k, a, b).1 = some f from hk]
    have HW : ∀ X, Calls Tryd.prog 25 #[.int .i64 k] X fun e w' => e = .returned (.tuple #[.string ⟨f.2.1.toArray⟩, .bool (decide (1 ≤ f.2.2)), .bool (decide (2 ≤ f.2.2))]) ∧ w' = X := fun X => by have := moveWord_any k X; rw [hk] at this; exact this
    by_cases hA : 0 ≤ a ∧ a ≤ 1152921504606846976
    · by_cases hB : 0 ≤ b ∧ b ≤ 1152921504606846976
      · have iA := in_yes hA
        have iB := in_yes hB
        obtain ⟨fk, fw, fn⟩ := f
        simp only at *
        obtain rfl | rfl | rfl : fn = 0 ∨ fn = 1 ∨ fn = 2 := by omega
        · by_cases ha : 0 < a
          · rw [HBAD (.inl (by have : a ≠ 0 := by omega
                               simp [plB, this]))]
            exact moveLine_0a k a b fw hfe hf6 iA iB ha w HW
          · by_cases hb : 0 < b
            · rw [HBAD (.inr (by have : b ≠ 0 := by omega
                                 simp [plB, this]))]
              exact moveLine_0b k a b fw hfe hf6 iA iB ha hb w HW
            · obtain rfl : a = 0 := by omega
              obtain rfl : b = 0 := by omega
              rw [HGOOD (by decide) (by decide)]
              simp only [plP, Nat.lt_irrefl, if_false, List.append_nil, Nat.not_lt_zero]
              exact moveLine_0 k 0 0 fw hfe hf6 iA iB ha hb w HW
        · by_cases hb : 0 < b
          · rw [HBAD (.inr (by have : b ≠ 0 := by omega
                               simp [plB, this]))]
            exact moveLine_1b k a b fw hfe hf6 iA iB hb w HW
          · obtain rfl : b = 0 := by omega
            rw [HGOOD (by simp [plB]; omega) (by decide)]
            simp only [plP, Nat.lt_irrefl, if_false, List.append_nil, Nat.zero_lt_one, if_true]
            exact moveLine_1 k a 0 fw hfe hf6 iA iB hb w HW
        · rw [HGOOD (by simp [plB]; omega) (by simp [plB]; omega)]
          simp only [plP, Nat.one_lt_two, Nat.zero_lt_two, if_true]
          exact moveLine_2 k a b fw hfe hf6 iA iB w HW
      · rw [HBAD (.inr (by simp only [plB, Bool.or_eq_true, decide_eq_true_eq]; omega))]
        exact moveLine_b k a b _ hfe hf6 (in_yes hA) (in_no hB) w HW
    · rw [HBAD (.inl (by simp only [plB, Bool.or_eq_true, decide_eq_true_eq]; omega))]
      exact moveLine_a k a b _ hfe hf6 (in_no hA) w HW
end Go.Proofs.YtdeghndcglgfkaaDoor
