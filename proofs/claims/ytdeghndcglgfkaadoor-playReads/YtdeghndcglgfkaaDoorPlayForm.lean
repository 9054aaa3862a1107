/-
  Contracts of play's formOf and kindOf.
-/
import Derived.Test.YtdeghndcglgfkaaDoorPlayMem
import Derived.Deep.MidRow
namespace Go.Proofs.YtdeghndcglgfkaaDoor
set_option maxRecDepth 100000
open Go.ChangeShapes Go.WideShapes Go.ChangeAt Go.RowKit

theorem find_not {k : Int} {i : Nat} (h : ∀ (j : Nat) (f : Fm), j < i → formsL[j]? = some f → f.1 ≠ k) : formsL.find? (fun f => f.1 == k) = (formsL.drop i).find? (fun f => f.1 == k) := by
  have e : formsL = formsL.take i ++ formsL.drop i := (List.take_append_drop i formsL).symm
  conv => lhs; rw [e]
  rw [List.find?_append]
  have : (formsL.take i).find? (fun f => f.1 == k) = none := by
    rw [List.find?_eq_none]
    intro f hf
    obtain ⟨j, hj⟩ := List.mem_iff_getElem?.1 hf
    have hlt : j < i := by
      have := (List.getElem?_eq_some_iff.1 hj).1
      simp at this; omega
    rw [List.getElem?_take_of_lt hlt] at hj
    simpa using h j f hlt hj
  rw [this]; rfl

theorem frm_range {B : Nat} {w : World} (h : FrmF B w) : w.rangeAt 0 0 (formsL.flatMap encF) := fun j v hv => by rw [Nat.zero_add]; exact h.2 j v hv

/-- What formOf answers. -/
def frmO : Option Fm → Value
  | some f => .tuple #[.agg #[.int .i64 f.1, .string ⟨f.2.1.toArray⟩, .int .i64 (f.2.2 : Int)], .bool true]
  | none => .tuple #[.agg #[.int .i64 0, .string ⟨#[]⟩, .int .i64 0], .bool false]

set_option maxHeartbeats 4000000 in
theorem formOf_any (k : Int) (w : World) (hF : FrmF w.heap.size w) :
    Calls Tryd.prog 22 #[.int .i64 k] w fun e w' => e = .returned (frmO (findK k)) ∧ Below w.heap.size w w' := by
  have HR : Hid ((w.alloc (.cells #[.int .i64 0, .string ⟨#[]⟩, .int .i64 0] 55)).rangeAt 0 0 (formsL.flatMap encF)) := frm_range (hF.on (below_alloc w _))
  have HIX : Hid (∀ (i : Nat) (f : Fm), formsL[i]? = some f → ∀ W : World, (Instr.index 70 (.agg (formsL.flatMap encF).toArray) (.int .i64 (i : Int))).run Tryd.prog W = .ok (.agg #[.int .i64 f.1, .string ⟨f.2.1.toArray⟩, .int .i64 (f.2.2 : Int)]) W) := fun i f h W => frm_index h W
  clear hF
  go_enter Tryd.func22, Tryd.ntmps22
  go_wp2_with (refine wpList_load_mid rfl 70 (.global 0) rfl 0 0 rfl (formsL.flatMap encF) _ HR.out Tryd.underlying70 rfl Tryd.sizeFs ?_)
  have HB0 : Hid (Below (w.heap.size + 1) (w.alloc (.cells #[.int .i64 0, .string ⟨#[]⟩, .int .i64 0] 55)) (w.alloc (.cells #[.int .i64 0, .string ⟨#[]⟩, .int .i64 0] 55))) := Below.refl _ _
  generalize (formsL.flatMap encF).toArray = A at HIX ⊢
  go_loopw [7] (fun i wr => ∃ n : Nat, n ≤ 8 ∧ i = .int .i64 n ∧ (∀ (j : Nat) (f : Fm), j < n → formsL[j]? = some f → f.1 ≠ k) ∧ Below (w.heap.size + 1) (w.alloc (.cells #[.int .i64 0, .string ⟨#[]⟩, .int .i64 0] 55)) wr) (fun i _ => 8 - (intOf i).toNat)
  case atStart => exact ⟨0, by omega, rfl, fun j f h => by omega, HB0.out⟩
  case round =>
    obtain ⟨n, hn, rfl, hno, hbel⟩ := hrel
    have HN : Hid (∀ (j : Nat) (f : Fm), j < n → formsL[j]? = some f → f.1 ≠ k) := hno
    have HB : Hid (Below (w.heap.size + 1) (w.alloc (.cells #[.int .i64 0, .string ⟨#[]⟩, .int .i64 0] 55)) wr) := hbel
    have hsr : w.heap.size + 1 ≤ wr.heap.size := by have := hbel.size; simpa using this
    have hbk : wr.heap[w.heap.size]? = some (.cells #[.int .i64 0, .string ⟨#[]⟩, .int .i64 0] 55 (0, 0)) := (hbel.block _ (Nat.lt_succ_self _)).trans (heap_alloc_new _ _)
    have HBK := Lib.hid hbk
    have d0 : wr.cell? ⟨w.heap.size, 0, none⟩ = some (.int .i64 0) := by rw [Lib.cell_of_heap hbk]; rfl
    have d1 : wr.cell? ⟨w.heap.size, 1, none⟩ = some (.string ⟨#[]⟩) := by rw [Lib.cell_of_heap hbk]; rfl
    have d2 : wr.cell? ⟨w.heap.size, 2, none⟩ = some (.int .i64 0) := by rw [Lib.cell_of_heap hbk]; rfl
    have g0 : wr.frozen? ⟨w.heap.size, 0, none⟩ = false := by simp only [World.frozen?, hbk]; simp
    have g1 : wr.frozen? ⟨w.heap.size, 1, none⟩ = false := by simp only [World.frozen?, hbk]; simp
    have g2 : wr.frozen? ⟨w.heap.size, 2, none⟩ = false := by simp only [World.frozen?, hbk]; simp
    have hlw : w.heap.size < wr.heap.size := by omega
    have a0 : ∀ X, (wr.alloc X).cell? ⟨w.heap.size, 0, none⟩ = some (.int .i64 0) := fun X => ((below_alloc wr X).cell (p := ⟨w.heap.size, 0, none⟩) hlw).trans d0
    have a1 : ∀ X, (wr.alloc X).cell? ⟨w.heap.size, 1, none⟩ = some (.string ⟨#[]⟩) := fun X => ((below_alloc wr X).cell (p := ⟨w.heap.size, 1, none⟩) hlw).trans d1
    have a2 : ∀ X, (wr.alloc X).cell? ⟨w.heap.size, 2, none⟩ = some (.int .i64 0) := fun X => ((below_alloc wr X).cell (p := ⟨w.heap.size, 2, none⟩) hlw).trans d2
    have b0 : ∀ X, (wr.alloc X).frozen? ⟨w.heap.size, 0, none⟩ = false := fun X => ((below_alloc wr X).frozen (p := ⟨w.heap.size, 0, none⟩) hlw).trans g0
    have b1 : ∀ X, (wr.alloc X).frozen? ⟨w.heap.size, 1, none⟩ = false := fun X => ((below_alloc wr X).frozen (p := ⟨w.heap.size, 1, none⟩) hlw).trans g1
    have b2 : ∀ X, (wr.alloc X).frozen? ⟨w.heap.size, 2, none⟩ = false := fun X => ((below_alloc wr X).frozen (p := ⟨w.heap.size, 2, none⟩) hlw).trans g2
    clear hno hbel hbk hlw
    by_cases hlt : n < 8
    · obtain ⟨f, hf⟩ : ∃ f, formsL[n]? = some f := ⟨formsL[n]'hlt, List.getElem?_eq_getElem hlt⟩
      have hix := HIX.out n f hf
      have HFN : Hid (formsL[n]? = some f) := hf
      obtain ⟨fk, fw, fn⟩ := f
      simp only at hix
      clear hf
      by_cases hk : fk = k
      · have HK : Hid (frmO (findK k) = .tuple #[.agg #[.int .i64 fk, .string ⟨fw.toArray⟩, .int .i64 (fn : Int)], .bool true]) := by
          show frmO (findK k) = _
          unfold findK
          rw [find_not (i := n) HN.out, List.drop_eq_getElem_cons hlt]
          have e : formsL[n]'hlt = (fk, fw, fn) := by have := HFN.out; rw [List.getElem?_eq_getElem hlt] at this; exact Option.some.inj this
          rw [e, List.find?_cons, show ((fk, fw, fn).1 == k) = true by simpa using hk]
          rfl
        have hk1 : (fk == k) = true := by simpa using hk
        clear hk
        go_wp2_with fail
        have HX : BX 55 (wr.alloc (.cells #[.int .i64 fk, .string ⟨fw.toArray⟩, .int .i64 (fn : Int)] 55)) w.heap.size #[.int .i64 0, .string ⟨#[]⟩, .int .i64 0] := BX.below (HBK.out : BX 55 wr w.heap.size _) (below_alloc _ _) (by omega)
        obtain ⟨r0, r1, r2, _⟩ := (HX.put3 (.int .i64 fk) (.string ⟨fw.toArray⟩) (.int .i64 (fn : Int))).all3
        refine bodyPost_ret (v := .tuple #[.agg #[.int .i64 fk, .string ⟨fw.toArray⟩, .int .i64 (fn : Int)], .bool true]) (by unfold put3 at r0 r1 r2; simp [results, Tryd.results22, go_sem, r0, r1, r2]) rfl ⟨by rw [HK.out], ?_⟩
        exact below_put3 (((Below.refl _ _).alloc (Nat.le_refl _) _ : Below w.heap.size w _).trans ((HB.out.alloc hsr _).mono (by omega))) (Nat.le_refl _) _ _ _
      · have hk1 : (fk == k) = false := by simpa using hk
        have H2 : Hid (∀ (j : Nat) (f : Fm), j < n + 1 → formsL[j]? = some f → f.1 ≠ k) := by
          intro j f hj hjf
          by_cases he : j = n
          · subst he
            have := hjf.symm.trans HFN.out
            cases this
            exact hk
          · exact HN.out j f (by omega) hjf
        clear hk
        go_wp2_with fail
        go_roundw
        case rel => exact ⟨n + 1, by omega, by go_num, H2.out, HB.out.alloc hsr _⟩
        case measure => simp [intOf]; omega
    · have HK : Hid (frmO (findK k) = .tuple #[.agg #[.int .i64 0, .string ⟨#[]⟩, .int .i64 0], .bool false]) := by
        show frmO (findK k) = _
        unfold findK
        rw [find_not (i := n) HN.out, show n = 8 by omega]
        rfl
      go_wp2_with fail
      obtain ⟨r0, r1, r2, _⟩ := (BX.put3 (show BX 55 wr w.heap.size #[.int .i64 0, .string ⟨#[]⟩, .int .i64 0] from HBK.out) (.int .i64 0) (.string ⟨#[]⟩) (.int .i64 0)).all3
      refine bodyPost_ret (v := .tuple #[.agg #[.int .i64 0, .string ⟨#[]⟩, .int .i64 0], .bool false]) (by unfold put3 at r0 r1 r2; simp [results, Tryd.results22, go_sem, r0, r1, r2]) rfl ⟨by rw [HK.out], ?_⟩
      exact below_put3 (((Below.refl _ _).alloc (Nat.le_refl _) _ : Below w.heap.size w _).trans (HB.out.mono (by omega))) (Nat.le_refl _) _ _ _
theorem findW_not {k : List UInt8} {i : Nat} (h : ∀ (j : Nat) (f : Fm), j < i → formsL[j]? = some f → f.2.1 ≠ k) : formsL.find? (fun f => f.2.1 == k) = (formsL.drop i).find? (fun f => f.2.1 == k) := by
  have e : formsL = formsL.take i ++ formsL.drop i := (List.take_append_drop i formsL).symm
  conv => lhs; rw [e]
  rw [List.find?_append]
  have : (formsL.take i).find? (fun f => f.2.1 == k) = none := by
    rw [List.find?_eq_none]
    intro f hf
    obtain ⟨j, hj⟩ := List.mem_iff_getElem?.1 hf
    have hlt : j < i := by
      have := (List.getElem?_eq_some_iff.1 hj).1
      simp at this; omega
    rw [List.getElem?_take_of_lt hlt] at hj
    simpa using h j f hlt hj
  rw [this]; rfl
theorem str_eq {a : List UInt8} {b : ByteArray} (h : a = b.data.toList) : (a == b.toList) = true := by rw [Lib.toList_data, h]; simp
theorem str_ne {a : List UInt8} {b : ByteArray} (h : a ≠ b.data.toList) : (a == b.toList) = false := by rw [beq_eq_false_iff_ne, Lib.toList_data]; exact h

set_option maxHeartbeats 4000000 in
theorem kindOf_any (s : ByteArray) (w : World) (hF : FrmF w.heap.size w) :
    Calls Tryd.prog 32 #[.string s] w fun e w' => e = .returned (.int .i64 (findW s.data.toList)) ∧ Below w.heap.size w w' := by
  have HR : Hid (w.rangeAt 0 0 (formsL.flatMap encF)) := frm_range hF
  have HIX : Hid (∀ (i : Nat) (f : Fm), formsL[i]? = some f → ∀ W : World, (Instr.index 70 (.agg (formsL.flatMap encF).toArray) (.int .i64 (i : Int))).run Tryd.prog W = .ok (.agg #[.int .i64 f.1, .string ⟨f.2.1.toArray⟩, .int .i64 (f.2.2 : Int)]) W) := fun i f h W => frm_index h W
  clear hF
  go_enter Tryd.func32, Tryd.ntmps32
  go_wp2_with (refine wpList_load_mid rfl 70 (.global 0) rfl 0 0 rfl (formsL.flatMap encF) _ HR.out Tryd.underlying70 rfl Tryd.sizeFs ?_)
  generalize (formsL.flatMap encF).toArray = A at HIX ⊢
  go_loopw [6] (fun i wr => ∃ n : Nat, n ≤ 8 ∧ i = .int .i64 n ∧ (∀ (j : Nat) (f : Fm), j < n → formsL[j]? = some f → f.2.1 ≠ s.data.toList) ∧ Below w.heap.size w wr) (fun i _ => 8 - (intOf i).toNat)
  case atStart => exact ⟨0, by omega, rfl, fun j f h => by omega, Below.refl _ _⟩
  case round =>
    obtain ⟨n, hn, rfl, hno, hbel⟩ := hrel
    have HN : Hid (∀ (j : Nat) (f : Fm), j < n → formsL[j]? = some f → f.2.1 ≠ s.data.toList) := hno
    have HB : Hid (Below w.heap.size w wr) := hbel
    have hsr : w.heap.size ≤ wr.heap.size := hbel.size
    clear hno hbel
    by_cases hlt : n < 8
    · obtain ⟨f, hf⟩ : ∃ f, formsL[n]? = some f := ⟨formsL[n]'hlt, List.getElem?_eq_getElem hlt⟩
      have hix := HIX.out n f hf
      have HFN : Hid (formsL[n]? = some f) := hf
      obtain ⟨fk, fw, fn⟩ := f
      simp only at hix
      clear hf
      by_cases hk : fw = s.data.toList
      · have HK : Hid (findW s.data.toList = fk) := by
          show findW _ = _
          unfold findW
          rw [findW_not (i := n) HN.out, List.drop_eq_getElem_cons hlt]
          have e : formsL[n]'hlt = (fk, fw, fn) := by have := HFN.out; rw [List.getElem?_eq_getElem hlt] at this; exact Option.some.inj this
          rw [e, List.find?_cons, show ((fk, fw, fn).2.1 == s.data.toList) = true by simpa using hk]
        have hk1 := str_eq hk
        clear hk
        go_wp2_with fail
        go_ret
        exact ⟨by rw [HK.out]; rfl, HB.out.alloc hsr _⟩
      · have hk1 := str_ne hk
        have H2 : Hid (∀ (j : Nat) (f : Fm), j < n + 1 → formsL[j]? = some f → f.2.1 ≠ s.data.toList) := by
          intro j f hj hjf
          by_cases he : j = n
          · subst he
            have := hjf.symm.trans HFN.out
            cases this
            exact hk
          · exact HN.out j f (by omega) hjf
        clear hk
        go_wp2_with fail
        go_roundw
        case rel => exact ⟨n + 1, by omega, by go_num, H2.out, HB.out.alloc hsr _⟩
        case measure => simp [intOf]; omega
    · have HK : Hid (findW s.data.toList = 0) := by
        show findW _ = _
        unfold findW
        rw [findW_not (i := n) HN.out, show n = 8 by omega]
        rfl
      go_wp2_with fail
      go_ret
      exact ⟨by rw [HK.out]; rfl, HB.out⟩
end Go.Proofs.YtdeghndcglgfkaaDoor
