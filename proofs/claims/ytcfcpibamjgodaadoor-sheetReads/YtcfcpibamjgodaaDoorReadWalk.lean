/-
  Contract of sheet.Read: the graph that is guessed, where Show gives this very text for it; else the error.
-/
import Derived.Test.YtcfcpibamjgodaaDoorGuessWalk
import Derived.Test.YtcfcpibamjgodaaDoorShowWalk
namespace Go.Proofs.YtcfcpibamjgodaaDoor
set_option maxRecDepth 100000
open Go.ChangeShapes Go.WideShapes Go.ChangeAt Go.RowKit

/-- What Read answers: the graph, and the error. -/
def rdF (L : List UInt8) : (Int × List Ed) × Int :=
  if 20000 < L.length then ((0, []), 1)
  else if faultE (guessF L).1 (guessF L).2 = 0 ∧ showL (guessF L).1 (guessF L).2 = L then (guessF L, 0) else ((0, []), 3)

theorem str_same {a b : ByteArray} (h : a = b) : (a.toList == b.toList) = true := by rw [h]; simp
theorem str_other {a b : ByteArray} (h : a ≠ b) : (a.toList == b.toList) = false := by
  rw [beq_eq_false_iff_ne, Lib.toList_data, Lib.toList_data]
  intro e
  apply h
  have h2 : a.data = b.data := by rw [← Array.toArray_toList (xs := a.data), e, Array.toArray_toList]
  cases a; cases b; simp_all
theorem arr_list (s : ByteArray) : (⟨s.data.toList.toArray⟩ : ByteArray) = s := by
  apply ByteArray.ext
  simp
theorem putg {w : World} {b : Nat} {n : Int} {u : Value} (h : w.heap[b]? = some (.cells #[.int .i64 0, .slice none 0 0] 24 (0, 0))) :
    ((w.setCell ⟨b, 0, none⟩ (.int .i64 n)).setCell ⟨b, 1, none⟩ u).cell? ⟨b, 0, none⟩ = some (.int .i64 n) ∧ ((w.setCell ⟨b, 0, none⟩ (.int .i64 n)).setCell ⟨b, 1, none⟩ u).cell? ⟨b, 1, none⟩ = some u := by
  have h2 := set_es (u := .slice none 0 0) (v := u) (set_n (d := n) h)
  exact ⟨by rw [cell_of h2]; rfl, by rw [cell_of h2]; rfl⟩

set_option maxHeartbeats 2000000 in
theorem read_ok (s T : ByteArray) (gn : Int) (ge : List Ed) (hTs : T = s) (hbig : ¬ 20000 < s.size) (w : World) (hV : VarF w.heap.size w)
    (HGS : Hid (∀ X, VarF X.heap.size X → Calls Tryd.prog 22 #[.string s] X fun e w' => ∃ v, e = .returned (.agg #[.int .i64 gn, v]) ∧ w'.ownsRow X.heap.size 48 3 v ge.length (ge.flatMap encE) ∧ Below X.heap.size X w'))
    (HSA : Hid (∀ v X, EdR X v ge → Tab10 X.heap.size X → Calls Tryd.prog 8 #[.agg #[.int .i64 gn, v]] X fun e w' => e = .returned (.tuple #[.string T, .int .i64 0]) ∧ Below X.heap.size X w')) :
    Calls Tryd.prog 11 #[.string s] w fun e w' => ∃ v, e = .returned (.tuple #[.agg #[.int .i64 gn, v], .int .i64 0]) ∧
      w'.ownsRow w.heap.size 48 3 v ge.length (ge.flatMap encE) ∧ Below w.heap.size w w' := by
  have HV : Hid (VarF w.heap.size w) := hV
  have h1 : ¬ (20000 : Int) < (s.size : Int) := by omega
  have hcmp := str_same hTs
  clear hTs
  clear hV
  go_enter Tryd.func11, Tryd.ntmps11
  go_wp2_with fail
  refine (HGS.out _ ((HV.out.on (below_alloc _ _)).up (by simp))).mono ?_
  rintro e w1 ⟨v, rfl, hown, hb1⟩
  have B1 : Hid (Below (w.heap.size + 1) (w.alloc (.cells #[.int .i64 0, .slice none 0 0] 24)) w1) := by
    show Below _ _ _
    simpa using hb1
  have OW : Hid (w1.ownsRow (w.heap.size + 1) 48 3 v ge.length (ge.flatMap encE)) := by
    show World.ownsRow _ _ _ _ _ _ _
    simpa using hown
  have hs1 : w.heap.size + 1 ≤ w1.heap.size := by have := B1.out.size; simpa using this
  have GR : Hid (EdR w1 v ge) := RowK.own encE_len OW.out
  obtain ⟨va, vc, rfl⟩ := GR.out.shape
  have HSH : Hid (∀ X, EdR X (.slice va ge.length vc) ge → Tab10 X.heap.size X → Calls Tryd.prog 8 #[.agg #[.int .i64 gn, .slice va ge.length vc]] X fun e w' => e = .returned (.tuple #[.string T, .int .i64 0]) ∧ Below X.heap.size X w') := fun X h1 h2 => HSA.out _ X h1 h2
  clear hb1 hown HGS HSA
  go_wp2_with fail
  refine (HSH.out _ (GR.out.below (below_alloc _ _) (Nat.le_refl _)) ?_).mono ?_
  · exact ((HV.out.tb.on (box_below B1.out)).on ((Below.refl _ _).alloc (by omega) _)).up (by simp; omega)
  rintro e w2 ⟨rfl, hb2⟩
  have B2 : Hid (Below (w1.heap.size + 1) (w1.alloc (.cells #[.int .i64 gn, .slice va ge.length vc] 24)) w2) := by
    show Below _ _ _
    simpa using hb2
  have B3 : Hid (Below (w.heap.size + 1) (w.alloc (.cells #[.int .i64 0, .slice none 0 0] 24)) w2) := B1.out.trans (below_low (box_below B2.out) hs1)
  have hbk : w2.heap[w.heap.size]? = some (.cells #[.int .i64 0, .slice none 0 0] 24 (0, 0)) := (B3.out.block _ (Nat.lt_succ_self _)).trans (heap_alloc_new _ _)
  have HBK := Lib.hid hbk
  obtain ⟨g0, g1⟩ := gbox_cells B2.out
  have d0 : w2.cell? ⟨w.heap.size, 0, none⟩ = some (.int .i64 0) := by rw [cell_of hbk]; rfl
  have d1 : w2.cell? ⟨w.heap.size, 1, none⟩ = some (.slice none 0 0) := by rw [cell_of hbk]; rfl
  have f0 : w2.frozen? ⟨w.heap.size, 0, none⟩ = false := by simp only [World.frozen?, hbk]; simp
  have f1 : w2.frozen? ⟨w.heap.size, 1, none⟩ = false := by simp only [World.frozen?, hbk]; simp
  have O2 : Hid (w2.ownsRow (w.heap.size + 1) 48 3 (.slice va ge.length vc) ge.length (ge.flatMap encE)) := own_below OW.out (box_below B2.out) (Nat.le_refl _)
  clear hb2 hbk HSH
  go_wp2_with fail
  obtain ⟨r0, r1⟩ := putg (n := gn) (u := .slice va ge.length vc) HBK.out
  refine bodyPost_ret (v := .tuple #[.agg #[.int .i64 gn, .slice va ge.length vc], .int .i64 0]) (by simp [results, Tryd.results11, go_sem, r0, r1]) rfl ⟨_, rfl, own_lower (own_setB (own_setB O2.out (by omega) _) (by omega) _) (by omega), ?_⟩
  exact ((box_below B3.out).setCell (p := ⟨w.heap.size, 0, none⟩) (Nat.le_refl _) _).setCell (p := ⟨w.heap.size, 1, none⟩) (Nat.le_refl _) _


set_option maxHeartbeats 2000000 in
theorem read_text (s T : ByteArray) (gn : Int) (ge : List Ed) (hTs : T ≠ s) (hbig : ¬ 20000 < s.size) (w : World) (hV : VarF w.heap.size w)
    (HGS : Hid (∀ X, VarF X.heap.size X → Calls Tryd.prog 22 #[.string s] X fun e w' => ∃ v, e = .returned (.agg #[.int .i64 gn, v]) ∧ w'.ownsRow X.heap.size 48 3 v ge.length (ge.flatMap encE) ∧ Below X.heap.size X w'))
    (HSA : Hid (∀ v X, EdR X v ge → Tab10 X.heap.size X → Calls Tryd.prog 8 #[.agg #[.int .i64 gn, v]] X fun e w' => e = .returned (.tuple #[.string T, .int .i64 0]) ∧ Below X.heap.size X w')) :
    Calls Tryd.prog 11 #[.string s] w fun e w' => ∃ v, e = .returned (.tuple #[.agg #[.int .i64 0, v], .int .i64 3]) ∧
      w'.ownsRow w.heap.size 48 3 v ([] : List Ed).length (([] : List Ed).flatMap encE) ∧ Below w.heap.size w w' := by
  have HV : Hid (VarF w.heap.size w) := hV
  have h1 : ¬ (20000 : Int) < (s.size : Int) := by omega
  have hcmp := str_other hTs
  clear hTs
  clear hV
  go_enter Tryd.func11, Tryd.ntmps11
  go_wp2_with fail
  refine (HGS.out _ ((HV.out.on (below_alloc _ _)).up (by simp))).mono ?_
  rintro e w1 ⟨v, rfl, hown, hb1⟩
  have B1 : Hid (Below (w.heap.size + 1) (w.alloc (.cells #[.int .i64 0, .slice none 0 0] 24)) w1) := by
    show Below _ _ _
    simpa using hb1
  have OW : Hid (w1.ownsRow (w.heap.size + 1) 48 3 v ge.length (ge.flatMap encE)) := by
    show World.ownsRow _ _ _ _ _ _ _
    simpa using hown
  have hs1 : w.heap.size + 1 ≤ w1.heap.size := by have := B1.out.size; simpa using this
  have GR : Hid (EdR w1 v ge) := RowK.own encE_len OW.out
  obtain ⟨va, vc, rfl⟩ := GR.out.shape
  have HSH : Hid (∀ X, EdR X (.slice va ge.length vc) ge → Tab10 X.heap.size X → Calls Tryd.prog 8 #[.agg #[.int .i64 gn, .slice va ge.length vc]] X fun e w' => e = .returned (.tuple #[.string T, .int .i64 0]) ∧ Below X.heap.size X w') := fun X h1 h2 => HSA.out _ X h1 h2
  clear hb1 hown HGS HSA
  go_wp2_with fail
  refine (HSH.out _ (GR.out.below (below_alloc _ _) (Nat.le_refl _)) ?_).mono ?_
  · exact ((HV.out.tb.on (box_below B1.out)).on ((Below.refl _ _).alloc (by omega) _)).up (by simp; omega)
  rintro e w2 ⟨rfl, hb2⟩
  have B2 : Hid (Below (w1.heap.size + 1) (w1.alloc (.cells #[.int .i64 gn, .slice va ge.length vc] 24)) w2) := by
    show Below _ _ _
    simpa using hb2
  have B3 : Hid (Below (w.heap.size + 1) (w.alloc (.cells #[.int .i64 0, .slice none 0 0] 24)) w2) := B1.out.trans (below_low (box_below B2.out) hs1)
  have hbk : w2.heap[w.heap.size]? = some (.cells #[.int .i64 0, .slice none 0 0] 24 (0, 0)) := (B3.out.block _ (Nat.lt_succ_self _)).trans (heap_alloc_new _ _)
  have HBK := Lib.hid hbk
  obtain ⟨g0, g1⟩ := gbox_cells B2.out
  have d0 : w2.cell? ⟨w.heap.size, 0, none⟩ = some (.int .i64 0) := by rw [cell_of hbk]; rfl
  have d1 : w2.cell? ⟨w.heap.size, 1, none⟩ = some (.slice none 0 0) := by rw [cell_of hbk]; rfl
  have f0 : w2.frozen? ⟨w.heap.size, 0, none⟩ = false := by simp only [World.frozen?, hbk]; simp
  have f1 : w2.frozen? ⟨w.heap.size, 1, none⟩ = false := by simp only [World.frozen?, hbk]; simp
  have O2 : Hid (w2.ownsRow (w.heap.size + 1) 48 3 (.slice va ge.length vc) ge.length (ge.flatMap encE)) := own_below OW.out (box_below B2.out) (Nat.le_refl _)
  clear hb2 hbk HSH
  go_wp2_with fail
  obtain ⟨r0, r1⟩ := putg (n := 0) (u := .slice none 0 0) HBK.out
  refine bodyPost_ret (v := .tuple #[.agg #[.int .i64 0, .slice none 0 0], .int .i64 3]) (by simp [results, Tryd.results11, go_sem, r0, r1]) rfl ⟨_, rfl, World.ownsRow_nil _ _ _ _, ?_⟩
  exact ((box_below B3.out).setCell (p := ⟨w.heap.size, 0, none⟩) (Nat.le_refl _) _).setCell (p := ⟨w.heap.size, 1, none⟩) (Nat.le_refl _) _


set_option maxHeartbeats 2000000 in
theorem read_fault (s T : ByteArray) (gn : Int) (ge : List Ed) (fe : Int) (hfe : fe ≠ 0) (hbig : ¬ 20000 < s.size) (w : World) (hV : VarF w.heap.size w)
    (HGS : Hid (∀ X, VarF X.heap.size X → Calls Tryd.prog 22 #[.string s] X fun e w' => ∃ v, e = .returned (.agg #[.int .i64 gn, v]) ∧ w'.ownsRow X.heap.size 48 3 v ge.length (ge.flatMap encE) ∧ Below X.heap.size X w'))
    (HSA : Hid (∀ v X, EdR X v ge → Tab10 X.heap.size X → Calls Tryd.prog 8 #[.agg #[.int .i64 gn, v]] X fun e w' => e = .returned (.tuple #[.string T, .int .i64 fe]) ∧ Below X.heap.size X w')) :
    Calls Tryd.prog 11 #[.string s] w fun e w' => ∃ v, e = .returned (.tuple #[.agg #[.int .i64 0, v], .int .i64 3]) ∧
      w'.ownsRow w.heap.size 48 3 v ([] : List Ed).length (([] : List Ed).flatMap encE) ∧ Below w.heap.size w w' := by
  have HV : Hid (VarF w.heap.size w) := hV
  have h1 : ¬ (20000 : Int) < (s.size : Int) := by omega
  have hcmp : (fe != 0) = true := by simpa using hfe
  have hcm2 : (fe == 0) = false := by simpa using hfe
  clear hfe
  clear hV
  go_enter Tryd.func11, Tryd.ntmps11
  go_wp2_with fail
  refine (HGS.out _ ((HV.out.on (below_alloc _ _)).up (by simp))).mono ?_
  rintro e w1 ⟨v, rfl, hown, hb1⟩
  have B1 : Hid (Below (w.heap.size + 1) (w.alloc (.cells #[.int .i64 0, .slice none 0 0] 24)) w1) := by
    show Below _ _ _
    simpa using hb1
  have OW : Hid (w1.ownsRow (w.heap.size + 1) 48 3 v ge.length (ge.flatMap encE)) := by
    show World.ownsRow _ _ _ _ _ _ _
    simpa using hown
  have hs1 : w.heap.size + 1 ≤ w1.heap.size := by have := B1.out.size; simpa using this
  have GR : Hid (EdR w1 v ge) := RowK.own encE_len OW.out
  obtain ⟨va, vc, rfl⟩ := GR.out.shape
  have HSH : Hid (∀ X, EdR X (.slice va ge.length vc) ge → Tab10 X.heap.size X → Calls Tryd.prog 8 #[.agg #[.int .i64 gn, .slice va ge.length vc]] X fun e w' => e = .returned (.tuple #[.string T, .int .i64 fe]) ∧ Below X.heap.size X w') := fun X h1 h2 => HSA.out _ X h1 h2
  clear hb1 hown HGS HSA
  go_wp2_with fail
  refine (HSH.out _ (GR.out.below (below_alloc _ _) (Nat.le_refl _)) ?_).mono ?_
  · exact ((HV.out.tb.on (box_below B1.out)).on ((Below.refl _ _).alloc (by omega) _)).up (by simp; omega)
  rintro e w2 ⟨rfl, hb2⟩
  have B2 : Hid (Below (w1.heap.size + 1) (w1.alloc (.cells #[.int .i64 gn, .slice va ge.length vc] 24)) w2) := by
    show Below _ _ _
    simpa using hb2
  have B3 : Hid (Below (w.heap.size + 1) (w.alloc (.cells #[.int .i64 0, .slice none 0 0] 24)) w2) := B1.out.trans (below_low (box_below B2.out) hs1)
  have hbk : w2.heap[w.heap.size]? = some (.cells #[.int .i64 0, .slice none 0 0] 24 (0, 0)) := (B3.out.block _ (Nat.lt_succ_self _)).trans (heap_alloc_new _ _)
  have HBK := Lib.hid hbk
  obtain ⟨g0, g1⟩ := gbox_cells B2.out
  have d0 : w2.cell? ⟨w.heap.size, 0, none⟩ = some (.int .i64 0) := by rw [cell_of hbk]; rfl
  have d1 : w2.cell? ⟨w.heap.size, 1, none⟩ = some (.slice none 0 0) := by rw [cell_of hbk]; rfl
  have f0 : w2.frozen? ⟨w.heap.size, 0, none⟩ = false := by simp only [World.frozen?, hbk]; simp
  have f1 : w2.frozen? ⟨w.heap.size, 1, none⟩ = false := by simp only [World.frozen?, hbk]; simp
  have O2 : Hid (w2.ownsRow (w.heap.size + 1) 48 3 (.slice va ge.length vc) ge.length (ge.flatMap encE)) := own_below OW.out (box_below B2.out) (Nat.le_refl _)
  clear hb2 hbk HSH
  go_wp2_with fail
  obtain ⟨r0, r1⟩ := putg (n := 0) (u := .slice none 0 0) HBK.out
  refine bodyPost_ret (v := .tuple #[.agg #[.int .i64 0, .slice none 0 0], .int .i64 3]) (by simp [results, Tryd.results11, go_sem, r0, r1]) rfl ⟨_, rfl, World.ownsRow_nil _ _ _ _, ?_⟩
  exact ((box_below B3.out).setCell (p := ⟨w.heap.size, 0, none⟩) (Nat.le_refl _) _).setCell (p := ⟨w.heap.size, 1, none⟩) (Nat.le_refl _) _


set_option maxHeartbeats 2000000 in
theorem read_any (s : ByteArray) (w : World) (hV : VarF w.heap.size w) :
    Calls Tryd.prog 11 #[.string s] w fun e w' => ∃ v, e = .returned (.tuple #[.agg #[.int .i64 (rdF s.data.toList).1.1, v], .int .i64 (rdF s.data.toList).2]) ∧
      w'.ownsRow w.heap.size 48 3 v (rdF s.data.toList).1.2.length ((rdF s.data.toList).1.2.flatMap encE) ∧ Below w.heap.size w w' := by
  have hl : s.data.toList.length = s.size := Array.length_toList
  by_cases hbig : 20000 < s.size
  · have e1 : rdF s.data.toList = ((0, []), 1) := by rw [rdF, if_pos (by omega)]
    rw [e1]
    clear e1 hV hl
    have h1 : (20000 : Int) < (s.size : Int) := by omega
    go_enter Tryd.func11, Tryd.ntmps11
    go_wp2
    refine bodyPost_ret (v := .tuple #[.agg #[.int .i64 0, .slice none 0 0], .int .i64 1]) (by simp [results, Tryd.results11, go_sem]) rfl ⟨_, rfl, World.ownsRow_nil _ _ _ _, ?_⟩
    exact below_alloc w _
  · have HGS : Hid (∀ X, VarF X.heap.size X → Calls Tryd.prog 22 #[.string s] X fun e w' => ∃ v, e = .returned (.agg #[.int .i64 (guessF s.data.toList).1, v]) ∧ w'.ownsRow X.heap.size 48 3 v (guessF s.data.toList).2.length ((guessF s.data.toList).2.flatMap encE) ∧ Below X.heap.size X w') := fun X hX => guess_any s (by omega) X hX
    have e1 : rdF s.data.toList = if faultE (guessF s.data.toList).1 (guessF s.data.toList).2 = 0 ∧ showL (guessF s.data.toList).1 (guessF s.data.toList).2 = s.data.toList then (guessF s.data.toList, 0) else ((0, []), 3) := by rw [rdF, if_neg (by omega)]
    rw [e1]
    generalize guessF s.data.toList = G at HGS ⊢
    obtain ⟨gn, ge⟩ := G
    simp only at HGS ⊢
    have HSA := Lib.hid (fun v X (h1 : EdR X v ge) (h2 : Tab10 X.heap.size X) => show_any v ge gn X h1 h2)
    by_cases hf : faultE gn ge = 0
    · rw [hf, okS_yes] at HSA
      by_cases hsh : showL gn ge = s.data.toList
      · rw [if_pos ⟨hf, hsh⟩]
        exact read_ok s _ gn ge (by rw [hsh]) hbig w hV HGS HSA
      · rw [if_neg (fun h => hsh h.2)]
        exact read_text s _ gn ge (by intro e; apply hsh; rw [← e]) hbig w hV HGS HSA
    · rw [if_neg (fun h => hf h.1)]
      exact read_fault s _ gn ge _ hf hbig w hV HGS HSA
end Go.Proofs.YtcfcpibamjgodaaDoor
