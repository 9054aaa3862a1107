/-
  What the lists of the laws of chapter 17 give (play's forms, strconv's table and errors), a world that meets them, and moves that came in.
-/
import Derived.Test.YtdeghndcglgfkaaDoorPlayMem
import Derived.Test.YtdeghndcglgfkaaDoorBuildLib
import Derived.Test.YtdeghndcglgfkaaDoorDoorWrap
import Derived.Test.YtdeghndcglgfkaaDoorGraphOpen
import Derived.LaidMore
import Derived.Lib.LaidTab
import Derived.Stop.LaidErr
import Derived.Stop.Joined
import Derived.Deep.Strs
namespace Go.Proofs.YtdeghndcglgfkaaDoor
set_option maxRecDepth 100000
open Go.ChangeShapes Go.WideShapes Go.ChangeAt Go.RowKit

/-- The datum of forms. -/
def frmD {H : Type} (fs : List Fm) : DataW H := .agg (fs.map fun f => .agg [.lit (.int .i64 f.1), .lit (.string f.2.1), .lit (.int .i64 (f.2.2 : Int))])
theorem cellsF : Tryd.prog.cellsOf 55 = 3 := by kernel_rfl
theorem cellsFs : Tryd.prog.cellsOf 70 = 24 := by kernel_rfl
theorem cells9 : Tryd.prog.cellsOf 9 = 1 := by kernel_rfl
theorem bytes_eq {s : ByteArray} {l : List UInt8} (h : s.data.toList = l) : s = ⟨l.toArray⟩ := by
  apply ByteArray.ext
  rw [← h]
theorem cells_of_form {H : Type} {enc : TypeId × Value → H} {w : World} {base : Nat} {sp : Nat → Bool} {held : Bool} {fuel : Nat} {cs : List Value} {f : Fm} {b : DataW H × List MemPlace}
    (h : DataW.trod enc Tryd.prog w base sp held fuel 55 cs = some b) (hb : b.1 = .agg [.lit (.int .i64 f.1), .lit (.string f.2.1), .lit (.int .i64 (f.2.2 : Int))]) : cs = encF f := by
  obtain ⟨y0, y1, y2, m, rfl, hl, h0, h1, h2⟩ := Go.Deep.trod_struct3 Tryd.underlying55 h
  rw [cellsF] at hl
  match cs, hl with
  | [c0, c1, c2], _ =>
    simp only [cells3, cells9, List.drop_zero, List.drop_succ_cons, List.take_succ_cons, List.take_zero] at h0 h1 h2
    obtain ⟨i0, e0, rfl, _⟩ := DataW.trod_int Tryd.underlying3 h0
    obtain ⟨s1, e1, rfl, _⟩ := DataW.trod_string Tryd.underlying9 h1
    obtain ⟨i2, e2, rfl, _⟩ := DataW.trod_int Tryd.underlying3 h2
    simp only [List.cons.injEq, and_true] at e0 e1 e2
    subst e0 e1 e2
    simp only [DataW.agg.injEq, List.cons.injEq, DataW.lit.injEq, Lit.int.injEq, Lit.string.injEq, true_and, and_true] at hb
    obtain ⟨q0, q1, q2⟩ := hb
    rw [encF, q0, q2, bytes_eq q1]
theorem forms_of {W : World} {rest : List (String × DataW Unit)} (h : laidMet Tryd.prog (("paceline/play.forms", Rows.laid_paceline_play_forms) :: rest) W) : FrmF W.heap.size W := by
  obtain ⟨ps, ⟨g', t', cs, fuel, p, q, hg', ht', hvar, hd, _, _⟩, _⟩ := h
  have hg : Tryd.prog.globalNamed "paceline/play.forms" = some 0 := by kernel_rfl
  have hty : (Tryd.prog.globals[0]?).map (·.type) = some 70 := by kernel_rfl
  obtain rfl := Option.some.inj (hg.symm.trans hg')
  obtain rfl := Option.some.inj (hty.symm.trans ht')
  have e0 : (Rows.laid_paceline_play_forms : DataW Unit) = frmD formsL := rfl
  rw [e0] at hd
  have hcs : cs.toList = formsL.flatMap encF := by
    cases fuel with
    | zero => simp [DataW.trod] at hd
    | succ fuel =>
      simp only [DataW.trod, Tryd.underlying70, cellsF, cellsFs] at hd
      split at hd
      · rename_i hl
        obtain ⟨xs, hm, hx⟩ := Option.map_eq_some_iff.1 hd
        have hxs : xs.map (·.1) = formsL.map fun f => (DataW.agg [.lit (.int .i64 f.1), .lit (.string f.2.1), .lit (.int .i64 (f.2.2 : Int))] : DataW Unit) := by
          have := congrArg Prod.fst hx
          simpa [frmD] using this
        have key : ∀ i f, formsL[i]? = some f → (cs.toList.drop (i * 3)).take 3 = encF f := by
          intro i f hf
          have hi : i < 8 := (List.getElem?_eq_some_iff.1 hf).1
          obtain ⟨b, hb, hfb⟩ := Lib.mapM_at hm i i (by simp [hi])
          refine cells_of_form hfb ?_
          have h2 : (xs.map (·.1))[i]? = some b.1 := by simp [hb]
          rw [hxs] at h2
          simp only [List.getElem?_map, hf, Option.map_some, Option.some.injEq] at h2
          exact h2.symm
        have k0 := key 0 _ rfl
        have k1 := key 1 _ rfl
        have k2 := key 2 _ rfl
        have k3 := key 3 _ rfl
        have k4 := key 4 _ rfl
        have k5 := key 5 _ rfl
        have k6 := key 6 _ rfl
        have k7 := key 7 _ rfl
        have hl2 : cs.toList.length = 24 := by simpa using hl
        have step : ∀ (L : List Value) (n : Nat), L.drop n = (L.drop n).take 3 ++ L.drop (n + 3) := fun L n => by
          rw [← List.drop_drop, List.take_append_drop]
        have eAll : cs.toList = encF (1, [119, 111, 114, 107], 1) ++ (encF (2, [99, 97, 114, 114, 121], 1) ++ (encF (3, [108, 111, 115, 101], 1) ++ (encF (4, [100, 111, 117, 98, 108, 101], 1) ++ (encF (5, [97, 108, 108], 0) ++ (encF (6, [99, 114, 97, 115, 104], 2) ++ (encF (7, [115, 116, 97, 114, 116], 1) ++ (encF (8, [108, 101, 97, 100], 0) ++ [])))))))  := by
          have d : cs.toList = cs.toList.drop 0 := rfl
          rw [d, step _ 0, step _ 3, step _ 6, step _ 9, step _ 12, step _ 15, step _ 18, step _ 21, List.drop_eq_nil_of_le (Nat.le_of_eq hl2)]
          exact congr (congrArg _ k0) (congr (congrArg _ k1) (congr (congrArg _ k2) (congr (congrArg _ k3) (congr (congrArg _ k4) (congr (congrArg _ k5) (congr (congrArg _ k6) (congr (congrArg _ k7) rfl)))))))
        rw [eAll]
        rfl
      · cases hd
  refine ⟨?_, fun i v hi => ?_⟩
  · have : W.cell? ⟨0, 0, none⟩ = cs[0]? := World.var?_cell hg hvar 0
    have h2 : cs[0]? = some (.int .i64 1) := by rw [← Array.getElem?_toList, hcs]; rfl
    exact World.block_lt_of_cell? W _ (this.trans h2)
  · have : W.cell? ⟨0, i, none⟩ = cs[i]? := World.var?_cell hg hvar i
    rw [this, ← Array.getElem?_toList, hcs]
    exact hi
theorem tab10_of {W : World} {rest : List (String × DataW Unit)} (h : laidMet Tryd.prog (("internal/strconv.uint64pow10", Rows.laid_internal_strconv_uint64pow10) :: rest) W) : Tab10 W.heap.size W := by
  refine Lib.tabBelow_of_tabIs (Lib.tabIs_of_head (g := 2) (t := 92) (e := 78) (n := 20) (by kernel_rfl) (by kernel_rfl) Tryd.underlying92 Tryd.underlying78 (by kernel_rfl) (by kernel_rfl) (rest := rest) ?_)
  exact h
/-- What the walk of PlayShows asks of the first world. -/
def ShwF (w : World) : Prop := FrmF w.heap.size w ∧ Tab10 w.heap.size w
theorem playShows_facts {W : World} (h : laidMetH Tryd.prog Rows.playShowsRow.laid W) (_ : W.ShapedOpen Tryd.prog) : ShwF W := by
  rw [MakeChecks.laidMetH_plain _ _ _ (by kernel_rfl)] at h
  have h2 := laidMet.tail (laidMet.tail h)
  exact ⟨forms_of (laidMet.tail h2), tab10_of h2⟩
theorem playShows_met (os : Os) (args : Array Value) : laidMetH Tryd.prog Rows.playShowsRow.laid ((World.doorLaid Tryd.prog 400 os).forCall (fun _ _ => 0) ⟨#[], args, []⟩).memory :=
  laidMetH_of_parts3 (fuel := 8) (laidMet_of_run' 8 (by kernel_rfl) (by kernel_rfl)) (by kernel_rfl) (by kernel_rfl)
/-- Moves that came in. -/
theorem open_moves {H : Type} {enc : TypeId × Value → H} {W : World} {v0 : Value} {d0 : DataW H} {p0 : List MemPlace} (hv : ∃ a len cap, v0 = .slice a len cap) (h0 : DataW.Trod enc Tryd.prog W 0 (fun _ => true) true 22 v0 d0 p0)
    (hs : ∀ m ∈ d0.weights Tryd.prog 22, m ≤ reachBytes) : ∃ es, EdR W v0 es ∧ (∀ x ∈ es, edB x) ∧ es.length * 24 ≤ 140737488351232 := by
  obtain ⟨a, len, cap, rfl⟩ := hv
  obtain ⟨fuel, hf⟩ := h0
  have e : (Value.slice a len cap).cells.toList = [.slice a len cap] := rfl
  have hf' : DataW.trod enc Tryd.prog W 0 (fun _ => true) true fuel 22 [.slice a len cap] = some (d0, p0) := by rw [← e]; exact hf
  exact open_threes Tryd.underlying22 Tryd.underlying34 (by kernel_rfl) rfl rfl rfl rfl rfl rfl (by kernel_rfl) hf' hs
end Go.Proofs.YtdeghndcglgfkaaDoor
