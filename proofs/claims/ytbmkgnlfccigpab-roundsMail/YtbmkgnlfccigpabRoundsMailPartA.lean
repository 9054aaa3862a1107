/-
  Contract of pacelinekeep's own made: a graph that is right, out of raw numbers.
  A graph that is made of ways is right, and small.
  P12: which error; lists of numbers and of bools that are answered.
  Which error P13.1 names, as a function: its cases.
  What P13.2, P13.4 and P13.7 answer, as functions.
  Contracts of slices.ContainsFunc with settled's two closures: is there mail, is a vertex open.
  Contract of rounds.settled.
  copy(d, s) of values, where both have as many elements.
  Contract of rounds.first.
  Contract of rounds.again.
  Contract of rounds.after: of a job that is right, and a state that may be.
  Contract of rounds.Check.
  Contract of rounds.check: a job, then a state of it.
  Contract of rounds.Next.
  Contract of rounds.Begin.
  P13.6 as a function: a job run to its end; so many rounds at most.
  Contract of rounds.Run.
  How a job's run ends, out of its rounds one by one.
  A struct of four cells in a box, stored as a whole.
  Two states in their boxes: the end of a run, which stays, and the state that goes on.
  When a list is the one that P12 asks for, whichever way it was come by: no edge has anything left to tell, and nothing was told that is not so.
  Numbers that are handed on along edges, round by round, of which each vertex keeps the least: what holds behind each round, when nothing changes any more, and what it comes to.
  A phase in which each vertex keeps the least number that it hears of: it ends behind as many rounds as there are vertices and one more, at most, and what it leaves.
  Rounds of Dist and Weak: they end in time, and tell the distances, and the least vertices that are joined.
  The phase Back of Strong: which vertices get their label, and that it ends in time.
  P12.4 in plain mathematics: the least vertex that is reached and reaches, as the document finds it.
  Rounds of Strong: pass by pass (Forward and Back), until each vertex has its label: the least that it reaches and that reaches it.
  Rounds one by one up to a run's end: what holds behind each of them.
  Rounds know of edges only whether they are there; how much mail there is, told vertex by vertex.
-/
import Derived.Test.YtbmkgnlfccigpabPicked
import Derived.Test.YtbmkgnlfccigpabRowAppend
import Derived.Test.YtbmkgnlfccigpabGraphTwo
import Derived.Test.YtbmkgnlfccigpabRegionLast
import Derived.Shelf.Abstract
import Derived.Deep.CutRange
import Derived.Test.YtbmkgnlfccigpabPathLists
import Derived.Test.YtbmkgnlfccigpabRowNew
import Derived.Test.YtbmkgnlfccigpabBoolRow
import Derived.Test.YtbmkgnlfccigpabRoundMath
import Derived.Test.YtbmkgnlfccigpabMayMath
import Derived.Test.YtbmkgnlfccigpabRowCore
import Derived.Test.YtbmkgnlfccigpabStaMem
import Derived.Test.YtbmkgnlfccigpabValRow
import Derived.Laws.CopyRow
import Derived.Lib.SlBuf
import Derived.Test.YtbmkgnlfccigpabMailTable
import Derived.Test.YtbmkgnlfccigpabRegionCall
import Derived.Test.YtbmkgnlfccigpabRndSent
import Derived.Test.YtbmkgnlfccigpabCheckFace
import Derived.Test.YtbmkgnlfccigpabProgOpen
import Derived.Test.YtbmkgnlfccigpabBoxMem
import Derived.Test.YtbmkgnlfccigpabRndMay
import Derived.Test.YtbmkgnlfccigpabRoundMay
import Derived.Deep.LoopGhost
import Derived.Test.YtbmkgnlfccigpabLowMath

namespace Go.Proofs.Ytbmkgnlfccigpab
set_option maxRecDepth 100000
open Go.ChangeShapes Go.WideShapes Go.ChangeAt Go.RowKit

/-- A graph's box behind a store of its edges. -/
theorem heap_set1 {w : World} {b : Nat} {n : Int} {u v : Value} (h : w.heap[b]? = some (.cells #[.int .i64 n, u] 25 (0, 0))) : (w.setCell ⟨b, 1, none⟩ v).heap[b]? = some (.cells #[.int .i64 n, v] 25 (0, 0)) := by
  simp only [World.setCell, Array.getElem?_modify, if_true]
  rw [h]
  rfl
/-- What made makes of one way, in a graph of N vertices. -/
def wayE (N : Int) (x : Ed) : Ed := (pickF x.1 N, pickF x.2.1 N, pickF x.2.2 10)
def madeL (N : Int) (ws : List Ed) : List Ed := (ws.take 10).map (wayE N)

set_option maxHeartbeats 4000000 in
set_option maxRecDepth 100000 in
theorem made_any (n most : Int) (v : Value) (ws : List Ed) (w : World) (h : EdR w v ws) (hB : ∀ x ∈ ws, edB x) (hn : i64B n) (hm0 : 0 < most) (hm1 : most ≤ 199) :
    Calls Try.prog 13 #[.int .i64 n, v, .int .i64 most] w fun e w' => ∃ v', e = .returned (.agg #[.int .i64 (1 + pickF n most), v']) ∧
      w'.ownsRow w.heap.size 50 3 v' (madeL (1 + pickF n most) ws).length ((madeL (1 + pickF n most) ws).flatMap encE) ∧ Below w.heap.size w w' := by
  have HR : Hid (EdR w v ws) := h
  obtain ⟨a, cap, rfl, hcc, hcm, _, _⟩ := h
  unfold maxLen at hcm
  have HP : Hid (∀ X, Calls Try.prog 6 #[.int .i64 n, .int .i64 most] X fun e w' => e = .returned (.int .i64 (pickF n most)) ∧ w' = X) := fun X => picked_any n most X hn.1 hn.2 hm0 (by omega)
  have hpb := pickF_bd n most hm0
  have hw1 : IntKind.i64.wrap (1 + pickF n most) = 1 + pickF n most := wrap_id64 (by omega) (by omega)
  have hN0 : 0 < 1 + pickF n most := by omega
  have hN1 : 1 + pickF n most ≤ 200 := by omega
  have HPB : Hid (∀ x ∈ ws, edB x) := hB
  clear hB hpb
  generalize pickF n most = p at *
  go_enter Try.func13, Try.ntmps13
  go_wp2_with fail
  refine (HP.out _).mono ?_
  rintro e w1 ⟨rfl, rfl⟩
  clear HP
  go_wp2_with fail
  go_loopw [8] (fun i wr => ∃ (k : Nat) (u : Value), k ≤ ws.length ∧ k ≤ 10 ∧ i = .int .i64 k ∧ wr.ownsRow (w.heap.size + 2) 50 3 u ((ws.take k).map (wayE (1 + p))).length (((ws.take k).map (wayE (1 + p))).flatMap encE) ∧ wr.heap[w.heap.size + 1]? = some (.cells #[.int .i64 (1 + p), u] 25 (0, 0)) ∧ Below (w.heap.size + 1) (w.alloc (.cells #[.int .i64 0, .slice none 0 0] 25)) wr) (fun i _ => ws.length - (intOf i).toNat)
  case atStart => exact ⟨0, _, by omega, by omega, rfl, World.ownsRow_nil _ _ _ _, heap_second _ _ _ _, (Below.refl _ _).alloc (by simp) _⟩
  case round =>
    obtain ⟨k, u, hk, hk10, rfl, hown, hbox, hbel⟩ := hrel
    have OW : Hid (wr.ownsRow (w.heap.size + 2) 50 3 u ((ws.take k).map (wayE (1 + p))).length (((ws.take k).map (wayE (1 + p))).flatMap encE)) := hown
    have HB : Hid (Below (w.heap.size + 1) (w.alloc (.cells #[.int .i64 0, .slice none 0 0] 25)) wr) := hbel
    have HX : Hid (wr.heap[w.heap.size + 1]? = some (.cells #[.int .i64 (1 + p), u] 25 (0, 0))) := hbox
    have x0 : wr.cell? ⟨w.heap.size + 1, 0, none⟩ = some (.int .i64 (1 + p)) := by rw [cell_of_row _ _ _ _ _ _ hbox]; rfl
    have x1 : wr.cell? ⟨w.heap.size + 1, 1, none⟩ = some u := by rw [cell_of_row _ _ _ _ _ _ hbox]; rfl
    have x2 : wr.frozen? ⟨w.heap.size + 1, 1, none⟩ = false := by simp only [World.frozen?, hbox]; simp
    have hsr : w.heap.size + 2 ≤ wr.heap.size := (Array.getElem?_eq_some_iff.1 hbox).1
    obtain ⟨ua, un, uc, rfl⟩ : ∃ a n c, u = .slice a n c := by obtain ⟨a, c, e, _⟩ := RowK.own encE_len hown; exact ⟨_, _, _, e⟩
    clear hown hbel hbox
    by_cases hlt : k < ws.length
    · by_cases hlt2 : k < 10
      · obtain ⟨b, off, cap', e1, _, _, lt, hv⟩ := EdR.at (HR.out.below (box_below HB.out) (Nat.le_refl _)) (by omega)
        have ltw : b < w.heap.size := by
          obtain ⟨b', off', cap'', e2, _, _, lt', _⟩ := EdR.at HR.out (by omega)
          rw [e1] at e2
          injection e2 with e2 _ _
          injection e2 with e2
          injection e2 with e2
          omega
        injection e1 with e1 _ e3
        subst e1 e3
        obtain ⟨x, hx⟩ := getE hlt
        obtain ⟨c1, c2, c3⟩ := hv k x hx
        have hxb := HPB.out x (List.mem_of_getElem? hx)
        have HT : Hid ((ws.take (k + 1)).map (wayE (1 + p)) = (ws.take k).map (wayE (1 + p)) ++ [wayE (1 + p) x]) := by show _ = _; rw [take_snoc hx, List.map_append]; rfl
        have hlk : ((ws.take k).map (wayE (1 + p))).length = k := by simp; omega
        obtain ⟨⟨b0, b1⟩, ⟨b2, b3⟩, ⟨b4, b5⟩⟩ := hxb
        have p0 : (0 : Int) ≤ (k : Int) := by omega
        have p1 : (k : Int) < (ws.length : Int) := by omega
        clear hv hx
        generalize (ws.take k).map (wayE (1 + p)) = f at *
        go_upto_region 5 with fail
        have hsz : (wr.alloc (.cells #[.int .i64 (pickF x.1 (1 + p)), .int .i64 (pickF x.2.1 (1 + p)), .int .i64 (pickF x.2.2 10)] 50)).drew.heap.size = wr.heap.size + 1 := by simp
        obtain ⟨g, gc, w2, hrun, hown2, hgr⟩ := run_append_newK kE (w := (wr.alloc (.cells #[.int .i64 (pickF x.1 (1 + p)), .int .i64 (pickF x.2.1 (1 + p)), .int .i64 (pickF x.2.2 10)] 50)).drew) 23 (w.heap.size + 2) (.slice ua un uc) f ((OW.out.alloc _).drew) wr.heap.size (wayE (1 + p) x) #[.int .i64 (pickF x.1 (1 + p)), .int .i64 (pickF x.2.1 (1 + p)), .int .i64 (pickF x.2.2 10)] rfl (0, 0) (heap_alloc_new wr _) (by simp only [kE]; omega) (by unfold maxLen; omega) (by rw [hsz]; omega)
        unfold kE at hrun
        simp only at hrun
        have hbb : Below (w.heap.size + 2) wr w2 := (((Below.refl _ _).alloc hsr _).drew).grown hgr (by rw [hsz]; omega) (fun j hj => (OW.out.lt j hj).1)
        have y0 : w2.cell? ⟨w.heap.size + 1, 1, none⟩ = some (.slice ua un uc) := (hbb.cell (p := ⟨w.heap.size + 1, 1, none⟩) (Nat.lt_succ_self _)).trans x1
        have y1 : w2.frozen? ⟨w.heap.size + 1, 1, none⟩ = false := (hbb.frozen (p := ⟨w.heap.size + 1, 1, none⟩) (Nat.lt_succ_self _)).trans x2
        have O2 : Hid (w2.ownsRow (w.heap.size + 2) 50 3 (.slice (some ⟨g, 0, none⟩) (f.length + 1) gc) ((ws.take (k + 1)).map (wayE (1 + p))).length (((ws.take (k + 1)).map (wayE (1 + p))).flatMap encE)) := by
          show World.ownsRow _ _ _ _ _ _ _
          rw [HT.out]; exact hown2
        have B2 : Hid (Below (w.heap.size + 2) wr w2) := hbb
        clear hown2 hgr hsz hbb
        have O2' : Hid (w2.ownsRow (w.heap.size + 2) 50 3 (.slice (some ⟨g, 0, none⟩) (k + 1) gc) ((ws.take (k + 1)).map (wayE (1 + p))).length (((ws.take (k + 1)).map (wayE (1 + p))).flatMap encE)) := by have := O2.out; rwa [hlk] at this
        have HX2 : Hid (w2.heap[w.heap.size + 1]? = some (.cells #[.int .i64 (1 + p), .slice ua un uc] 25 (0, 0))) := (B2.out.block _ (Nat.lt_succ_self _)).trans HX.out
        have KEEP : Hid (∀ V : World, (∀ q, q < wr.heap.size → q < w.heap.size + 2 → V.heap[q]? = wr.heap[q]?) → V.cell? ⟨w.heap.size + 1, 1, none⟩ = some (.slice ua un uc) ∧ V.cell? ⟨w.heap.size + 1, 0, none⟩ = some (.int .i64 (1 + p)) ∧ V.cell? ⟨b, off + k * 3, none⟩ = some (.int .i64 x.1) ∧ V.cell? ⟨b, off + k * 3 + 1, none⟩ = some (.int .i64 x.2.1) ∧ V.cell? ⟨b, off + k * 3 + 2, none⟩ = some (.int .i64 x.2.2)) := fun V hV => by
          have cc : ∀ (q j : Nat) (u : Value), q < w.heap.size + 2 → wr.cell? ⟨q, j, none⟩ = some u → V.cell? ⟨q, j, none⟩ = some u := fun q j u hq hu => (World.cell?_of_block (a := ⟨q, j, none⟩) (hV q (World.block_lt_of_cell? wr _ hu) hq)).trans hu
          exact ⟨cc _ _ _ (by omega) x1, cc _ _ _ (by omega) x0, cc _ _ _ (by omega) c1, cc _ _ _ (by omega) c2, cc _ _ _ (by omega) c3⟩
        have HSD : Hid (wr.drew.cell? ⟨w.heap.size + 1, 1, none⟩ = some (.slice ua un uc) ∧ wr.drew.cell? ⟨w.heap.size + 1, 0, none⟩ = some (.int .i64 (1 + p)) ∧ wr.drew.cell? ⟨b, off + k * 3, none⟩ = some (.int .i64 x.1) ∧ wr.drew.cell? ⟨b, off + k * 3 + 1, none⟩ = some (.int .i64 x.2.1) ∧ wr.drew.cell? ⟨b, off + k * 3 + 2, none⟩ = some (.int .i64 x.2.2)) := KEEP.out _ (fun _ _ _ => rfl)
        have HSE : Hid ((wr.alloc (.cells #[.int .i64 (pickF x.1 (1 + p)), .int .i64 (pickF x.2.1 (1 + p)), .int .i64 (pickF x.2.2 10)] 50)).drew.cell? ⟨w.heap.size + 1, 1, none⟩ = some (.slice ua un uc) ∧ (wr.alloc (.cells #[.int .i64 (pickF x.1 (1 + p)), .int .i64 (pickF x.2.1 (1 + p)), .int .i64 (pickF x.2.2 10)] 50)).drew.cell? ⟨w.heap.size + 1, 0, none⟩ = some (.int .i64 (1 + p)) ∧ (wr.alloc (.cells #[.int .i64 (pickF x.1 (1 + p)), .int .i64 (pickF x.2.1 (1 + p)), .int .i64 (pickF x.2.2 10)] 50)).drew.cell? ⟨b, off + k * 3, none⟩ = some (.int .i64 x.1) ∧ (wr.alloc (.cells #[.int .i64 (pickF x.1 (1 + p)), .int .i64 (pickF x.2.1 (1 + p)), .int .i64 (pickF x.2.2 10)] 50)).drew.cell? ⟨b, off + k * 3 + 1, none⟩ = some (.int .i64 x.2.1) ∧ (wr.alloc (.cells #[.int .i64 (pickF x.1 (1 + p)), .int .i64 (pickF x.2.1 (1 + p)), .int .i64 (pickF x.2.2 10)] 50)).drew.cell? ⟨b, off + k * 3 + 2, none⟩ = some (.int .i64 x.2.2)) := KEEP.out _ (fun q hq _ => (below_alloc wr _).block q hq)
        have HSF : Hid (w2.cell? ⟨w.heap.size + 1, 1, none⟩ = some (.slice ua un uc) ∧ w2.cell? ⟨w.heap.size + 1, 0, none⟩ = some (.int .i64 (1 + p)) ∧ w2.cell? ⟨b, off + k * 3, none⟩ = some (.int .i64 x.1) ∧ w2.cell? ⟨b, off + k * 3 + 1, none⟩ = some (.int .i64 x.2.1) ∧ w2.cell? ⟨b, off + k * 3 + 2, none⟩ = some (.int .i64 x.2.2)) := KEEP.out _ (fun q _ hq => B2.out.block q hq)
        have epk : ∀ args w, (callFunc 6 args).run Try.prog w = .ok (.enter 6 args) w := enters_of Try.func6 (by kernel_rfl) rfl
        refine region_lastF (S := fun V => V.cell? ⟨w.heap.size + 1, 1, none⟩ = some (.slice ua un uc) ∧ V.cell? ⟨w.heap.size + 1, 0, none⟩ = some (.int .i64 (1 + p)) ∧ V.cell? ⟨b, off + k * 3, none⟩ = some (.int .i64 x.1) ∧ V.cell? ⟨b, off + k * 3 + 1, none⟩ = some (.int .i64 x.2.1) ∧ V.cell? ⟨b, off + k * 3 + 2, none⟩ = some (.int .i64 x.2.2)) (by kernel_rfl) (by kernel_rfl) (by kernel_rfl) (by kernel_rfl) ?_
        simp only [List.pop_toArray, List.dropLast_cons_cons, List.dropLast_singleton, List.size_toArray, List.length_cons, List.length_nil, Nat.reduceAdd]
        refine takeH (i := 0) (v := .pointer (some ⟨w.heap.size + 1, 1, none⟩)) (d := 24) rfl rfl (by kernel_rfl) (by kernel_rfl) (by kernel_rfl) (fun _ _ _ h => h) (by rfl) (fun V hV => by obtain ⟨v1, v2, v3, v4, v5⟩ := hV; go_simp) HSD.out ?_
        simp only [Act.put, List.setIfInBounds_toArray, List.set_cons_zero, List.set_cons_succ]
        refine takeH (i := 1) (v := .slice ua un uc) (d := 25) rfl rfl (by kernel_rfl) (by kernel_rfl) (by kernel_rfl) (fun _ _ _ h => h) (by rfl) (fun V hV => by obtain ⟨v1, v2, v3, v4, v5⟩ := hV; go_simp) HSD.out ?_
        simp only [Act.put, List.setIfInBounds_toArray, List.set_cons_zero, List.set_cons_succ]
        refine takeH (i := 2) (v := .slice (some ⟨b, off, none⟩) ws.length cap) (d := 26) rfl rfl (by kernel_rfl) (by kernel_rfl) (by kernel_rfl) (fun _ _ _ h => h) (by rfl) (fun V hV => by obtain ⟨v1, v2, v3, v4, v5⟩ := hV; go_simp) HSD.out ?_
        simp only [Act.put, List.setIfInBounds_toArray, List.set_cons_zero, List.set_cons_succ]
        refine takeH (i := 3) (v := .int .i64 (k : Int)) (d := 27) rfl rfl (by kernel_rfl) (by kernel_rfl) (by kernel_rfl) (fun _ _ _ h => h) (by rfl) (fun V hV => by obtain ⟨v1, v2, v3, v4, v5⟩ := hV; go_simp) HSD.out ?_
        simp only [Act.put, List.setIfInBounds_toArray, List.set_cons_zero, List.set_cons_succ]
        refine takeH (i := 4) (v := .pointer (some ⟨b, off + k * 3, none⟩)) (d := 28) rfl rfl (by kernel_rfl) (by kernel_rfl) (by kernel_rfl) (fun _ _ _ h => h) (by rfl) (fun V hV => by obtain ⟨v1, v2, v3, v4, v5⟩ := hV; go_simp) HSD.out ?_
        simp only [Act.put, List.setIfInBounds_toArray, List.set_cons_zero, List.set_cons_succ]
        refine takeH (i := 5) (v := .pointer (some ⟨b, off + k * 3, none⟩)) (d := 29) rfl rfl (by kernel_rfl) (by kernel_rfl) (by kernel_rfl) (fun _ _ _ h => h) (by rfl) (fun V hV => by obtain ⟨v1, v2, v3, v4, v5⟩ := hV; go_simp) HSD.out ?_
        simp only [Act.put, List.setIfInBounds_toArray, List.set_cons_zero, List.set_cons_succ]
        refine takeH (i := 6) (v := .int .i64 x.1) (d := 30) rfl rfl (by kernel_rfl) (by kernel_rfl) (by kernel_rfl) (fun _ _ _ h => h) (by rfl) (fun V hV => by obtain ⟨v1, v2, v3, v4, v5⟩ := hV; go_simp) HSD.out ?_
        simp only [Act.put, List.setIfInBounds_toArray, List.set_cons_zero, List.set_cons_succ]
        refine takeH (i := 7) (v := .pointer (some ⟨w.heap.size + 1, 0, none⟩)) (d := 31) rfl rfl (by kernel_rfl) (by kernel_rfl) (by kernel_rfl) (fun _ _ _ h => h) (by rfl) (fun V hV => by obtain ⟨v1, v2, v3, v4, v5⟩ := hV; go_simp) HSD.out ?_
        simp only [Act.put, List.setIfInBounds_toArray, List.set_cons_zero, List.set_cons_succ]
        refine takeH (i := 8) (v := .int .i64 (1 + p)) (d := 32) rfl rfl (by kernel_rfl) (by kernel_rfl) (by kernel_rfl) (fun _ _ _ h => h) (by rfl) (fun V hV => by obtain ⟨v1, v2, v3, v4, v5⟩ := hV; go_simp) HSD.out ?_
        simp only [Act.put, List.setIfInBounds_toArray, List.set_cons_zero, List.set_cons_succ]
        refine takeH (i := 10) (v := .slice (some ⟨b, off, none⟩) ws.length cap) (d := 34) rfl rfl (by kernel_rfl) (by kernel_rfl) (by kernel_rfl) (fun _ _ _ h => h) (by rfl) (fun V hV => by obtain ⟨v1, v2, v3, v4, v5⟩ := hV; go_simp) HSD.out ?_
        simp only [Act.put, List.setIfInBounds_toArray, List.set_cons_zero, List.set_cons_succ]
        refine takeH (i := 11) (v := .int .i64 (k : Int)) (d := 35) rfl rfl (by kernel_rfl) (by kernel_rfl) (by kernel_rfl) (fun _ _ _ h => h) (by rfl) (fun V hV => by obtain ⟨v1, v2, v3, v4, v5⟩ := hV; go_simp) HSD.out ?_
        simp only [Act.put, List.setIfInBounds_toArray, List.set_cons_zero, List.set_cons_succ]
        refine takeH (i := 12) (v := .pointer (some ⟨b, off + k * 3, none⟩)) (d := 36) rfl rfl (by kernel_rfl) (by kernel_rfl) (by kernel_rfl) (fun _ _ _ h => h) (by rfl) (fun V hV => by obtain ⟨v1, v2, v3, v4, v5⟩ := hV; go_simp) HSD.out ?_
        simp only [Act.put, List.setIfInBounds_toArray, List.set_cons_zero, List.set_cons_succ]
        refine takeH (i := 13) (v := .pointer (some ⟨b, off + k * 3 + 1, none⟩)) (d := 37) rfl rfl (by kernel_rfl) (by kernel_rfl) (by kernel_rfl) (fun _ _ _ h => h) (by rfl) (fun V hV => by obtain ⟨v1, v2, v3, v4, v5⟩ := hV; go_simp) HSD.out ?_
        simp only [Act.put, List.setIfInBounds_toArray, List.set_cons_zero, List.set_cons_succ]
        refine takeH (i := 14) (v := .int .i64 x.2.1) (d := 38) rfl rfl (by kernel_rfl) (by kernel_rfl) (by kernel_rfl) (fun _ _ _ h => h) (by rfl) (fun V hV => by obtain ⟨v1, v2, v3, v4, v5⟩ := hV; go_simp) HSD.out ?_
        simp only [Act.put, List.setIfInBounds_toArray, List.set_cons_zero, List.set_cons_succ]
        refine takeH (i := 15) (v := .pointer (some ⟨w.heap.size + 1, 0, none⟩)) (d := 39) rfl rfl (by kernel_rfl) (by kernel_rfl) (by kernel_rfl) (fun _ _ _ h => h) (by rfl) (fun V hV => by obtain ⟨v1, v2, v3, v4, v5⟩ := hV; go_simp) HSD.out ?_
        simp only [Act.put, List.setIfInBounds_toArray, List.set_cons_zero, List.set_cons_succ]
        refine takeH (i := 16) (v := .int .i64 (1 + p)) (d := 40) rfl rfl (by kernel_rfl) (by kernel_rfl) (by kernel_rfl) (fun _ _ _ h => h) (by rfl) (fun V hV => by obtain ⟨v1, v2, v3, v4, v5⟩ := hV; go_simp) HSD.out ?_
        simp only [Act.put, List.setIfInBounds_toArray, List.set_cons_zero, List.set_cons_succ]
        refine takeH (i := 18) (v := .slice (some ⟨b, off, none⟩) ws.length cap) (d := 42) rfl rfl (by kernel_rfl) (by kernel_rfl) (by kernel_rfl) (fun _ _ _ h => h) (by rfl) (fun V hV => by obtain ⟨v1, v2, v3, v4, v5⟩ := hV; go_simp) HSD.out ?_
        simp only [Act.put, List.setIfInBounds_toArray, List.set_cons_zero, List.set_cons_succ]
        refine takeH (i := 19) (v := .int .i64 (k : Int)) (d := 43) rfl rfl (by kernel_rfl) (by kernel_rfl) (by kernel_rfl) (fun _ _ _ h => h) (by rfl) (fun V hV => by obtain ⟨v1, v2, v3, v4, v5⟩ := hV; go_simp) HSD.out ?_
        simp only [Act.put, List.setIfInBounds_toArray, List.set_cons_zero, List.set_cons_succ]
        refine takeH (i := 20) (v := .pointer (some ⟨b, off + k * 3, none⟩)) (d := 44) rfl rfl (by kernel_rfl) (by kernel_rfl) (by kernel_rfl) (fun _ _ _ h => h) (by rfl) (fun V hV => by obtain ⟨v1, v2, v3, v4, v5⟩ := hV; go_simp) HSD.out ?_
        simp only [Act.put, List.setIfInBounds_toArray, List.set_cons_zero, List.set_cons_succ]
        refine takeH (i := 21) (v := .pointer (some ⟨b, off + k * 3 + 2, none⟩)) (d := 45) rfl rfl (by kernel_rfl) (by kernel_rfl) (by kernel_rfl) (fun _ _ _ h => h) (by rfl) (fun V hV => by obtain ⟨v1, v2, v3, v4, v5⟩ := hV; go_simp) HSD.out ?_
        simp only [Act.put, List.setIfInBounds_toArray, List.set_cons_zero, List.set_cons_succ]
        refine takeH (i := 22) (v := .int .i64 x.2.2) (d := 46) rfl rfl (by kernel_rfl) (by kernel_rfl) (by kernel_rfl) (fun _ _ _ h => h) (by rfl) (fun V hV => by obtain ⟨v1, v2, v3, v4, v5⟩ := hV; go_simp) HSD.out ?_
        simp only [Act.put, List.setIfInBounds_toArray, List.set_cons_zero, List.set_cons_succ]
        refine oneH (i := 9) rfl (by kernel_rfl) rfl (call_same (d := 33) (f := 6) (xs := #[.tmp 30, .tmp 32]) (ats := #[3, 3]) rfl rfl epk (vs := #[.int .i64 x.1, .int .i64 (1 + p)]) (by simp [Act.eval]) (picked_any _ _ _ (by omega) (by omega) (by omega) (by omega)) ⟨HSD.out, ?_⟩)
        simp only [Act.put, List.setIfInBounds_toArray, List.set_cons_zero, List.set_cons_succ]
        refine oneH (i := 17) rfl (by kernel_rfl) rfl (call_same (d := 41) (f := 6) (xs := #[.tmp 38, .tmp 40]) (ats := #[3, 3]) rfl rfl epk (vs := #[.int .i64 x.2.1, .int .i64 (1 + p)]) (by simp [Act.eval]) (picked_any _ _ _ (by omega) (by omega) (by omega) (by omega)) ⟨HSD.out, ?_⟩)
        simp only [Act.put, List.setIfInBounds_toArray, List.set_cons_zero, List.set_cons_succ]
        refine oneH (i := 23) rfl (by kernel_rfl) rfl (call_same (d := 47) (f := 6) (xs := #[.tmp 46, .const (.int .i64 10)]) (ats := #[3, 3]) rfl rfl epk (vs := #[.int .i64 x.2.2, .int .i64 10]) (by simp [Act.eval]) (picked_any _ _ _ (by omega) (by omega) (by omega) (by omega)) ⟨HSD.out, ?_⟩)
        simp only [Act.put, List.setIfInBounds_toArray, List.set_cons_zero, List.set_cons_succ]
        refine takeH (i := 24) (v := .agg #[.int .i64 (pickF x.1 (1 + p)), .int .i64 (pickF x.2.1 (1 + p)), .int .i64 (pickF x.2.2 10)]) (d := 48) rfl rfl (by kernel_rfl) (by kernel_rfl) (by kernel_rfl) (fun _ _ _ h => h) (by rfl) (fun V hV => by go_simp) HSD.out ?_
        simp only [Act.put, List.setIfInBounds_toArray, List.set_cons_zero, List.set_cons_succ]
        refine oneH (i := 25) rfl (by kernel_rfl) rfl (op_run (d := 49) (v' := .slice (some ⟨wr.heap.size, 0, none⟩) 1 1) (w' := (wr.alloc (.cells #[.int .i64 (pickF x.1 (1 + p)), .int .i64 (pickF x.2.1 (1 + p)), .int .i64 (pickF x.2.2 10)] 50)).drew) rfl (by go_simp) ⟨HSE.out, ?_⟩)
        simp only [Act.put, List.setIfInBounds_toArray, List.set_cons_zero, List.set_cons_succ]
        refine oneH (i := 26) rfl (by kernel_rfl) rfl (call_append (d := 50) (s := .tmp 25) (x := .tmp 49) (t := 23) rfl rfl (v := .slice ua un uc) (v2 := .slice (some ⟨wr.heap.size, 0, none⟩) 1 1) (by simp [Act.eval]) (by simp [Act.eval]) hrun ⟨HSF.out, ?_⟩)
        simp only [Act.put, List.setIfInBounds_toArray, List.set_cons_zero, List.set_cons_succ]
        refine takeH (i := 27) (v := .pointer (some ⟨w.heap.size + 1, 1, none⟩)) (d := 51) rfl rfl (by kernel_rfl) (by kernel_rfl) (by kernel_rfl) (fun _ _ _ h => h) (by rfl) (fun V hV => by go_simp) HSF.out ?_
        simp only [Act.put, List.setIfInBounds_toArray, List.set_cons_zero, List.set_cons_succ]
        refine wpAnyH_done (by kernel_rfl) ?_ _
        clear HSD HSE HSF
        show Oper.wp _ _ _ _ _ _
        go_wp2_with fail
        go_roundw
        case rel => exact ⟨k + 1, .slice (some ⟨g, 0, none⟩) (k + 1) gc, by omega, by omega, by go_num, RowK.setBelow O2'.out (show w.heap.size + 1 < w.heap.size + 2 by omega) _, heap_set1 HX2.out, (HB.out.trans (B2.out.mono (by omega))).setCell (Nat.le_refl _) _⟩
        case measure => simp [intOf]; omega
      · -- ten ways are had
        have O3 : Hid (wr.ownsRow (w.heap.size + 2) 50 3 (.slice ua un uc) (madeL (1 + p) ws).length ((madeL (1 + p) ws).flatMap encE)) := by
          have e : (ws.take k).map (wayE (1 + p)) = madeL (1 + p) ws := by
            unfold madeL
            congr 1
            rw [show k = 10 by omega]
          rw [← e]; exact OW.out
        obtain ⟨q0, q1⟩ := gbox_cells HB.out
        have q2 : wr.frozen? ⟨w.heap.size, 0, none⟩ = false := (HB.out.frozen (p := ⟨w.heap.size, 0, none⟩) (Nat.lt_succ_self _)).trans (by simp only [World.frozen?, heap_alloc_new]; simp)
        have q3 : wr.frozen? ⟨w.heap.size, 1, none⟩ = false := (HB.out.frozen (p := ⟨w.heap.size, 1, none⟩) (Nat.lt_succ_self _)).trans (by simp only [World.frozen?, heap_alloc_new]; simp)
        clear OW
        go_wp2_with fail
        obtain ⟨r0, r1⟩ := gput_cells (n := 1 + p) (v := .slice ua un uc) q0 q1
        refine bodyPost_ret (v := .agg #[.int .i64 (1 + p), .slice ua un uc]) (by simp [results, Try.results13, go_sem, r0, r1]) rfl ⟨_, rfl, ?_, ?_⟩
        · exact own_lower (RowK.setBelow (RowK.setBelow O3.out (show w.heap.size < w.heap.size + 2 by omega) _) (show w.heap.size < w.heap.size + 2 by omega) _) (by omega)
        · exact ((box_below HB.out).setCell (Nat.le_refl _) _).setCell (Nat.le_refl _) _
    · have O3 : Hid (wr.ownsRow (w.heap.size + 2) 50 3 (.slice ua un uc) (madeL (1 + p) ws).length ((madeL (1 + p) ws).flatMap encE)) := by
        have e : (ws.take k).map (wayE (1 + p)) = madeL (1 + p) ws := by
          unfold madeL
          congr 1
          rw [List.take_of_length_le (by omega), List.take_of_length_le (by omega)]
        rw [← e]; exact OW.out
      obtain ⟨q0, q1⟩ := gbox_cells HB.out
      have q2 : wr.frozen? ⟨w.heap.size, 0, none⟩ = false := (HB.out.frozen (p := ⟨w.heap.size, 0, none⟩) (Nat.lt_succ_self _)).trans (by simp only [World.frozen?, heap_alloc_new]; simp)
      have q3 : wr.frozen? ⟨w.heap.size, 1, none⟩ = false := (HB.out.frozen (p := ⟨w.heap.size, 1, none⟩) (Nat.lt_succ_self _)).trans (by simp only [World.frozen?, heap_alloc_new]; simp)
      clear OW
      go_wp2_with fail
      obtain ⟨r0, r1⟩ := gput_cells (n := 1 + p) (v := .slice ua un uc) q0 q1
      refine bodyPost_ret (v := .agg #[.int .i64 (1 + p), .slice ua un uc]) (by simp [results, Try.results13, go_sem, r0, r1]) rfl ⟨_, rfl, ?_, ?_⟩
      · exact own_lower (RowK.setBelow (RowK.setBelow O3.out (show w.heap.size < w.heap.size + 2 by omega) _) (show w.heap.size < w.heap.size + 2 by omega) _) (by omega)
      · exact ((box_below HB.out).setCell (Nat.le_refl _) _).setCell (Nat.le_refl _) _
end Go.Proofs.Ytbmkgnlfccigpab

namespace Go.Proofs.Ytbmkgnlfccigpab
set_option maxRecDepth 100000
open Go.ChangeShapes Go.WideShapes Go.ChangeAt Go.RowKit

theorem made_len (N : Int) (ws : List Ed) : (madeL N ws).length ≤ 10 := by simp [madeL]; omega
theorem made_wgt {N : Int} {ws : List Ed} : ∀ e ∈ madeL N ws, e.2.2 ≤ 9 := fun e he => by
  unfold madeL at he
  obtain ⟨x, _, rfl⟩ := List.mem_map.1 he
  have := (pickF_bd x.2.2 10 (by omega)).2
  show pickF x.2.2 10 ≤ 9
  omega
theorem made_right {N : Int} {ws : List Ed} (h0 : 0 < N) (h1 : N ≤ 200) : faultE N (madeL N ws) = 0 := by
  refine ok_fault (by omega) h1 (by have := made_len N ws; omega) fun e he => ?_
  unfold madeL at he
  obtain ⟨x, _, rfl⟩ := List.mem_map.1 he
  have a := pickF_bd x.1 N h0
  have b := pickF_bd x.2.1 N h0
  have c := pickF_bd x.2.2 10 (by omega)
  refine out_of_in a b ?_
  show 0 ≤ pickF x.2.2 10 ∧ pickF x.2.2 10 ≤ 1099511627776
  omega
end Go.Proofs.Ytbmkgnlfccigpab

namespace Go.Proofs.Ytbmkgnlfccigpab
set_option maxRecDepth 100000
open Go.ChangeShapes Go.WideShapes Go.ChangeAt Go.RowKit

/-- P12.1, P12.3: the error. -/
def errV (n : Int) (es : List Ed) (s : Int) : Int := if faultE n es = 0 then (if 0 ≤ s ∧ s < n then 0 else 2) else faultE n es
theorem errV_bad {n s : Int} {es : List Ed} (h : faultE n es ≠ 0) : errV n es s = faultE n es := by rw [errV, if_neg h]
theorem errV_out {n s : Int} {es : List Ed} (h : faultE n es = 0) (hs : ¬ (0 ≤ s ∧ s < n)) : errV n es s = 2 := by rw [errV, if_pos h, if_neg hs]
theorem errV_ok {n s : Int} {es : List Ed} (h : faultE n es = 0) (hs : 0 ≤ s ∧ s < n) : errV n es s = 0 := by rw [errV, if_pos h, if_pos hs]
theorem in_fault {m : Nat} {es : List Ed} (h : faultE (m : Int) es = 0) : InG m es := fun e he => by
  have := in_of_out ((fault_ok h).2.2.2 e he)
  exact ⟨this.1, this.2.1, this.2.2.1, this.2.2.2.1, this.2.2.2.2.1⟩
/-- A list of numbers and an error. -/
def NmsP (w : World) (f : Int) (l : List Int) (e : Ending) (w' : World) : Prop :=
  ∃ v', e = .returned (.tuple #[v', .int .i64 f]) ∧ w'.ownsRow w.heap.size 3 1 v' (okL f l).length ((okL f l).flatMap encI) ∧ Below w.heap.size w w'
theorem NmsP.no {w w' : World} {f : Int} {l : List Int} (hf : f ≠ 0) (hb : Below w.heap.size w w') : NmsP w f l (.returned (.tuple #[.slice none 0 0, .int .i64 f])) w' :=
  ⟨_, rfl, by rw [okL_no hf]; exact World.ownsRow_nil _ _ _ _, hb⟩
theorem NmsP.yes {w w' : World} {l : List Int} {v : Value} (h : w'.ownsRow w.heap.size 3 1 v l.length (l.flatMap encI)) (hb : Below w.heap.size w w') : NmsP w 0 l (.returned (.tuple #[v, .int .i64 0])) w' := ⟨_, rfl, h, hb⟩
/-- A list of bools and an error. -/
def BolP (w : World) (f : Int) (l : List Bool) (e : Ending) (w' : World) : Prop :=
  ∃ v', e = .returned (.tuple #[v', .int .i64 f]) ∧ w'.ownsRow w.heap.size 4 1 v' (okL f l).length ((okL f l).flatMap encT) ∧ Below w.heap.size w w'
theorem BolP.no {w w' : World} {f : Int} {l : List Bool} (hf : f ≠ 0) (hb : Below w.heap.size w w') : BolP w f l (.returned (.tuple #[.slice none 0 0, .int .i64 f])) w' :=
  ⟨_, rfl, by rw [okL_no hf]; exact World.ownsRow_nil _ _ _ _, hb⟩
theorem BolP.yes {w w' : World} {l : List Bool} {v : Value} (h : w'.ownsRow w.heap.size 4 1 v l.length (l.flatMap encT)) (hb : Below w.heap.size w w') : BolP w 0 l (.returned (.tuple #[v, .int .i64 0])) w' := ⟨_, rfl, h, hb⟩
end Go.Proofs.Ytbmkgnlfccigpab

namespace Go.Proofs.Ytbmkgnlfccigpab
set_option maxRecDepth 100000

theorem jobE_bad {n k s : Int} {es : List Ed} (h : faultE n es ≠ 0) : jobE n es k s = faultE n es := by unfold jobE; rw [if_pos h]
theorem jobE_kind {n k s : Int} {es : List Ed} (h : faultE n es = 0) (hk : ¬ (1 ≤ k ∧ k ≤ 3)) : jobE n es k s = 3 := by unfold jobE; rw [if_neg (by omega), if_pos hk]
theorem jobE_src {n k s : Int} {es : List Ed} (h : faultE n es = 0) (hk : k = 1) (hs : ¬ (0 ≤ s ∧ s < n)) : jobE n es k s = 2 := by unfold jobE; rw [if_neg (by omega), if_neg (by omega), if_pos ⟨hk, hs⟩]
theorem jobE_ok {n k s : Int} {es : List Ed} (h : faultE n es = 0) (hk : 1 ≤ k ∧ k ≤ 3) (hs : k = 1 → 0 ≤ s ∧ s < n) : jobE n es k s = 0 := by unfold jobE; rw [if_neg (by omega), if_neg (by omega), if_neg (fun g => g.2 (hs g.1))]
theorem jobE_zero {n k s : Int} {es : List Ed} (h : jobE n es k s = 0) : faultE n es = 0 ∧ (1 ≤ k ∧ k ≤ 3) ∧ (k = 1 → 0 ≤ s ∧ s < n) := by
  by_cases h1 : faultE n es = 0
  · by_cases h2 : 1 ≤ k ∧ k ≤ 3
    · refine ⟨h1, h2, fun hk => ?_⟩
      apply Classical.byContradiction
      intro hs
      rw [jobE_src h1 hk hs] at h
      cases h
    · rw [jobE_kind h1 h2] at h; cases h
  · rw [jobE_bad h1] at h; exact absurd h h1
end Go.Proofs.Ytbmkgnlfccigpab

namespace Go.Proofs.Ytbmkgnlfccigpab
set_option maxRecDepth 100000
open Go.ChangeShapes Go.WideShapes Go.ChangeAt Go.RowKit

/-- P13.2: what is answered. -/
def begE (n : Int) (es : List Ed) (k s : Int) : Int × StS := if jobE n es k s = 0 then (0, beginS n.toNat) else (jobE n es k s, st0)

/-- What a value tells of its vertex. -/
def tellV (k : Int) (x : Ml) : Int := if k = 3 then x.2 else x.1
/-- P13.7. -/
def ansE (n : Int) (es : List Ed) (k s : Int) (T : StS) : Int × List Int :=
  if jobE n es k s ≠ 0 then (jobE n es k s, []) else if mayR n.toNat k T = false then (9, []) else if T.done = false then (12, []) else (0, T.vals.map (tellV k))
/-- Numbers that are answered, and an error. -/
def NumP (w : World) (r : Int × List Int) (e : Ending) (w' : World) : Prop :=
  ∃ v', e = .returned (.tuple #[v', .int .i64 r.1]) ∧ w'.ownsRow w.heap.size 3 1 v' r.2.length (r.2.flatMap encI) ∧ Below w.heap.size w w'
theorem NumP.no {w w' : World} {f : Int} (hb : Below w.heap.size w w') : NumP w (f, []) (.returned (.tuple #[.slice none 0 0, .int .i64 f])) w' := ⟨_, rfl, World.ownsRow_nil _ _ _ _, hb⟩

/-- P13.4. -/
def folE (n : Int) (es : List Ed) (k s : Int) (T : StS) : Int × StS := if jobE n es k s ≠ 0 then (jobE n es k s, st0) else nextE n.toNat es k s T
theorem folE_bad {n k s : Int} {es : List Ed} {T : StS} (h : jobE n es k s ≠ 0) : folE n es k s T = (jobE n es k s, st0) := if_pos h
theorem folE_no {n k s : Int} {es : List Ed} {T : StS} (h : jobE n es k s = 0) (h2 : mayR n.toNat k T = false) : folE n es k s T = (9, st0) := by
  unfold folE nextE; rw [if_neg (by simp [h]), if_neg (by simp [h2])]
theorem folE_done {n k s : Int} {es : List Ed} {T : StS} (h : jobE n es k s = 0) (h2 : mayR n.toNat k T = true) (h3 : T.done = true) : folE n es k s T = (0, T) := by
  unfold folE nextE; rw [if_neg (by simp [h]), if_pos h2, if_pos h3]
theorem folE_full {n k s : Int} {es : List Ed} {T : StS} (h : jobE n es k s = 0) (h2 : mayR n.toNat k T = true) (h3 : T.done = false) (h4 : 100000 ≤ T.step) : folE n es k s T = (10, st0) := by
  unfold folE nextE; rw [if_neg (by simp [h]), if_pos h2, if_neg (by simp [h3]), if_pos h4]
theorem folE_over {n k s : Int} {es : List Ed} {T : StS} {j : Jb} (h : jobE n es k s = 0) (h2 : mayR n.toNat k T = true) (h3 : T.done = false) (h4 : ¬ 100000 ≤ T.step) (h5 : jobF k T.phase = some j) (h6 : overR j (rndV j s T) es = true) : folE n es k s T = (6, st0) := by
  unfold folE nextE; rw [if_neg (by simp [h]), if_pos h2, if_neg (by simp [h3]), if_neg h4, h5]; simp only; rw [if_pos h6]
theorem folE_go {n k s : Int} {es : List Ed} {T : StS} {j : Jb} (h : jobE n es k s = 0) (h2 : mayR n.toNat k T = true) (h3 : T.done = false) (h4 : ¬ 100000 ≤ T.step) (h5 : jobF k T.phase = some j) (h6 : overR j (rndV j s T) es = false) : folE n es k s T = (0, nextS n.toNat es j s T) := by
  unfold folE nextE; rw [if_neg (by simp [h]), if_pos h2, if_neg (by simp [h3]), if_neg h4, h5]; simp only; rw [if_neg (by simp [h6])]
/-- What a state that may be holds, for its memory. -/
theorem mayR_size {n : Nat} {k : Int} {T : StS} (h : mayR n k T = true) : T.vals.length = n ∧ T.mail.length = n ∧ manyL T.mail ≤ 5000 := by
  have hl : T.vals.length = n ∧ T.mail.length = n := by
    by_cases g : T.vals.length = n ∧ T.mail.length = n
    · exact g
    · rw [mayR_len g] at h; cases h
  refine ⟨hl.1, hl.2, ?_⟩
  unfold mayR at h
  cases hj : jobF k T.phase with
  | none => rw [hj] at h; cases h
  | some j => rw [hj] at h; simp only [Bool.and_eq_true, decide_eq_true_eq] at h; exact h.2
theorem manyL_mem {m : List (List Int)} {l : List Int} (h : l ∈ m) : l.length ≤ manyL m := by
  unfold manyL
  induction m with
  | nil => cases h
  | cons x m ih =>
    rw [List.map_cons, List.sum_cons]
    rcases List.mem_cons.1 h with rfl | h
    · omega
    · have := ih h
      omega
end Go.Proofs.Ytbmkgnlfccigpab

namespace Go.Proofs.Ytbmkgnlfccigpab
set_option maxRecDepth 100000
open Go.ChangeShapes Go.WideShapes Go.ChangeAt Go.RowKit

def hasL (l : List Int) : Bool := decide (0 < l.length)
theorem many_any (ms : List (List Int)) : ms.any hasL = decide (0 < manyL ms) := by
  rw [Bool.eq_iff_iff, List.any_eq_true, decide_eq_true_eq]
  constructor
  · rintro ⟨l, hl, h⟩
    have := manyL_mem hl
    unfold hasL at h
    have := of_decide_eq_true h
    omega
  · intro h
    apply Classical.byContradiction
    intro g
    have : manyL ms = 0 := manyL_zero.2 fun l hl => List.eq_nil_of_length_eq_zero (by
      apply Classical.byContradiction
      intro h2
      exact g ⟨l, hl, decide_eq_true (by omega)⟩)
    omega
set_option maxHeartbeats 400000 in
theorem waits_any (a : Option Addr) (c : Nat) (l : List Int) (w : World) (hl : l.length ≤ 9223372036854775807) : Calls Try.prog 38 #[.slice a l.length c] w fun e w' => e = .returned (.bool (hasL l)) ∧ w' = w := by
  by_cases h : 0 < l.length
  · have H : Hid (hasL l = true) := decide_eq_true h
    generalize hasL l = b at *
    have t : (0 : Int) < (l.length : Int) := by omega
    go_enter Try.func38, Try.ntmps38
    go_wp2_with fail
    go_ret
    exact ⟨ret_bool H.out.symm, rfl⟩
  · have H : Hid (hasL l = false) := decide_eq_false h
    generalize hasL l = b at *
    have t : ¬ (0 : Int) < (l.length : Int) := by omega
    go_enter Try.func38, Try.ntmps38
    go_wp2_with fail
    go_ret
    exact ⟨ret_bool H.out.symm, rfl⟩
def opnB (x : Ml) : Bool := x.2 == -1
theorem open_any {vs : List Ml} (h : ∀ x ∈ vs, -1 ≤ x.2) : vs.any opnB = openV vs := by
  unfold openV
  rw [Bool.eq_iff_iff, List.any_eq_true, List.any_eq_true]
  constructor
  · rintro ⟨x, hx, hb⟩
    refine ⟨x, hx, ?_⟩
    unfold opnB at hb
    have := eq_of_beq hb
    exact decide_eq_true (by omega)
  · rintro ⟨x, hx, hb⟩
    refine ⟨x, hx, ?_⟩
    have h1 := of_decide_eq_true hb
    have h2 := h x hx
    unfold opnB
    exact beq_iff_eq.2 (by omega)
set_option maxHeartbeats 400000 in
theorem opens_any (x : Ml) (w : World) : Calls Try.prog 39 #[.agg #[.int .i64 x.1, .int .i64 x.2]] w fun e w' => e = .returned (.bool (opnB x)) ∧ Below w.heap.size w w' := by
  have H : Hid ((x.2 == -1) = opnB x) := rfl
  obtain ⟨b, hb⟩ : ∃ b, (x.2 == -1) = b := ⟨_, rfl⟩
  rw [hb] at H
  generalize opnB x = ob at *
  have BH : Hid (Below w.heap.size w (w.alloc (.cells #[.int .i64 x.1, .int .i64 x.2] 44))) := below_alloc _ _
  go_enter Try.func39, Try.ntmps39
  go_wp2_with fail
  go_ret
  exact ⟨ret_bool (by rw [← H.out]), BH.out⟩

theorem any_take {α : Type} {l : List α} {p : α → Bool} {k : Nat} {x : α} (h : l[k]? = some x) : (l.take (k + 1)).any p = ((l.take k).any p || p x) := by
  rw [take_snoc h, List.any_append]; simp
theorem any_hitX {α : Type} {l : List α} {p : α → Bool} {k : Nat} {x : α} (h : l[k]? = some x) (hp : p x = true) : l.any p = true := List.any_eq_true.2 ⟨x, List.mem_of_getElem? h, hp⟩

set_option maxHeartbeats 800000 in
theorem indexL_any (v : Value) (ms : List (List Int)) (w : World) (h : LiR w v ms) :
    Calls Try.prog 47 #[v, .func (.func 38) #[] #[]] w fun e w' => ∃ r : Int, e = .returned (.int .i64 r) ∧ (0 ≤ r ↔ ms.any hasL = true) ∧ w' = w := by
  have HM : Hid (LiR w v ms) := h
  obtain ⟨ma, mc, rfl, hmc, hmm, _⟩ := h
  unfold maxLen at hmm
  have HH : Hid (∀ (k : Nat) (l : List Int), ms[k]? = some l → hasL l = true → ms.any hasL = true) := fun k l h1 h2 => any_hitX h1 h2
  have HN : Hid ((ms.take ms.length).any hasL = ms.any hasL) := by show List.any _ _ = _; rw [List.take_of_length_le (Nat.le_refl _)]
  have HT : Hid (∀ (k : Nat) (l : List Int), ms[k]? = some l → (ms.take (k + 1)).any hasL = ((ms.take k).any hasL || hasL l)) := fun k l h1 => any_take h1
  generalize ms.any hasL = ab at *
  go_enter Try.func47, Try.ntmps47
  go_wp2_with fail
  go_loop [8] (fun i => ∃ k : Nat, k ≤ ms.length ∧ i = .int .i64 k ∧ (ms.take k).any hasL = false) (fun i => ms.length - (intOf i).toNat)
  case atStart => exact ⟨0, by omega, rfl, rfl⟩
  case round =>
    obtain ⟨k, hk, rfl, hs⟩ := hrel
    have HS : Hid ((ms.take k).any hasL = false) := hs
    clear hs
    by_cases hlt : k < ms.length
    · obtain ⟨b1, o1, cap1, e1, lt1, hc1, hc2, hv1⟩ := HM.out.at (by omega)
      injection e1 with e1 _ e3
      subst e1 e3
      obtain ⟨l, hl⟩ := getX hlt
      obtain ⟨u, hu, hur⟩ := hv1 k l hl
      obtain ⟨ua, uc, rfl, huc, hum, _⟩ := hur
      unfold maxLen at hum
      have HY : Hid (hasL l = true → ab = true) := HH.out k l hl
      have HX : Hid (hasL l = false → (ms.take (k + 1)).any hasL = false) := fun h => by rw [HT.out k l hl, HS.out, h]; rfl
      have CC : Hid (∀ X, Calls Try.prog 38 #[.slice ua l.length uc] X fun e w' => e = .returned (.bool (hasL l)) ∧ w' = X) := fun X => waits_any ua uc l X (by omega)
      have p0 : (0 : Int) ≤ (k : Int) := by omega
      have p1 : (k : Int) < (ms.length : Int) := by omega
      clear hv1 hl
      generalize hasL l = hb at *
      go_wp2_with fail
      refine (CC.out _).mono ?_
      rintro e w' ⟨rfl, rfl⟩
      cases hb
      · have HX2 : Hid _ := HX.out rfl
        go_wp2_with fail
        go_round
        case rel => exact ⟨k + 1, by omega, by go_num, HX2.out⟩
        case measure => simp [intOf]; omega
      · have HY2 : Hid (ab = true) := HY.out rfl
        go_wp2_with fail
        go_ret
        exact ⟨_, rfl, ⟨fun _ => HY2.out, fun _ => by omega⟩, rfl⟩
    · have ek : k = ms.length := by omega
      have HE : Hid (ab = false) := by
        have := HS.out
        rw [ek, HN.out] at this
        exact this
      clear ek
      go_wp2_with fail
      go_ret
      exact ⟨_, rfl, ⟨fun h => by omega, fun h => by rw [HE.out] at h; cases h⟩, rfl⟩

set_option maxHeartbeats 400000 in
theorem containsL_any (v : Value) (ms : List (List Int)) (w : World) (h : LiR w v ms) :
    Calls Try.prog 40 #[v, .func (.func 38) #[] #[]] w fun e w' => e = .returned (.bool (decide (0 < manyL ms))) ∧ w' = w := by
  rw [← many_any]
  have CC : Hid (∀ X, LiR X v ms → Calls Try.prog 47 #[v, .func (.func 38) #[] #[]] X fun e w' => ∃ r : Int, e = .returned (.int .i64 r) ∧ (0 ≤ r ↔ ms.any hasL = true) ∧ w' = X) := fun X hX => indexL_any v ms X hX
  have HL : Hid (LiR w v ms) := h
  obtain ⟨ma, mc, rfl, hmc, hmm, _⟩ := h
  generalize ms.any hasL = ab at *
  go_enter Try.func40, Try.ntmps40
  go_wp2_with fail
  refine (CC.out _ HL.out).mono ?_
  rintro e w1 ⟨r, rfl, hr, hw⟩
  have HR : Hid (0 ≤ r ↔ ab = true) := hr
  have HW : Hid (w1 = w) := hw
  clear hr hw
  by_cases h0 : 0 ≤ r
  · have HA : Hid (ab = true) := HR.out.1 h0
    go_wp2_with fail
    go_ret
    exact ⟨by rw [HA.out]; rfl, HW.out⟩
  · have HA : Hid (ab = false) := by
      show ab = false
      cases hab : ab
      · rfl
      · exact absurd (HR.out.2 hab) h0
    have td : decide (0 ≤ r) = false := decide_eq_false h0
    go_wp2_with fail
    go_ret
    exact ⟨by rw [HA.out]; rfl, HW.out⟩

set_option maxHeartbeats 800000 in
theorem indexV_any (v : Value) (vs : List Ml) (w : World) (h : MlR w v vs) :
    Calls Try.prog 48 #[v, .func (.func 39) #[] #[]] w fun e w' => ∃ r : Int, e = .returned (.int .i64 r) ∧ (0 ≤ r ↔ vs.any opnB = true) ∧ Below w.heap.size w w' := by
  have HM : Hid (MlR w v vs) := h
  obtain ⟨ma, mc, rfl, hmc, hmm, _⟩ := h
  unfold maxLen at hmm
  have HH : Hid (∀ (k : Nat) (l : Ml), vs[k]? = some l → opnB l = true → vs.any opnB = true) := fun k l h1 h2 => any_hitX h1 h2
  have HN : Hid ((vs.take vs.length).any opnB = vs.any opnB) := by show List.any _ _ = _; rw [List.take_of_length_le (Nat.le_refl _)]
  have HT : Hid (∀ (k : Nat) (l : Ml), vs[k]? = some l → (vs.take (k + 1)).any opnB = ((vs.take k).any opnB || opnB l)) := fun k l h1 => any_take h1
  generalize vs.any opnB = ab at *
  go_enter Try.func48, Try.ntmps48
  go_wp2_with fail
  go_loopw [8] (fun i wr => ∃ k : Nat, k ≤ vs.length ∧ i = .int .i64 k ∧ (vs.take k).any opnB = false ∧ Below w.heap.size w wr) (fun i _ => vs.length - (intOf i).toNat)
  case atStart => exact ⟨0, by omega, rfl, rfl, Below.refl _ _⟩
  case round =>
    obtain ⟨k, hk, rfl, hs, hbel⟩ := hrel
    have HS : Hid ((vs.take k).any opnB = false) := hs
    have AB : Hid (Below w.heap.size w wr) := hbel
    clear hs hbel
    by_cases hlt : k < vs.length
    · obtain ⟨b1, o1, cap1, e1, lt1, hv1⟩ := MlR.read (HM.out.below AB.out (Nat.le_refl _)) (by omega)
      injection e1 with e1 _ e3
      subst e1 e3
      obtain ⟨x, hx⟩ := getX hlt
      obtain ⟨d0, d1⟩ := hv1 k x hx
      have HY : Hid (opnB x = true → ab = true) := HH.out k x hx
      have HX : Hid (opnB x = false → (vs.take (k + 1)).any opnB = false) := fun h => by rw [HT.out k x hx, HS.out, h]; rfl
      have CC : Hid (∀ X, Calls Try.prog 39 #[.agg #[.int .i64 x.1, .int .i64 x.2]] X fun e w' => e = .returned (.bool (opnB x)) ∧ Below X.heap.size X w') := fun X => opens_any x X
      have p0 : (0 : Int) ≤ (k : Int) := by omega
      have p1 : (k : Int) < (vs.length : Int) := by omega
      clear hv1 hx
      generalize opnB x = hb at *
      go_wp2_with fail
      refine (CC.out _).mono ?_
      rintro e w1 ⟨rfl, hb1⟩
      have A1 : Hid (Below w.heap.size w w1) := AB.out.trans (hb1.mono AB.out.size)
      clear hb1 d0 d1
      cases hb
      · have HX2 : Hid _ := HX.out rfl
        go_wp2_with fail
        go_roundw
        case rel => exact ⟨k + 1, by omega, by go_num, HX2.out, A1.out⟩
        case measure => simp [intOf]; omega
      · have HY2 : Hid (ab = true) := HY.out rfl
        go_wp2_with fail
        go_ret
        exact ⟨_, rfl, ⟨fun _ => HY2.out, fun _ => by omega⟩, A1.out⟩
    · have ek : k = vs.length := by omega
      have HE : Hid (ab = false) := by
        have := HS.out
        rw [ek, HN.out] at this
        exact this
      clear ek
      go_wp2_with fail
      go_ret
      exact ⟨_, rfl, ⟨fun h => by omega, fun h => by rw [HE.out] at h; cases h⟩, AB.out⟩

set_option maxHeartbeats 400000 in
theorem containsV_any (v : Value) (vs : List Ml) (w : World) (h : MlR w v vs) :
    Calls Try.prog 41 #[v, .func (.func 39) #[] #[]] w fun e w' => e = .returned (.bool (vs.any opnB)) ∧ Below w.heap.size w w' := by
  have CC : Hid (∀ X, MlR X v vs → Calls Try.prog 48 #[v, .func (.func 39) #[] #[]] X fun e w' => ∃ r : Int, e = .returned (.int .i64 r) ∧ (0 ≤ r ↔ vs.any opnB = true) ∧ Below X.heap.size X w') := fun X hX => indexV_any v vs X hX
  have HL : Hid (MlR w v vs) := h
  obtain ⟨ma, mc, rfl, hmc, hmm, _⟩ := h
  generalize vs.any opnB = ab at *
  go_enter Try.func41, Try.ntmps41
  go_wp2_with fail
  refine (CC.out _ HL.out).mono ?_
  rintro e w1 ⟨r, rfl, hr, hw⟩
  have HR : Hid (0 ≤ r ↔ ab = true) := hr
  have HW : Hid (Below w.heap.size w w1) := hw
  clear hr hw
  by_cases h0 : 0 ≤ r
  · have HA : Hid (ab = true) := HR.out.1 h0
    go_wp2_with fail
    go_ret
    exact ⟨by rw [HA.out]; rfl, HW.out⟩
  · have HA : Hid (ab = false) := by
      show ab = false
      cases hab : ab
      · rfl
      · exact absurd (HR.out.2 hab) h0
    have td : decide (0 ≤ r) = false := decide_eq_false h0
    go_wp2_with fail
    go_ret
    exact ⟨by rw [HA.out]; rfl, HW.out⟩
end Go.Proofs.Ytbmkgnlfccigpab

namespace Go.Proofs.Ytbmkgnlfccigpab
set_option maxRecDepth 100000
open Go.ChangeShapes Go.WideShapes Go.ChangeAt Go.RowKit

/-- A state that is answered, its lists those that were handed in. -/
def SetP (w : World) (t : StS) (vv vm : Value) (e : Ending) (w' : World) : Prop :=
  e = .returned (.agg #[.int .i64 t.step, .int .i64 t.phase, .bool t.fresh, .bool t.done, vv, vm]) ∧ Below w.heap.size w w'
theorem beh_mail {j : Jb} {a p : Int} {vs : List Ml} {ms : List (List Int)} (h : 0 < manyL ms) : behR j a p vs ms = ⟨a + 1, p, false, false, vs, ms⟩ := by unfold behR; rw [if_pos h]
theorem beh_done {j : Jb} {a p : Int} {vs : List Ml} {ms : List (List Int)} (h : ¬ 0 < manyL ms) (h2 : (!j.1 || (j.2 && !openV vs)) = true) : behR j a p vs ms = ⟨a + 1, p, false, true, vs, ms⟩ := by unfold behR; rw [if_neg h, if_pos h2]
theorem beh_turn {j : Jb} {a p : Int} {vs : List Ml} {ms : List (List Int)} (h : ¬ 0 < manyL ms) (h2 : (!j.1 || (j.2 && !openV vs)) = false) : behR j a p vs ms = ⟨a + 1, 1 - p, true, false, vs, ms⟩ := by unfold behR; rw [if_neg h, if_neg (by rw [h2]; simp)]

set_option maxHeartbeats 4000000 in
set_option maxRecDepth 100000 in
theorem settled_any (j : Jb) (k a step ph : Int) (vs : List Ml) (ms : List (List Int)) (vv vm : Value) (w : World) (hk : k = Jb.k j) (hp : ph = Jb.p j) (hst : step = a + 1) (hv : MlR w vv vs) (hm : LiR w vm ms) (hlab : ∀ x ∈ vs, -1 ≤ x.2) :
    Calls Try.prog 29 #[.int .i64 k, .agg #[.int .i64 step, .int .i64 ph, .bool false, .bool false, vv, vm]] w (SetP w (behR j a ph vs ms) vv vm) := by
  have HV : Hid (MlR w vv vs) := hv
  have HM : Hid (LiR w vm ms) := hm
  obtain ⟨va, vc, rfl, hvc, hvm, _, _⟩ := hv
  obtain ⟨ma, mc, rfl, hmc, hmm, _⟩ := hm
  have HO : Hid (vs.any opnB = openV vs) := open_any hlab
  clear hlab
  obtain ⟨W0, hW0⟩ : ∃ W0, W0 = (w.alloc (.cells #[.int .i64 step, .int .i64 ph, .bool false, .bool false, .slice va vs.length vc, .slice ma ms.length mc] 34)).alloc (.cells #[.int .i64 0, .int .i64 0, .bool false, .bool false, .slice none 0 0, .slice none 0 0] 34) := ⟨_, rfl⟩
  obtain ⟨Q0, T0, B0, s1, s2⟩ := boxes2 w #[.int .i64 step, .int .i64 ph, .bool false, .bool false, .slice va vs.length vc, .slice ma ms.length mc] #[.int .i64 0, .int .i64 0, .bool false, .bool false, .slice none 0 0, .slice none 0 0] 34 34 W0 hW0
  have BH : Hid (Below w.heap.size w W0) := B0
  have X0 : Hid (BX 34 W0 w.heap.size #[.int .i64 step, .int .i64 ph, .bool false, .bool false, .slice va vs.length vc, .slice ma ms.length mc]) := Q0
  have Z0 : Hid (BX 34 W0 (w.heap.size + 1) #[.int .i64 0, .int .i64 0, .bool false, .bool false, .slice none 0 0, .slice none 0 0]) := T0
  have CL : Hid (∀ X, LiR X (.slice ma ms.length mc) ms → Calls Try.prog 40 #[.slice ma ms.length mc, .func (.func 38) #[] #[]] X fun e w' => e = .returned (.bool (decide (0 < manyL ms))) ∧ w' = X) := fun X hX => containsL_any _ ms X hX
  have CV : Hid (∀ X, MlR X (.slice va vs.length vc) vs → Calls Try.prog 41 #[.slice va vs.length vc, .func (.func 39) #[] #[]] X fun e w' => e = .returned (.bool (openV vs)) ∧ Below X.heap.size X w') := fun X hX => by rw [← HO.out]; exact containsV_any _ vs X hX
  have HML : Hid (LiR W0 (.slice ma ms.length mc) ms) := HM.out.below BH.out (Nat.le_refl _)
  have HVL : Hid (MlR W0 (.slice va vs.length vc) vs) := HV.out.below BH.out (Nat.le_refl _)
  obtain ⟨⟨c0, c1, c2, c3, c4, c5⟩, f0, f1, f2, f3, f4, f5⟩ := Q0.all6
  obtain ⟨⟨d0, d1, d2, d3, d4, d5⟩, e0, e1, e2, e3, e4, e5⟩ := T0.all6
  clear Q0 T0 B0
  by_cases hmy : 0 < manyL ms
  · have HE : Hid (behR j a ph vs ms = ⟨step, ph, false, false, vs, ms⟩) := by show behR j a ph vs ms = _; rw [hst]; exact beh_mail hmy
    rw [show decide (0 < manyL ms) = true from decide_eq_true hmy] at CL
    generalize behR j a ph vs ms = R at *
    clear hmy hk hp hst
    go_enter Try.func29, Try.ntmps29
    go_upto_region 4 with fail
    rw [← hW0]
    clear hW0
    go_wp2_with fail
    refine (CL.out _ HML.out).mono ?_
    rintro e w1 ⟨rfl, hw⟩
    replace hw := hw.symm
    subst hw
    have XX := X0.out
    have ZZ := Z0.out
    have BB := BH.out
    have hsz : w.heap.size + 2 ≤ W0.heap.size := s2
    have x2 : BX 34 W0 w.heap.size #[.int .i64 step, .int .i64 ph, .bool false, .bool false, .slice va vs.length vc, .slice ma ms.length mc] := XX
    have kp : Kept (fun k => k = w.heap.size) W0 W0 := Kept.refl _ _
    have z2 : BX 34 W0 (w.heap.size + 1) #[.int .i64 0, .int .i64 0, .bool false, .bool false, .slice none 0 0, .slice none 0 0] := ZZ.kept kp (by omega)
    have RX : Hid (BX 34 (put6 W0 (w.heap.size + 1) (.int .i64 step) (.int .i64 ph) (.bool false) (.bool false) (.slice va vs.length vc) (.slice ma ms.length mc)) (w.heap.size + 1) #[.int .i64 step, .int .i64 ph, .bool false, .bool false, .slice va vs.length vc, .slice ma ms.length mc]) := z2.put6
    have HP : Hid (SetP w R (.slice va vs.length vc) (.slice ma ms.length mc) (.returned (.agg #[.int .i64 step, .int .i64 ph, .bool false, .bool false, .slice va vs.length vc, .slice ma ms.length mc])) (put6 W0 (w.heap.size + 1) (.int .i64 step) (.int .i64 ph) (.bool false) (.bool false) (.slice va vs.length vc) (.slice ma ms.length mc))) := by
      show SetP _ _ _ _ _ _
      rw [HE.out]
      exact ⟨rfl, below_put6 (BB.trans (kp.below (by omega) (fun k hk => by omega))) (by omega) z2.lt _ _ _ _ _ _⟩
    clear c0 c1 c2 c3 c4 c5 f0 f1 f2 f3 f4 f5 d0 d1 d2 d3 d4 d5 e0 e1 e2 e3 e4 e5
    obtain ⟨⟨c0, c1, c2, c3, c4, c5⟩, _⟩ := x2.all6
    obtain ⟨⟨d0, d1, d2, d3, d4, d5⟩, e0, e1, e2, e3, e4, e5⟩ := z2.all6
    obtain ⟨⟨r0, r1, r2, r3, r4, r5⟩, _⟩ := RX.out.all6
    unfold put6 at r0 r1 r2 r3 r4 r5
    obtain ⟨⟨m0, m1, m2, m3, m4, m5⟩, g0, g1, g2, g3, g4, g5⟩ := XX.all6
    go_wp2_with fail
    exact bodyPost_ret (v := .agg #[.int .i64 step, .int .i64 ph, .bool false, .bool false, .slice va vs.length vc, .slice ma ms.length mc]) (by simp [results, Try.results29, go_sem, r0, r1, r2, r3, r4, r5]) rfl HP.out
  · rw [show decide (0 < manyL ms) = false from decide_eq_false hmy] at CL
    rcases j with ⟨j1, j2⟩
    cases j1
    · have HE : Hid (behR (false, j2) a ph vs ms = ⟨step, ph, false, true, vs, ms⟩) := by show behR (false, j2) a ph vs ms = _; rw [hst]; exact beh_done hmy rfl
      have t3 : (k == 3) = false := by
        rw [hk]; cases j2 <;> rfl
      generalize behR (false, j2) a ph vs ms = R at *
      clear hmy hk hp hst
      go_enter Try.func29, Try.ntmps29
      go_upto_region 4 with fail
      rw [← hW0]
      clear hW0
      go_wp2_with fail
      refine (CL.out _ HML.out).mono ?_
      rintro e w1 ⟨rfl, hw⟩
      replace hw := hw.symm
      subst hw
      have XX := X0.out
      have ZZ := Z0.out
      have BB := BH.out
      have hsz : w.heap.size + 2 ≤ W0.heap.size := s2
      have x2 : BX 34 (W0.setCell ⟨w.heap.size, 3, none⟩ (.bool true)) w.heap.size #[.int .i64 step, .int .i64 ph, .bool false, .bool true, .slice va vs.length vc, .slice ma ms.length mc] := XX.set 3 _
      have kp : Kept (fun k => k = w.heap.size) W0 (W0.setCell ⟨w.heap.size, 3, none⟩ (.bool true)) := Kept.box _ _ _ _
      have z2 : BX 34 (W0.setCell ⟨w.heap.size, 3, none⟩ (.bool true)) (w.heap.size + 1) #[.int .i64 0, .int .i64 0, .bool false, .bool false, .slice none 0 0, .slice none 0 0] := ZZ.kept kp (by omega)
      have RX : Hid (BX 34 (put6 (W0.setCell ⟨w.heap.size, 3, none⟩ (.bool true)) (w.heap.size + 1) (.int .i64 step) (.int .i64 ph) (.bool false) (.bool true) (.slice va vs.length vc) (.slice ma ms.length mc)) (w.heap.size + 1) #[.int .i64 step, .int .i64 ph, .bool false, .bool true, .slice va vs.length vc, .slice ma ms.length mc]) := z2.put6
      have HP : Hid (SetP w R (.slice va vs.length vc) (.slice ma ms.length mc) (.returned (.agg #[.int .i64 step, .int .i64 ph, .bool false, .bool true, .slice va vs.length vc, .slice ma ms.length mc])) (put6 (W0.setCell ⟨w.heap.size, 3, none⟩ (.bool true)) (w.heap.size + 1) (.int .i64 step) (.int .i64 ph) (.bool false) (.bool true) (.slice va vs.length vc) (.slice ma ms.length mc))) := by
        show SetP _ _ _ _ _ _
        rw [HE.out]
        exact ⟨rfl, below_put6 (BB.trans (kp.below (by omega) (fun k hk => by omega))) (by omega) z2.lt _ _ _ _ _ _⟩
      clear c0 c1 c2 c3 c4 c5 f0 f1 f2 f3 f4 f5 d0 d1 d2 d3 d4 d5 e0 e1 e2 e3 e4 e5
      obtain ⟨⟨c0, c1, c2, c3, c4, c5⟩, _⟩ := x2.all6
      obtain ⟨⟨d0, d1, d2, d3, d4, d5⟩, e0, e1, e2, e3, e4, e5⟩ := z2.all6
      obtain ⟨⟨r0, r1, r2, r3, r4, r5⟩, _⟩ := RX.out.all6
      unfold put6 at r0 r1 r2 r3 r4 r5
      obtain ⟨⟨m0, m1, m2, m3, m4, m5⟩, g0, g1, g2, g3, g4, g5⟩ := XX.all6
      go_wp2_with fail
      exact bodyPost_ret (v := .agg #[.int .i64 step, .int .i64 ph, .bool false, .bool true, .slice va vs.length vc, .slice ma ms.length mc]) (by simp [results, Try.results29, go_sem, r0, r1, r2, r3, r4, r5]) rfl HP.out
    · cases j2
      · have HE : Hid (behR (true, false) a ph vs ms = ⟨step, 1, true, false, vs, ms⟩) := by
          show behR (true, false) a ph vs ms = _
          rw [hst, beh_turn hmy rfl, show ph = 0 from hp]; rfl
        have t3 : (k == 3) = true := by rw [hk]; rfl
        have t0 : (ph == 0) = true := by rw [hp]; rfl
        generalize behR (true, false) a ph vs ms = R at *
        clear hmy hk hp hst
        go_enter Try.func29, Try.ntmps29
        go_upto_region 4 with fail
        rw [← hW0]
        clear hW0
        go_wp2_with fail
        refine (CL.out _ HML.out).mono ?_
        rintro e w1 ⟨rfl, hw⟩
        replace hw := hw.symm
        subst hw
        have XX := X0.out
        have ZZ := Z0.out
        have BB := BH.out
        have hsz : w.heap.size + 2 ≤ W0.heap.size := s2
        have x2 : BX 34 ((W0.setCell ⟨w.heap.size, 1, none⟩ (.int .i64 1)).setCell ⟨w.heap.size, 2, none⟩ (.bool true)) w.heap.size #[.int .i64 step, .int .i64 1, .bool true, .bool false, .slice va vs.length vc, .slice ma ms.length mc] := (XX.set 1 _).set 2 _
        have kp : Kept (fun k => k = w.heap.size) W0 ((W0.setCell ⟨w.heap.size, 1, none⟩ (.int .i64 1)).setCell ⟨w.heap.size, 2, none⟩ (.bool true)) := (Kept.box _ _ _ _).trans (Kept.box _ _ _ _)
        have z2 : BX 34 ((W0.setCell ⟨w.heap.size, 1, none⟩ (.int .i64 1)).setCell ⟨w.heap.size, 2, none⟩ (.bool true)) (w.heap.size + 1) #[.int .i64 0, .int .i64 0, .bool false, .bool false, .slice none 0 0, .slice none 0 0] := ZZ.kept kp (by omega)
        have RX : Hid (BX 34 (put6 ((W0.setCell ⟨w.heap.size, 1, none⟩ (.int .i64 1)).setCell ⟨w.heap.size, 2, none⟩ (.bool true)) (w.heap.size + 1) (.int .i64 step) (.int .i64 1) (.bool true) (.bool false) (.slice va vs.length vc) (.slice ma ms.length mc)) (w.heap.size + 1) #[.int .i64 step, .int .i64 1, .bool true, .bool false, .slice va vs.length vc, .slice ma ms.length mc]) := z2.put6
        have HP : Hid (SetP w R (.slice va vs.length vc) (.slice ma ms.length mc) (.returned (.agg #[.int .i64 step, .int .i64 1, .bool true, .bool false, .slice va vs.length vc, .slice ma ms.length mc])) (put6 ((W0.setCell ⟨w.heap.size, 1, none⟩ (.int .i64 1)).setCell ⟨w.heap.size, 2, none⟩ (.bool true)) (w.heap.size + 1) (.int .i64 step) (.int .i64 1) (.bool true) (.bool false) (.slice va vs.length vc) (.slice ma ms.length mc))) := by
          show SetP _ _ _ _ _ _
          rw [HE.out]
          exact ⟨rfl, below_put6 (BB.trans (kp.below (by omega) (fun k hk => by omega))) (by omega) z2.lt _ _ _ _ _ _⟩
        clear c0 c1 c2 c3 c4 c5 f0 f1 f2 f3 f4 f5 d0 d1 d2 d3 d4 d5 e0 e1 e2 e3 e4 e5
        obtain ⟨⟨c0, c1, c2, c3, c4, c5⟩, _⟩ := x2.all6
        obtain ⟨⟨d0, d1, d2, d3, d4, d5⟩, e0, e1, e2, e3, e4, e5⟩ := z2.all6
        obtain ⟨⟨r0, r1, r2, r3, r4, r5⟩, _⟩ := RX.out.all6
        unfold put6 at r0 r1 r2 r3 r4 r5
        obtain ⟨⟨m0, m1, m2, m3, m4, m5⟩, g0, g1, g2, g3, g4, g5⟩ := XX.all6
        go_wp2_with fail
        exact bodyPost_ret (v := .agg #[.int .i64 step, .int .i64 1, .bool true, .bool false, .slice va vs.length vc, .slice ma ms.length mc]) (by simp [results, Try.results29, go_sem, r0, r1, r2, r3, r4, r5]) rfl HP.out
      · have t3 : (k == 3) = true := by rw [hk]; rfl
        have t0 : (ph == 0) = false := by rw [hp]; rfl
        cases ho : openV vs
        · have HE : Hid (behR (true, true) a ph vs ms = ⟨step, ph, false, true, vs, ms⟩) := by
            show behR (true, true) a ph vs ms = _
            rw [hst]; exact beh_done hmy (by rw [ho]; rfl)
          rw [ho] at CV
          generalize behR (true, true) a ph vs ms = R at *
          clear hmy hk hp hst ho
          go_enter Try.func29, Try.ntmps29
          go_upto_region 4 with fail
          rw [← hW0]
          clear hW0
          go_wp2_with fail
          refine (CL.out _ HML.out).mono ?_
          rintro e w1 ⟨rfl, hw⟩
          replace hw := hw.symm
          subst hw
          go_wp2_with fail
          refine (CV.out _ HVL.out).mono ?_
          rintro e w1 ⟨rfl, hb1⟩
          have XX := X0.out.below hb1 (by omega)
          have ZZ := Z0.out.below hb1 (by omega)
          have BB : Below w.heap.size w w1 := BH.out.trans (hb1.mono (by omega))
          have hsz : w.heap.size + 2 ≤ w1.heap.size := Nat.le_trans s2 hb1.size
          have x2 : BX 34 (w1.setCell ⟨w.heap.size, 3, none⟩ (.bool true)) w.heap.size #[.int .i64 step, .int .i64 ph, .bool false, .bool true, .slice va vs.length vc, .slice ma ms.length mc] := XX.set 3 _
          have kp : Kept (fun k => k = w.heap.size) w1 (w1.setCell ⟨w.heap.size, 3, none⟩ (.bool true)) := Kept.box _ _ _ _
          have z2 : BX 34 (w1.setCell ⟨w.heap.size, 3, none⟩ (.bool true)) (w.heap.size + 1) #[.int .i64 0, .int .i64 0, .bool false, .bool false, .slice none 0 0, .slice none 0 0] := ZZ.kept kp (by omega)
          have RX : Hid (BX 34 (put6 (w1.setCell ⟨w.heap.size, 3, none⟩ (.bool true)) (w.heap.size + 1) (.int .i64 step) (.int .i64 ph) (.bool false) (.bool true) (.slice va vs.length vc) (.slice ma ms.length mc)) (w.heap.size + 1) #[.int .i64 step, .int .i64 ph, .bool false, .bool true, .slice va vs.length vc, .slice ma ms.length mc]) := z2.put6
          have HP : Hid (SetP w R (.slice va vs.length vc) (.slice ma ms.length mc) (.returned (.agg #[.int .i64 step, .int .i64 ph, .bool false, .bool true, .slice va vs.length vc, .slice ma ms.length mc])) (put6 (w1.setCell ⟨w.heap.size, 3, none⟩ (.bool true)) (w.heap.size + 1) (.int .i64 step) (.int .i64 ph) (.bool false) (.bool true) (.slice va vs.length vc) (.slice ma ms.length mc))) := by
            show SetP _ _ _ _ _ _
            rw [HE.out]
            exact ⟨rfl, below_put6 (BB.trans (kp.below (by omega) (fun k hk => by omega))) (by omega) z2.lt _ _ _ _ _ _⟩
          clear c0 c1 c2 c3 c4 c5 f0 f1 f2 f3 f4 f5 d0 d1 d2 d3 d4 d5 e0 e1 e2 e3 e4 e5
          obtain ⟨⟨c0, c1, c2, c3, c4, c5⟩, _⟩ := x2.all6
          obtain ⟨⟨d0, d1, d2, d3, d4, d5⟩, e0, e1, e2, e3, e4, e5⟩ := z2.all6
          obtain ⟨⟨r0, r1, r2, r3, r4, r5⟩, _⟩ := RX.out.all6
          unfold put6 at r0 r1 r2 r3 r4 r5
          obtain ⟨⟨m0, m1, m2, m3, m4, m5⟩, g0, g1, g2, g3, g4, g5⟩ := XX.all6
          go_wp2_with fail
          exact bodyPost_ret (v := .agg #[.int .i64 step, .int .i64 ph, .bool false, .bool true, .slice va vs.length vc, .slice ma ms.length mc]) (by simp [results, Try.results29, go_sem, r0, r1, r2, r3, r4, r5]) rfl HP.out
        · have HE : Hid (behR (true, true) a ph vs ms = ⟨step, 0, true, false, vs, ms⟩) := by
            show behR (true, true) a ph vs ms = _
            rw [hst, beh_turn hmy (by rw [ho]; rfl), show ph = 1 from hp]; rfl
          rw [ho] at CV
          generalize behR (true, true) a ph vs ms = R at *
          clear hmy hk hp hst ho
          go_enter Try.func29, Try.ntmps29
          go_upto_region 4 with fail
          rw [← hW0]
          clear hW0
          go_wp2_with fail
          refine (CL.out _ HML.out).mono ?_
          rintro e w1 ⟨rfl, hw⟩
          replace hw := hw.symm
          subst hw
          go_wp2_with fail
          refine (CV.out _ HVL.out).mono ?_
          rintro e w1 ⟨rfl, hb1⟩
          have XX := X0.out.below hb1 (by omega)
          have ZZ := Z0.out.below hb1 (by omega)
          have BB : Below w.heap.size w w1 := BH.out.trans (hb1.mono (by omega))
          have hsz : w.heap.size + 2 ≤ w1.heap.size := Nat.le_trans s2 hb1.size
          have x2 : BX 34 ((w1.setCell ⟨w.heap.size, 1, none⟩ (.int .i64 0)).setCell ⟨w.heap.size, 2, none⟩ (.bool true)) w.heap.size #[.int .i64 step, .int .i64 0, .bool true, .bool false, .slice va vs.length vc, .slice ma ms.length mc] := (XX.set 1 _).set 2 _
          have kp : Kept (fun k => k = w.heap.size) w1 ((w1.setCell ⟨w.heap.size, 1, none⟩ (.int .i64 0)).setCell ⟨w.heap.size, 2, none⟩ (.bool true)) := (Kept.box _ _ _ _).trans (Kept.box _ _ _ _)
          have z2 : BX 34 ((w1.setCell ⟨w.heap.size, 1, none⟩ (.int .i64 0)).setCell ⟨w.heap.size, 2, none⟩ (.bool true)) (w.heap.size + 1) #[.int .i64 0, .int .i64 0, .bool false, .bool false, .slice none 0 0, .slice none 0 0] := ZZ.kept kp (by omega)
          have RX : Hid (BX 34 (put6 ((w1.setCell ⟨w.heap.size, 1, none⟩ (.int .i64 0)).setCell ⟨w.heap.size, 2, none⟩ (.bool true)) (w.heap.size + 1) (.int .i64 step) (.int .i64 0) (.bool true) (.bool false) (.slice va vs.length vc) (.slice ma ms.length mc)) (w.heap.size + 1) #[.int .i64 step, .int .i64 0, .bool true, .bool false, .slice va vs.length vc, .slice ma ms.length mc]) := z2.put6
          have HP : Hid (SetP w R (.slice va vs.length vc) (.slice ma ms.length mc) (.returned (.agg #[.int .i64 step, .int .i64 0, .bool true, .bool false, .slice va vs.length vc, .slice ma ms.length mc])) (put6 ((w1.setCell ⟨w.heap.size, 1, none⟩ (.int .i64 0)).setCell ⟨w.heap.size, 2, none⟩ (.bool true)) (w.heap.size + 1) (.int .i64 step) (.int .i64 0) (.bool true) (.bool false) (.slice va vs.length vc) (.slice ma ms.length mc))) := by
            show SetP _ _ _ _ _ _
            rw [HE.out]
            exact ⟨rfl, below_put6 (BB.trans (kp.below (by omega) (fun k hk => by omega))) (by omega) z2.lt _ _ _ _ _ _⟩
          clear c0 c1 c2 c3 c4 c5 f0 f1 f2 f3 f4 f5 d0 d1 d2 d3 d4 d5 e0 e1 e2 e3 e4 e5
          obtain ⟨⟨c0, c1, c2, c3, c4, c5⟩, _⟩ := x2.all6
          obtain ⟨⟨d0, d1, d2, d3, d4, d5⟩, e0, e1, e2, e3, e4, e5⟩ := z2.all6
          obtain ⟨⟨r0, r1, r2, r3, r4, r5⟩, _⟩ := RX.out.all6
          unfold put6 at r0 r1 r2 r3 r4 r5
          obtain ⟨⟨m0, m1, m2, m3, m4, m5⟩, g0, g1, g2, g3, g4, g5⟩ := XX.all6
          go_wp2_with fail
          exact bodyPost_ret (v := .agg #[.int .i64 step, .int .i64 0, .bool true, .bool false, .slice va vs.length vc, .slice ma ms.length mc]) (by simp [results, Try.results29, go_sem, r0, r1, r2, r3, r4, r5]) rfl HP.out
end Go.Proofs.Ytbmkgnlfccigpab

namespace Go.Proofs.Ytbmkgnlfccigpab
set_option maxRecDepth 100000
open Go.ChangeShapes Go.WideShapes Go.ChangeAt Go.RowKit

theorem setRow_kept (w : World) (g : Nat) (cur : Array Value) : Kept (fun k => k = g) w (w.setRow g cur) := by
  refine ⟨rfl, rfl, rfl, by simp [World.setRow], fun k _ hk => ?_⟩
  unfold World.setRow
  simp only [Array.getElem?_modify]
  rw [if_neg (fun e => hk e.symm)]
theorem copy_vals {w : World} {base g m cap : Nat} {xs zs : List Ml} {v : Value} (ty : TypeId) (hd : w.ownsRow base 44 2 (.slice (some ⟨g, 0, none⟩) m cap) m (zs.flatMap encM)) (hr : MlR w v xs) (hx : xs.length = m) :
    ∃ w', (Builtin.copy_ #[31, 31] ty #[.slice (some ⟨g, 0, none⟩) m cap, v]).run Try.prog w = .ok (goInt xs.length) w' ∧ w'.ownsRow base 44 2 (.slice (some ⟨g, 0, none⟩) m cap) m (xs.flatMap encM) ∧ Kept (fun k => k = g) w w' := by
  obtain ⟨i0, hi, hz0, hz1, hz2⟩ := info_parts Try.infoV
  have hdc := hd
  rcases hd.2 with ⟨hv, _⟩ | ⟨g', cap', cur, hv, hg, hgg, hc, hm, hcur, htk⟩
  · cases hv
  injection hv with h1 h2 h3
  injection h1 with h1
  injection h1 with h1
  subst h1 h3
  have hlen : (xs.flatMap encM).length = m * 2 := by rw [flat_len encM_len, hx]
  have hfit : 0 + (xs.flatMap encM).length ≤ cur.size := by
    have h5 := hdc.1
    rw [hlen, hcur]
    omega
  have hone : ∀ u ∈ xs.flatMap encM, u.oneCell' = true := flat_one kV xs
  have hst := run_storeCells_at Try.prog g 0 44 (xs.flatMap encM) 0 cur w hgg (by simpa using hfit) hone
  refine ⟨w.setRow g (cur.toList.take 0 ++ xs.flatMap encM ++ cur.toList.drop (0 + (xs.flatMap encM).length)).toArray, ?_, ?_, setRow_kept _ _ _⟩
  · have hld : ∃ a c, v = .slice a m c ∧ (m = 0 ∨ ∃ b off, a = some ⟨b, off, none⟩ ∧ ∀ j u, (xs.flatMap encM)[j]? = some u → w.cell? ((⟨b, off, none⟩ : Addr).add j) = some u) := by
      obtain ⟨a, c, rfl, _, _, _, hel⟩ := hr
      refine ⟨a, c, by rw [hx], ?_⟩
      rcases Nat.eq_zero_or_pos m with h0 | h0
      · exact .inl h0
      · obtain ⟨b, off, rfl, _, hv⟩ := hel (by omega)
        refine .inr ⟨b, off, rfl, fun j u hu => ?_⟩
        have hj : j < m * 2 := by rw [← hlen]; exact (List.getElem?_eq_some_iff.1 hu).1
        obtain ⟨y, hy⟩ := getX (show j / 2 < xs.length by omega)
        have hz : j % 2 < (encM y).length := by rw [encM_len]; omega
        have h6 := flat_at encM_len hy (List.getElem?_eq_getElem hz)
        rw [show j / 2 * 2 + j % 2 = j by omega, hu] at h6
        injection h6 with h6
        have := hv (j / 2) y hy (j % 2) _ (List.getElem?_eq_getElem hz)
        have ea : (⟨b, off, none⟩ : Addr).add j = ⟨b, off + j, none⟩ := by unfold Addr.add; split <;> simp_all
        rw [ea, h6]
        rw [show off + j / 2 * 2 + j % 2 = off + j by omega] at this
        exact this
    obtain ⟨a, c, rfl, hz⟩ := hld
    rcases hz with h0 | ⟨b, off, rfl, hcell⟩
    · subst h0
      have hx0 : xs = [] := List.eq_nil_of_length_eq_zero hx
      subst hx0
      simp only [List.flatMap_nil, List.append_nil, List.length_nil, List.take_zero, List.nil_append, Nat.add_zero, List.drop_zero, Array.toArray_toList] at *
      rw [setRow_self w g cur _ _ hgg]
      cases a with
      | none => simp [Builtin.copy_, run_underlying Try.underlying31, Builtin.lenOf, Builtin.firstCells, sizeOf, typeInfo, hi, storeCells]
      | some a =>
        have hl := run_loadCells_list (P := Try.prog) w a [] (fun j v h => by simp at h)
        simp only [List.length_nil] at hl
        simp [Builtin.copy_, run_underlying Try.underlying31, Builtin.lenOf, Builtin.firstCells, sizeOf, typeInfo, hi, storeCells, hl]
    · have hl := run_loadCells_list (P := Try.prog) w ⟨b, off, none⟩ (xs.flatMap encM) hcell
      rw [hlen] at hl
      simp only [Nat.zero_add] at hst
      simp [Builtin.copy_, run_underlying Try.underlying31, Builtin.lenOf, Builtin.firstCells, sizeOf, typeInfo, hi, hz1, hl, hst, hx]
  · refine ⟨by rw [hlen], .inr ⟨g, cap, (cur.toList.take 0 ++ xs.flatMap encM ++ cur.toList.drop (0 + (xs.flatMap encM).length)).toArray, rfl, hg, ?_, hc, hm, ?_, ?_⟩⟩
    · exact _root_.Go.setRow_heap w g cur _ _ _ hgg
    · simp only [List.take_zero, List.nil_append, Nat.zero_add, List.size_toArray, List.length_append, List.length_drop, Array.length_toList]
      omega
    · simp only [List.take_zero, List.nil_append, Nat.zero_add]
      rw [List.take_append_of_le_length (by omega), List.take_of_length_le (by omega)]
end Go.Proofs.Ytbmkgnlfccigpab

namespace Go.Proofs.Ytbmkgnlfccigpab
set_option maxRecDepth 100000
open Go.ChangeShapes Go.WideShapes Go.ChangeAt Go.RowKit

/-- A state that is answered alone. -/
def StoP (w : World) (t : StS) (e : Ending) (w' : World) : Prop :=
  ∃ vv vm, e = .returned (.agg #[.int .i64 t.step, .int .i64 t.phase, .bool t.fresh, .bool t.done, vv, vm]) ∧ w'.ownsRow w.heap.size 44 2 vv t.vals.length (t.vals.flatMap encM) ∧ OwnLi w' w.heap.size vm t.mail ∧ Below w.heap.size w w'
/-- So many values are told, the others not yet. -/
def fstV (m i : Nat) : List Ml := List.replicate i (-1, -1) ++ List.replicate (m - i) (0, 0)
theorem fstV_len {m i : Nat} (h : i ≤ m) : (fstV m i).length = m := by simp [fstV]; omega
theorem fstV_zero (m : Nat) : fstV m 0 = List.replicate m (0, 0) := by simp [fstV]
theorem fstV_all (m : Nat) : fstV m m = List.replicate m (-1, -1) := by simp [fstV]
theorem fstV_set {m i : Nat} (h : i < m) : fstV m (i + 1) = (fstV m i).set i (-1, -1) := by
  unfold fstV
  rw [List.replicate_succ', List.append_assoc, show m - i = (m - (i + 1)) + 1 by omega, List.replicate_succ, List.set_append_right _ _ (by simp)]
  simp

set_option maxHeartbeats 2000000 in
set_option maxRecDepth 100000 in
theorem first_any (m : Nat) (w : World) (hm : m ≤ 200) :
    Calls Try.prog 17 #[.int .i64 m] w (StoP w (beginS m)) := by
  obtain ⟨bf, hbf⟩ : ∃ b, decide (0 < m) = b := ⟨_, rfl⟩
  obtain ⟨bd, hbd⟩ : ∃ b, decide (m = 0) = b := ⟨_, rfl⟩
  have td : ((m : Int) == 0) = bd := by
    rw [← hbd, Bool.eq_iff_iff]
    simp
  have HP : Hid (∀ (w' : World) vv vm, w'.ownsRow w.heap.size 44 2 vv m ((List.replicate m ((-1, -1) : Ml)).flatMap encM) → OwnLi w' w.heap.size vm (List.replicate m []) → Below w.heap.size w w' → StoP w (beginS m) (.returned (.agg #[.int .i64 0, .int .i64 0, .bool bf, .bool bd, vv, vm])) w') := fun w' vv vm h1 h2 h3 => by
    rw [← hbf, ← hbd]
    exact ⟨vv, vm, rfl, by simpa [beginS] using h1, h2, h3⟩
  generalize StoP w (beginS m) = P at *
  obtain ⟨W0, hW0⟩ : ∃ W0, W0 = (w.alloc (.cells #[.int .i64 0, .int .i64 0, .bool false, .bool false, .slice none 0 0, .slice none 0 0] 34)).alloc (.cells #[.int .i64 0, .int .i64 0, .bool bf, .bool bd, .slice none 0 0, .slice none 0 0] 34) := ⟨_, rfl⟩
  obtain ⟨Q0, T0, B0, s1, s2⟩ := boxes2 w #[.int .i64 0, .int .i64 0, .bool false, .bool false, .slice none 0 0, .slice none 0 0] #[.int .i64 0, .int .i64 0, .bool bf, .bool bd, .slice none 0 0, .slice none 0 0] 34 34 W0 hW0
  have BH : Hid (Below w.heap.size w W0) := B0
  have X0 : Hid (BX 34 W0 (w.heap.size + 1) #[.int .i64 0, .int .i64 0, .bool bf, .bool bd, .slice none 0 0, .slice none 0 0]) := T0
  have R0 : Hid (BX 34 W0 w.heap.size #[.int .i64 0, .int .i64 0, .bool false, .bool false, .slice none 0 0, .slice none 0 0]) := Q0
  clear Q0 T0 B0 hbd
  go_enter Try.func17, Try.ntmps17
  go_upto_region 2 with fail
  rw [← hW0]
  clear hW0
  apply Hid.cut
  case h =>
    intro HG
    refine region_lastF (S := fun _ => True) (by kernel_rfl) rfl (by kernel_rfl) (by kernel_rfl) ?_
    simp only [List.pop_toArray, List.dropLast_cons_cons, List.dropLast_singleton, List.size_toArray, List.length_cons, List.length_nil, Nat.reduceAdd]
    refine takeH (i := 0) (v := .int .i64 (m : Int)) (d := 10) rfl rfl (by kernel_rfl) (by kernel_rfl) (by kernel_rfl) (fun _ _ _ h => h) (by rfl) (fun V hV => by clear hV; go_simp) trivial ?_
    simp only [Act.put, List.setIfInBounds_toArray, List.set_cons_zero, List.set_cons_succ]
    refine takeH (i := 2) (v := .int .i64 (m : Int)) (d := 12) rfl rfl (by kernel_rfl) (by kernel_rfl) (by kernel_rfl) (fun _ _ _ h => h) (by rfl) (fun V hV => by clear hV; go_simp) trivial ?_
    simp only [Act.put, List.setIfInBounds_toArray, List.set_cons_zero, List.set_cons_succ]
    refine twoH (i := 1) (j := 3) rfl rfl (by kernel_rfl) rfl rfl ?wA ?wB
    case wA =>
      obtain ⟨X1, mk1, ov1, hb1⟩ := make_vals W0.drew m (by omega)
      have z1 : W0.drew.heap.size = W0.heap.size := rfl
      have k1 : Kept (fun k => k = (w.heap.size + 1)) W0 X1 := (Kept.refl _ W0).drew.trans (.of hb1)
      have x1 : BX 34 X1 (w.heap.size + 1) #[.int .i64 0, .int .i64 0, .bool bf, .bool bd, .slice none 0 0, .slice none 0 0] := X0.out.below ((Below.refl _ W0).drew.trans hb1) (by omega)
      refine op_run (d := 11) (v' := .slice (some ⟨W0.drew.heap.size, 0, none⟩) m m) (w' := X1) rfl (by go_simp) ⟨trivial, ?_⟩
      simp only [Act.put, List.setIfInBounds_toArray, List.set_cons_zero, List.set_cons_succ]
      refine takeH (i := 4) (v := .pointer (some ⟨(w.heap.size + 1), 4, none⟩)) (d := 14) rfl rfl (by kernel_rfl) (by kernel_rfl) (by kernel_rfl) (fun _ _ _ h => h) (by rfl) (fun V hV => by clear hV; go_simp) trivial ?_
      simp only [Act.put, List.setIfInBounds_toArray, List.set_cons_zero, List.set_cons_succ]
      refine twoH (i := 3) (j := 5) rfl rfl (by kernel_rfl) rfl rfl ?wA1 ?wA2
      case wA1 =>
        obtain ⟨X2, mk2, ot2, hb2⟩ := make_tbi X1 m (by omega)
        have k2 : Kept (fun k => k = (w.heap.size + 1)) W0 X2 := k1.trans (.of hb2)
        have x2 : BX 34 X2 (w.heap.size + 1) #[.int .i64 0, .int .i64 0, .bool bf, .bool bd, .slice none 0 0, .slice none 0 0] := x1.below hb2 x1.lt
        have v2 : X2.ownsRow W0.heap.size 44 2 (.slice (some ⟨W0.drew.heap.size, 0, none⟩) m m) m ((List.replicate m ((0, 0) : Ml)).flatMap encM) := own_below ov1 hb2 (Nat.le_refl _)
        refine op_run (d := 13) (v' := .slice (some ⟨X1.heap.size, 0, none⟩) m m) (w' := X2) rfl (by go_simp) ⟨trivial, ?_⟩
        simp only [Act.put, List.setIfInBounds_toArray, List.set_cons_zero, List.set_cons_succ]
        obtain ⟨⟨c0, c1, c2, c3, c4, c5⟩, e0, e1, e2, e3, e4, e5⟩ := x2.all6
        refine oneH (i := 5) rfl (by kernel_rfl) rfl (op_skip (w' := X2.setCell ⟨(w.heap.size + 1), 4, none⟩ (.slice (some ⟨W0.drew.heap.size, 0, none⟩) m m)) rfl (by go_simp) ⟨trivial, ?_⟩)
        clear c0 c1 c2 c3 c4 c5 e0 e1 e2 e3 e4 e5
        have x3 : BX 34 (X2.setCell ⟨(w.heap.size + 1), 4, none⟩ (.slice (some ⟨W0.drew.heap.size, 0, none⟩) m m)) (w.heap.size + 1) #[.int .i64 0, .int .i64 0, .bool bf, .bool bd, .slice (some ⟨W0.drew.heap.size, 0, none⟩) m m, .slice none 0 0] := x2.set 4 _
        have k3 : Kept (fun k => k = (w.heap.size + 1)) W0 (X2.setCell ⟨(w.heap.size + 1), 4, none⟩ (.slice (some ⟨W0.drew.heap.size, 0, none⟩) m m)) := k2.trans (Kept.box _ _ _ _)
        have v3 : (X2.setCell ⟨(w.heap.size + 1), 4, none⟩ (.slice (some ⟨W0.drew.heap.size, 0, none⟩) m m)).ownsRow W0.heap.size 44 2 (.slice (some ⟨W0.drew.heap.size, 0, none⟩) m m) m ((List.replicate m ((0, 0) : Ml)).flatMap encM) := own_off v2 x2 (by decide) (Kept.box _ _ _ _)
        have t3 : TbI (X2.setCell ⟨(w.heap.size + 1), 4, none⟩ (.slice (some ⟨W0.drew.heap.size, 0, none⟩) m m)) W0.heap.size X1.heap.size m (List.replicate m (.slice none 0 0)) (List.replicate m []) := (ot2.lower k1.size).off (Kept.box _ _ _ _) (fun k hk => by subst hk; exact ⟨_, _, _, x2, by decide, by decide⟩)
        generalize X2.setCell ⟨(w.heap.size + 1), 4, none⟩ (.slice (some ⟨W0.drew.heap.size, 0, none⟩) m m) = X3 at *
        refine takeH (i := 6) (v := .pointer (some ⟨(w.heap.size + 1), 5, none⟩)) (d := 15) rfl rfl (by kernel_rfl) (by kernel_rfl) (by kernel_rfl) (fun _ _ _ h => h) (by rfl) (fun V hV => by clear hV; go_simp) trivial ?_
        simp only [Act.put, List.setIfInBounds_toArray, List.set_cons_zero, List.set_cons_succ]
        refine wpAnyH_done (by kernel_rfl) ?_ _
        show Oper.wp _ _ _ _ _ _
        obtain ⟨⟨c0, c1, c2, c3, c4, c5⟩, e0, e1, e2, e3, e4, e5⟩ := x3.all6
        refine op_skip (w' := X3.setCell ⟨(w.heap.size + 1), 5, none⟩ (.slice (some ⟨X1.heap.size, 0, none⟩) m m)) rfl (by go_simp) ?_
        clear c0 c1 c2 c3 c4 c5 e0 e1 e2 e3 e4 e5
        have FX : Hid (BX 34 (X3.setCell ⟨(w.heap.size + 1), 5, none⟩ (.slice (some ⟨X1.heap.size, 0, none⟩) m m)) (w.heap.size + 1) #[.int .i64 0, .int .i64 0, .bool bf, .bool bd, .slice (some ⟨W0.drew.heap.size, 0, none⟩) m m, .slice (some ⟨X1.heap.size, 0, none⟩) m m]) := x3.set 5 _
        have FK : Hid (Kept (fun k => k = (w.heap.size + 1)) W0 (X3.setCell ⟨(w.heap.size + 1), 5, none⟩ (.slice (some ⟨X1.heap.size, 0, none⟩) m m))) := k3.trans (Kept.box _ _ _ _)
        have FV : Hid ((X3.setCell ⟨(w.heap.size + 1), 5, none⟩ (.slice (some ⟨X1.heap.size, 0, none⟩) m m)).ownsRow W0.heap.size 44 2 (.slice (some ⟨W0.drew.heap.size, 0, none⟩) m m) m ((List.replicate m ((0, 0) : Ml)).flatMap encM)) := own_off v3 x3 (by decide) (Kept.box _ _ _ _)
        have FT : Hid (TbI (X3.setCell ⟨(w.heap.size + 1), 5, none⟩ (.slice (some ⟨X1.heap.size, 0, none⟩) m m)) W0.heap.size X1.heap.size m (List.replicate m (.slice none 0 0)) (List.replicate m [])) := t3.off (Kept.box _ _ _ _) (fun k hk => by subst hk; exact ⟨_, _, _, x3, by decide, by decide⟩)
        clear x3 k3 v3 t3
        clear mk1 mk2 ov1 hb1 z1 k1 x1 ot2 hb2 k2 x2 v2
        generalize X3.setCell ⟨(w.heap.size + 1), 5, none⟩ (.slice (some ⟨X1.heap.size, 0, none⟩) m m) = XX at *
        generalize W0.drew.heap.size = g1 at *
        generalize X1.heap.size = g2 at *
        revert FT
        revert FV
        revert FK
        revert FX
        revert XX
        revert g2
        revert g1
        exact HG.out
      case wA2 =>
        obtain ⟨⟨c0, c1, c2, c3, c4, c5⟩, e0, e1, e2, e3, e4, e5⟩ := x1.all6
        refine op_skip (w' := X1.setCell ⟨(w.heap.size + 1), 4, none⟩ (.slice (some ⟨W0.drew.heap.size, 0, none⟩) m m)) rfl (by go_simp) ⟨trivial, ?_⟩
        clear c0 c1 c2 c3 c4 c5 e0 e1 e2 e3 e4 e5
        have x2 : BX 34 (X1.setCell ⟨(w.heap.size + 1), 4, none⟩ (.slice (some ⟨W0.drew.heap.size, 0, none⟩) m m)) (w.heap.size + 1) #[.int .i64 0, .int .i64 0, .bool bf, .bool bd, .slice (some ⟨W0.drew.heap.size, 0, none⟩) m m, .slice none 0 0] := x1.set 4 _
        have k2 : Kept (fun k => k = (w.heap.size + 1)) W0 (X1.setCell ⟨(w.heap.size + 1), 4, none⟩ (.slice (some ⟨W0.drew.heap.size, 0, none⟩) m m)) := k1.trans (Kept.box _ _ _ _)
        have v2 : (X1.setCell ⟨(w.heap.size + 1), 4, none⟩ (.slice (some ⟨W0.drew.heap.size, 0, none⟩) m m)).ownsRow W0.heap.size 44 2 (.slice (some ⟨W0.drew.heap.size, 0, none⟩) m m) m ((List.replicate m ((0, 0) : Ml)).flatMap encM) := own_off ov1 x1 (by decide) (Kept.box _ _ _ _)
        generalize X1.setCell ⟨(w.heap.size + 1), 4, none⟩ (.slice (some ⟨W0.drew.heap.size, 0, none⟩) m m) = X2 at *
        obtain ⟨X3, mk3, ot3, hb3⟩ := make_tbi X2 m (by omega)
        have x3 : BX 34 X3 (w.heap.size + 1) #[.int .i64 0, .int .i64 0, .bool bf, .bool bd, .slice (some ⟨W0.drew.heap.size, 0, none⟩) m m, .slice none 0 0] := x2.below hb3 x2.lt
        have k3 : Kept (fun k => k = (w.heap.size + 1)) W0 X3 := k2.trans (.of hb3)
        have v3 : X3.ownsRow W0.heap.size 44 2 (.slice (some ⟨W0.drew.heap.size, 0, none⟩) m m) m ((List.replicate m ((0, 0) : Ml)).flatMap encM) := own_below v2 hb3 (Nat.le_refl _)
        have t3 : TbI X3 W0.heap.size X2.heap.size m (List.replicate m (.slice none 0 0)) (List.replicate m []) := ot3.lower k2.size
        refine oneH (i := 3) rfl (by kernel_rfl) rfl (op_run (d := 13) (v' := .slice (some ⟨X2.heap.size, 0, none⟩) m m) (w' := X3) rfl (by go_simp) ⟨trivial, ?_⟩)
        simp only [Act.put, List.setIfInBounds_toArray, List.set_cons_zero, List.set_cons_succ]
        refine takeH (i := 6) (v := .pointer (some ⟨(w.heap.size + 1), 5, none⟩)) (d := 15) rfl rfl (by kernel_rfl) (by kernel_rfl) (by kernel_rfl) (fun _ _ _ h => h) (by rfl) (fun V hV => by clear hV; go_simp) trivial ?_
        simp only [Act.put, List.setIfInBounds_toArray, List.set_cons_zero, List.set_cons_succ]
        refine wpAnyH_done (by kernel_rfl) ?_ _
        show Oper.wp _ _ _ _ _ _
        obtain ⟨⟨c0, c1, c2, c3, c4, c5⟩, e0, e1, e2, e3, e4, e5⟩ := x3.all6
        refine op_skip (w' := X3.setCell ⟨(w.heap.size + 1), 5, none⟩ (.slice (some ⟨X2.heap.size, 0, none⟩) m m)) rfl (by go_simp) ?_
        clear c0 c1 c2 c3 c4 c5 e0 e1 e2 e3 e4 e5
        have FX : Hid (BX 34 (X3.setCell ⟨(w.heap.size + 1), 5, none⟩ (.slice (some ⟨X2.heap.size, 0, none⟩) m m)) (w.heap.size + 1) #[.int .i64 0, .int .i64 0, .bool bf, .bool bd, .slice (some ⟨W0.drew.heap.size, 0, none⟩) m m, .slice (some ⟨X2.heap.size, 0, none⟩) m m]) := x3.set 5 _
        have FK : Hid (Kept (fun k => k = (w.heap.size + 1)) W0 (X3.setCell ⟨(w.heap.size + 1), 5, none⟩ (.slice (some ⟨X2.heap.size, 0, none⟩) m m))) := k3.trans (Kept.box _ _ _ _)
        have FV : Hid ((X3.setCell ⟨(w.heap.size + 1), 5, none⟩ (.slice (some ⟨X2.heap.size, 0, none⟩) m m)).ownsRow W0.heap.size 44 2 (.slice (some ⟨W0.drew.heap.size, 0, none⟩) m m) m ((List.replicate m ((0, 0) : Ml)).flatMap encM)) := own_off v3 x3 (by decide) (Kept.box _ _ _ _)
        have FT : Hid (TbI (X3.setCell ⟨(w.heap.size + 1), 5, none⟩ (.slice (some ⟨X2.heap.size, 0, none⟩) m m)) W0.heap.size X2.heap.size m (List.replicate m (.slice none 0 0)) (List.replicate m [])) := t3.off (Kept.box _ _ _ _) (fun k hk => by subst hk; exact ⟨_, _, _, x3, by decide, by decide⟩)
        exact HG.out _ _ _ FX FK FV FT
    case wB =>
      obtain ⟨X1, mk1, ot1, hb1⟩ := make_tbi W0.drew m (by omega)
      have z1 : W0.drew.heap.size = W0.heap.size := rfl
      have k1 : Kept (fun k => k = (w.heap.size + 1)) W0 X1 := (Kept.refl _ W0).drew.trans (.of hb1)
      have x1 : BX 34 X1 (w.heap.size + 1) #[.int .i64 0, .int .i64 0, .bool bf, .bool bd, .slice none 0 0, .slice none 0 0] := X0.out.below ((Below.refl _ W0).drew.trans hb1) (by omega)
      refine op_run (d := 13) (v' := .slice (some ⟨W0.drew.heap.size, 0, none⟩) m m) (w' := X1) rfl (by go_simp) ⟨trivial, ?_⟩
      simp only [Act.put, List.setIfInBounds_toArray, List.set_cons_zero, List.set_cons_succ]
      obtain ⟨X2, mk2, ov2, hb2⟩ := make_vals X1 m (by omega)
      have k2 : Kept (fun k => k = (w.heap.size + 1)) W0 X2 := k1.trans (.of hb2)
      have x2 : BX 34 X2 (w.heap.size + 1) #[.int .i64 0, .int .i64 0, .bool bf, .bool bd, .slice none 0 0, .slice none 0 0] := x1.below hb2 x1.lt
      have t2 : TbI X2 W0.heap.size W0.drew.heap.size m (List.replicate m (.slice none 0 0)) (List.replicate m []) := ot1.kept (.of hb2)
      refine oneH (i := 1) rfl (by kernel_rfl) rfl (op_run (d := 11) (v' := .slice (some ⟨X1.heap.size, 0, none⟩) m m) (w' := X2) rfl (by go_simp) ⟨trivial, ?_⟩)
      simp only [Act.put, List.setIfInBounds_toArray, List.set_cons_zero, List.set_cons_succ]
      refine takeH (i := 4) (v := .pointer (some ⟨(w.heap.size + 1), 4, none⟩)) (d := 14) rfl rfl (by kernel_rfl) (by kernel_rfl) (by kernel_rfl) (fun _ _ _ h => h) (by rfl) (fun V hV => by clear hV; go_simp) trivial ?_
      simp only [Act.put, List.setIfInBounds_toArray, List.set_cons_zero, List.set_cons_succ]
      obtain ⟨⟨c0, c1, c2, c3, c4, c5⟩, e0, e1, e2, e3, e4, e5⟩ := x2.all6
      refine oneH (i := 5) rfl (by kernel_rfl) rfl (op_skip (w' := X2.setCell ⟨(w.heap.size + 1), 4, none⟩ (.slice (some ⟨X1.heap.size, 0, none⟩) m m)) rfl (by go_simp) ⟨trivial, ?_⟩)
      clear c0 c1 c2 c3 c4 c5 e0 e1 e2 e3 e4 e5
      have x3 : BX 34 (X2.setCell ⟨(w.heap.size + 1), 4, none⟩ (.slice (some ⟨X1.heap.size, 0, none⟩) m m)) (w.heap.size + 1) #[.int .i64 0, .int .i64 0, .bool bf, .bool bd, .slice (some ⟨X1.heap.size, 0, none⟩) m m, .slice none 0 0] := x2.set 4 _
      have k3 : Kept (fun k => k = (w.heap.size + 1)) W0 (X2.setCell ⟨(w.heap.size + 1), 4, none⟩ (.slice (some ⟨X1.heap.size, 0, none⟩) m m)) := k2.trans (Kept.box _ _ _ _)
      have v3 : (X2.setCell ⟨(w.heap.size + 1), 4, none⟩ (.slice (some ⟨X1.heap.size, 0, none⟩) m m)).ownsRow W0.heap.size 44 2 (.slice (some ⟨X1.heap.size, 0, none⟩) m m) m ((List.replicate m ((0, 0) : Ml)).flatMap encM) := own_off (own_lower ov2 k1.size) x2 (by decide) (Kept.box _ _ _ _)
      have t3 : TbI (X2.setCell ⟨(w.heap.size + 1), 4, none⟩ (.slice (some ⟨X1.heap.size, 0, none⟩) m m)) W0.heap.size W0.drew.heap.size m (List.replicate m (.slice none 0 0)) (List.replicate m []) := t2.off (Kept.box _ _ _ _) (fun k hk => by subst hk; exact ⟨_, _, _, x2, by decide, by decide⟩)
      generalize X2.setCell ⟨(w.heap.size + 1), 4, none⟩ (.slice (some ⟨X1.heap.size, 0, none⟩) m m) = X3 at *
      refine takeH (i := 6) (v := .pointer (some ⟨(w.heap.size + 1), 5, none⟩)) (d := 15) rfl rfl (by kernel_rfl) (by kernel_rfl) (by kernel_rfl) (fun _ _ _ h => h) (by rfl) (fun V hV => by clear hV; go_simp) trivial ?_
      simp only [Act.put, List.setIfInBounds_toArray, List.set_cons_zero, List.set_cons_succ]
      refine wpAnyH_done (by kernel_rfl) ?_ _
      show Oper.wp _ _ _ _ _ _
      obtain ⟨⟨c0, c1, c2, c3, c4, c5⟩, e0, e1, e2, e3, e4, e5⟩ := x3.all6
      refine op_skip (w' := X3.setCell ⟨(w.heap.size + 1), 5, none⟩ (.slice (some ⟨W0.drew.heap.size, 0, none⟩) m m)) rfl (by go_simp) ?_
      clear c0 c1 c2 c3 c4 c5 e0 e1 e2 e3 e4 e5
      have FX : Hid (BX 34 (X3.setCell ⟨(w.heap.size + 1), 5, none⟩ (.slice (some ⟨W0.drew.heap.size, 0, none⟩) m m)) (w.heap.size + 1) #[.int .i64 0, .int .i64 0, .bool bf, .bool bd, .slice (some ⟨X1.heap.size, 0, none⟩) m m, .slice (some ⟨W0.drew.heap.size, 0, none⟩) m m]) := x3.set 5 _
      have FK : Hid (Kept (fun k => k = (w.heap.size + 1)) W0 (X3.setCell ⟨(w.heap.size + 1), 5, none⟩ (.slice (some ⟨W0.drew.heap.size, 0, none⟩) m m))) := k3.trans (Kept.box _ _ _ _)
      have FV : Hid ((X3.setCell ⟨(w.heap.size + 1), 5, none⟩ (.slice (some ⟨W0.drew.heap.size, 0, none⟩) m m)).ownsRow W0.heap.size 44 2 (.slice (some ⟨X1.heap.size, 0, none⟩) m m) m ((List.replicate m ((0, 0) : Ml)).flatMap encM)) := own_off v3 x3 (by decide) (Kept.box _ _ _ _)
      have FT : Hid (TbI (X3.setCell ⟨(w.heap.size + 1), 5, none⟩ (.slice (some ⟨W0.drew.heap.size, 0, none⟩) m m)) W0.heap.size W0.drew.heap.size m (List.replicate m (.slice none 0 0)) (List.replicate m [])) := t3.off (Kept.box _ _ _ _) (fun k hk => by subst hk; exact ⟨_, _, _, x3, by decide, by decide⟩)
      exact HG.out _ _ _ FX FK FV FT
  case g =>
    intro g1 g2 X FX FK FV FT
    have hx := FX.out
    obtain ⟨⟨c0, c1, c2, c3, c4, c5⟩, e0, e1, e2, e3, e4, e5⟩ := hx.all6
    have hbt : Hid (Below w.heap.size w X) := BH.out.trans (FK.out.below (by omega) (fun k hk => by omega))
    have hg1 := FV.out.lt g1 rfl
    have FV0 : Hid (X.ownsRow W0.heap.size 44 2 (.slice (some ⟨g1, 0, none⟩) m m) m ((fstV m 0).flatMap encM)) := by
      show World.ownsRow _ _ _ _ _ _ _
      rw [fstV_zero]; exact FV.out
    clear FV hx
    go_wp2_with fail
    clear c0 c1 c2 c3 c4 c5 e0 e1 e2 e3 e4 e5
    go_loopw [19] (fun i wr => ∃ j : Nat, j ≤ m ∧ i = .int .i64 j ∧ Kept (fun k => k = w.heap.size + 1 ∨ k = g1) W0 wr ∧ BX 34 wr (w.heap.size + 1) #[.int .i64 0, .int .i64 0, .bool bf, .bool bd, .slice (some ⟨g1, 0, none⟩) m m, .slice (some ⟨g2, 0, none⟩) m m] ∧ wr.ownsRow W0.heap.size 44 2 (.slice (some ⟨g1, 0, none⟩) m m) m ((fstV m j).flatMap encM) ∧ TbI wr W0.heap.size g2 m (List.replicate m (.slice none 0 0)) (List.replicate m [])) (fun i _ => m - (intOf i).toNat)
    case atStart => exact ⟨0, by omega, rfl, FK.out.mono (fun k hk => .inl hk), FX.out, FV0.out, FT.out⟩
    case round =>
      obtain ⟨j, hj, rfl, hk, hx, hv, ht⟩ := hrel
      have KB : Hid (Kept (fun k => k = w.heap.size + 1 ∨ k = g1) W0 wr) := hk
      have XB : Hid (BX 34 wr (w.heap.size + 1) #[.int .i64 0, .int .i64 0, .bool bf, .bool bd, .slice (some ⟨g1, 0, none⟩) m m, .slice (some ⟨g2, 0, none⟩) m m]) := hx
      have VB : Hid (wr.ownsRow W0.heap.size 44 2 (.slice (some ⟨g1, 0, none⟩) m m) m ((fstV m j).flatMap encM)) := hv
      have TB : Hid (TbI wr W0.heap.size g2 m (List.replicate m (.slice none 0 0)) (List.replicate m [])) := ht
      obtain ⟨⟨c0, c1, c2, c3, c4, c5⟩, _⟩ := hx.all6
      clear hk hx hv ht
      by_cases hlt : j < m
      · have p0 : (0 : Int) ≤ (j : Int) := by omega
        have p1 : (j : Int) < (m : Int) := by omega
        obtain ⟨cur, hcur⟩ : ∃ cur, wr.heap[g1]? = some (.cells cur 44 (0, 0)) := by
          rcases VB.out.2 with ⟨hv, _⟩ | ⟨g3, c3, cur, hv, _, hgg, _⟩
          · cases hv
          · injection hv with hv
            injection hv with hv
            injection hv with hv
            subst hv
            exact ⟨cur, hgg⟩
        obtain ⟨x, hx⟩ := getX (show j < (fstV m j).length by rw [fstV_len hj]; exact hlt)
        obtain ⟨d0, d1⟩ := own_atV VB.out hx
        have f0 := frozenK VB.out (j * 2)
        have f1 := frozenK VB.out (j * 2 + 1)
        have VN : Hid ((putV wr g1 (j * 2) (-1, -1)).ownsRow W0.heap.size 44 2 (.slice (some ⟨g1, 0, none⟩) m m) m ((fstV m (j + 1)).flatMap encM)) := by
          show World.ownsRow _ _ _ _ _ _ _
          rw [fstV_set hlt]; exact own_putV VB.out (by rw [fstV_len hj]; exact hlt) _
        have KN : Hid (Kept (fun k => k = w.heap.size + 1 ∨ k = g1) W0 (putV wr g1 (j * 2) (-1, -1))) := KB.out.trans ((kept_putV wr g1 (j * 2) (-1, -1)).mono fun k hk => .inr hk)
        have XN : Hid (BX 34 (putV wr g1 (j * 2) (-1, -1)) (w.heap.size + 1) #[.int .i64 0, .int .i64 0, .bool bf, .bool bd, .slice (some ⟨g1, 0, none⟩) m m, .slice (some ⟨g2, 0, none⟩) m m]) := XB.out.kept (kept_putV wr g1 (j * 2) (-1, -1)) (by omega)
        have TN : Hid (TbI (putV wr g1 (j * 2) (-1, -1)) W0.heap.size g2 m (List.replicate m (.slice none 0 0)) (List.replicate m [])) := TB.out.off (kept_putV wr g1 (j * 2) (-1, -1)) (fun k hk => by subst hk; exact ⟨_, _, _, hcur, by decide, by decide⟩)
        clear hx hcur cur
        unfold putV at VN KN XN TN
        go_wp2_with fail
        go_roundw
        case rel => exact ⟨j + 1, by omega, by go_num, KN.out, XN.out, VN.out, TN.out⟩
        case measure => simp [intOf]; omega
      · have ej : j = m := by omega
        have VE : Hid (wr.ownsRow W0.heap.size 44 2 (.slice (some ⟨g1, 0, none⟩) m m) m ((List.replicate m ((-1, -1) : Ml)).flatMap encM)) := by
          have := VB.out
          rw [ej, fstV_all] at this
          exact this
        have Z0 : BX 34 wr w.heap.size #[.int .i64 0, .int .i64 0, .bool false, .bool false, .slice none 0 0, .slice none 0 0] := R0.out.kept KB.out (by omega)
        have RX : Hid (BX 34 (put6 wr w.heap.size (.int .i64 0) (.int .i64 0) (.bool bf) (.bool bd) (.slice (some ⟨g1, 0, none⟩) m m) (.slice (some ⟨g2, 0, none⟩) m m)) w.heap.size #[.int .i64 0, .int .i64 0, .bool bf, .bool bd, .slice (some ⟨g1, 0, none⟩) m m, .slice (some ⟨g2, 0, none⟩) m m]) := Z0.put6
        have HE : Hid (P (.returned (.agg #[.int .i64 0, .int .i64 0, .bool bf, .bool bd, .slice (some ⟨g1, 0, none⟩) m m, .slice (some ⟨g2, 0, none⟩) m m])) (put6 wr w.heap.size (.int .i64 0) (.int .i64 0) (.bool bf) (.bool bd) (.slice (some ⟨g1, 0, none⟩) m m) (.slice (some ⟨g2, 0, none⟩) m m))) := by
          refine HP.out _ _ _ ?_ ?_ ?_
          · exact own_lower (own_off VE.out Z0 (by decide) (kept_put6 wr w.heap.size _ _ _ _ _ _)) (by omega)
          · exact (TB.out.own.off Z0 (by decide) (by decide) (kept_put6 wr w.heap.size _ _ _ _ _ _)).lower (by omega)
          · exact below_put6 (BH.out.trans (KB.out.below (by omega) (fun k hk => by omega))) (Nat.le_refl _) Z0.lt _ _ _ _ _ _
        obtain ⟨⟨d0, d1, d2, d3, d4, d5⟩, e0, e1, e2, e3, e4, e5⟩ := Z0.all6
        clear Z0 ej
        go_wp2_with fail
        obtain ⟨⟨r0, r1, r2, r3, r4, r5⟩, _⟩ := RX.out.all6
        unfold put6 at r0 r1 r2 r3 r4 r5
        exact bodyPost_ret (v := .agg #[.int .i64 0, .int .i64 0, .bool bf, .bool bd, .slice (some ⟨g1, 0, none⟩) m m, .slice (some ⟨g2, 0, none⟩) m m]) (by simp [results, Try.results17, go_sem, r0, r1, r2, r3, r4, r5]) rfl HE.out
end Go.Proofs.Ytbmkgnlfccigpab

namespace Go.Proofs.Ytbmkgnlfccigpab
set_option maxRecDepth 100000
open Go.ChangeShapes Go.WideShapes Go.ChangeAt Go.RowKit

set_option maxHeartbeats 2000000 in
set_option maxRecDepth 100000 in
theorem again_any (step phase : Int) (vs : List Ml) (vv vm : Value) (w : World) (hvm : ∃ a b c, vm = .slice a b c) (hv : MlR w vv vs) (hl : vs.length ≤ 200) :
    Calls Try.prog 26 #[.agg #[.int .i64 step, .int .i64 phase, .bool false, .bool true, vv, vm]] w (StoP w ⟨step, phase, false, true, vs, List.replicate vs.length []⟩) := by
  obtain ⟨ga, gb, gc, rfl⟩ := hvm
  generalize hvmx : Value.slice ga gb gc = vm
  have hone : vm.oneCell' = true := by rw [← hvmx]; rfl
  have HV : Hid (MlR w vv vs) := hv
  obtain ⟨va, vc, rfl, hvc, hvm, _, _⟩ := hv
  unfold maxLen at hvm
  have HP : Hid (∀ (w' : World) u1 u2, w'.ownsRow w.heap.size 44 2 u1 vs.length (vs.flatMap encM) → OwnLi w' w.heap.size u2 (List.replicate vs.length []) → Below w.heap.size w w' → StoP w ⟨step, phase, false, true, vs, List.replicate vs.length []⟩ (.returned (.agg #[.int .i64 step, .int .i64 phase, .bool false, .bool true, u1, u2])) w') := fun w' u1 u2 h1 h2 h3 => ⟨u1, u2, rfl, h1, h2, h3⟩
  generalize StoP w ⟨step, phase, false, true, vs, List.replicate vs.length []⟩ = P at *
  obtain ⟨W0, hW0⟩ : ∃ W0, W0 = (w.alloc (.cells #[.int .i64 step, .int .i64 phase, .bool false, .bool true, .slice va vs.length vc, vm] 34)).alloc (.cells #[.int .i64 0, .int .i64 0, .bool false, .bool false, .slice none 0 0, .slice none 0 0] 34) := ⟨_, rfl⟩
  obtain ⟨Q0, T0, B0, s1, s2⟩ := boxes2 w #[.int .i64 step, .int .i64 phase, .bool false, .bool true, .slice va vs.length vc, vm] #[.int .i64 0, .int .i64 0, .bool false, .bool false, .slice none 0 0, .slice none 0 0] 34 34 W0 hW0
  have BH : Hid (Below w.heap.size w W0) := B0
  have Z0 : Hid (BX 34 W0 (w.heap.size + 1) #[.int .i64 0, .int .i64 0, .bool false, .bool false, .slice none 0 0, .slice none 0 0]) := T0
  have X0 : Hid (BX 34 W0 w.heap.size #[.int .i64 step, .int .i64 phase, .bool false, .bool true, .slice va vs.length vc, vm]) := Q0
  obtain ⟨⟨c0, c1, c2, c3, c4, c5⟩, _⟩ := Q0.all6
  obtain ⟨w1, mk, ov, hb1⟩ := make_vals W0 vs.length (by omega)
  have x1 : BX 34 w1 w.heap.size #[.int .i64 step, .int .i64 phase, .bool false, .bool true, .slice va vs.length vc, vm] := Q0.below hb1 (by omega)
  have hr1 : MlR w1 (.slice va vs.length vc) vs := HV.out.below (B0.trans (hb1.mono (by omega))) (Nat.le_refl _)
  obtain ⟨w2, hcp, ov2, kp2⟩ := copy_vals 3 ov hr1 rfl
  obtain ⟨g1, hg1⟩ : ∃ g1, W0.heap.size = g1 := ⟨_, rfl⟩
  have hgl : w.heap.size + 2 ≤ g1 := by omega
  have K2 : Hid (Kept (fun k => k = g1) W0 w2) := (Kept.of hb1).trans (kp2.mono fun k hk => hk.trans hg1)
  have V2 : Hid (w2.ownsRow W0.heap.size 44 2 (.slice (some ⟨g1, 0, none⟩) vs.length vs.length) vs.length (vs.flatMap encM)) := by
    have := ov2
    rw [hg1] at this ⊢
    exact this
  have KEEP : Hid (∀ V, Kept (fun k => k = g1) W0 V → (V.cell? ⟨w.heap.size, 0, none⟩ = some (.int .i64 step) ∧ V.cell? ⟨w.heap.size, 1, none⟩ = some (.int .i64 phase))) := fun V hV => by
    obtain ⟨⟨c0, c1, c2, c3, c4, c5⟩, _⟩ := (X0.out.kept hV (by omega)).all6
    exact ⟨c0, c1⟩
  obtain ⟨⟨d0, d1, d2, d3, d4, d5⟩, _⟩ := x1.all6
  clear Q0 T0 B0 ov hb1 x1 hr1 ov2 kp2
  rw [hg1] at mk hcp
  go_enter Try.func26, Try.ntmps26
  go_upto_region 1 with fail
  rw [← hW0]
  clear hW0
  go_upto_region 2 with fail
  go_upto_region 3 with (at_builtin; refine Lib.wpList_copy_run _ rfl _ _ 31 31 rfl _ _ rfl rfl hcp ?_)
  clear c0 c1 c2 c3 c4 c5 d0 d1 d2 d3 d4 d5 mk hcp
  have HS0 : Hid (w2.drew.cell? ⟨w.heap.size, 0, none⟩ = some (.int .i64 step) ∧ w2.drew.cell? ⟨w.heap.size, 1, none⟩ = some (.int .i64 phase)) := KEEP.out w2.drew (K2.out.trans (Kept.refl _ w2).drew)
  refine region_lastF (S := fun V => (V.cell? ⟨w.heap.size, 0, none⟩ = some (.int .i64 step) ∧ V.cell? ⟨w.heap.size, 1, none⟩ = some (.int .i64 phase))) (by kernel_rfl) rfl (by kernel_rfl) (by kernel_rfl) ?_
  simp only [List.pop_toArray, List.dropLast_cons_cons, List.dropLast_singleton, List.size_toArray, List.length_cons, List.length_nil, Nat.reduceAdd]
  refine takeH (i := 0) (v := .pointer (some ⟨w.heap.size, 0, none⟩)) (d := 12) rfl rfl (by kernel_rfl) (by kernel_rfl) (by kernel_rfl) (fun _ _ _ h => h) (by rfl) (fun V hV => by obtain ⟨v1, v2⟩ := hV; go_simp) HS0.out ?_
  simp only [Act.put, List.setIfInBounds_toArray, List.set_cons_zero, List.set_cons_succ]
  refine takeH (i := 1) (v := .int .i64 step) (d := 13) rfl rfl (by kernel_rfl) (by kernel_rfl) (by kernel_rfl) (fun _ _ _ h => h) (by rfl) (fun V hV => by obtain ⟨v1, v2⟩ := hV; go_simp) HS0.out ?_
  simp only [Act.put, List.setIfInBounds_toArray, List.set_cons_zero, List.set_cons_succ]
  refine takeH (i := 2) (v := .pointer (some ⟨w.heap.size, 1, none⟩)) (d := 14) rfl rfl (by kernel_rfl) (by kernel_rfl) (by kernel_rfl) (fun _ _ _ h => h) (by rfl) (fun V hV => by obtain ⟨v1, v2⟩ := hV; go_simp) HS0.out ?_
  simp only [Act.put, List.setIfInBounds_toArray, List.set_cons_zero, List.set_cons_succ]
  refine takeH (i := 3) (v := .int .i64 phase) (d := 15) rfl rfl (by kernel_rfl) (by kernel_rfl) (by kernel_rfl) (fun _ _ _ h => h) (by rfl) (fun V hV => by obtain ⟨v1, v2⟩ := hV; go_simp) HS0.out ?_
  simp only [Act.put, List.setIfInBounds_toArray, List.set_cons_zero, List.set_cons_succ]
  refine takeH (i := 4) (v := .slice (some ⟨g1, 0, none⟩) vs.length vs.length) (d := 16) rfl rfl (by kernel_rfl) (by kernel_rfl) (by kernel_rfl) (fun _ _ _ h => h) (by rfl) (fun V hV => by obtain ⟨v1, v2⟩ := hV; go_simp) HS0.out ?_
  simp only [Act.put, List.setIfInBounds_toArray, List.set_cons_zero, List.set_cons_succ]
  refine takeH (i := 5) (v := .slice (some ⟨g1, 0, none⟩) vs.length vs.length) (d := 17) rfl rfl (by kernel_rfl) (by kernel_rfl) (by kernel_rfl) (fun _ _ _ h => h) (by rfl) (fun V hV => by obtain ⟨v1, v2⟩ := hV; go_simp) HS0.out ?_
  simp only [Act.put, List.setIfInBounds_toArray, List.set_cons_zero, List.set_cons_succ]
  refine takeH (i := 6) (v := .int .i64 (vs.length : Int)) (d := 18) rfl rfl (by kernel_rfl) (by kernel_rfl) (by kernel_rfl) (fun _ _ _ h => h) (by rfl) (fun V hV => by obtain ⟨v1, v2⟩ := hV; go_simp) HS0.out ?_
  simp only [Act.put, List.setIfInBounds_toArray, List.set_cons_zero, List.set_cons_succ]
  obtain ⟨X1, mk1, ot1, hb1⟩ := make_tbi w2.drew vs.length (by omega)
  have k1 : Kept (fun k => k = g1) W0 X1 := K2.out.trans ((Kept.refl _ w2).drew.trans (.of hb1))
  have HS1 : Hid (X1.cell? ⟨w.heap.size, 0, none⟩ = some (.int .i64 step) ∧ X1.cell? ⟨w.heap.size, 1, none⟩ = some (.int .i64 phase)) := KEEP.out X1 k1
  refine oneH (i := 7) rfl (by kernel_rfl) rfl (op_run (d := 19) (v' := .slice (some ⟨w2.drew.heap.size, 0, none⟩) vs.length vs.length) (w' := X1) rfl (by go_simp) ⟨HS1.out, ?_⟩)
  simp only [Act.put, List.setIfInBounds_toArray, List.set_cons_zero, List.set_cons_succ]
  refine takeH (i := 8) (v := .agg #[.int .i64 step, .int .i64 phase, .bool false, .bool true, .slice (some ⟨g1, 0, none⟩) vs.length vs.length, .slice (some ⟨w2.drew.heap.size, 0, none⟩) vs.length vs.length]) (d := 20) rfl rfl (by kernel_rfl) (by kernel_rfl) (by kernel_rfl) (fun _ _ _ h => h) (by rfl) (fun V hV => by obtain ⟨v1, v2⟩ := hV; go_simp) HS1.out ?_
  simp only [Act.put, List.setIfInBounds_toArray, List.set_cons_zero, List.set_cons_succ]
  refine wpAnyH_done (by kernel_rfl) ?_ _
  show Oper.wp _ _ _ _ _ _
  have z1 : BX 34 X1 (w.heap.size + 1) #[.int .i64 0, .int .i64 0, .bool false, .bool false, .slice none 0 0, .slice none 0 0] := Z0.out.kept k1 (by omega)
  have o1 : X1.ownsRow W0.heap.size 44 2 (.slice (some ⟨g1, 0, none⟩) vs.length vs.length) vs.length (vs.flatMap encM) := own_below V2.out ((Below.refl _ w2).drew.trans hb1) (Nat.le_refl _)
  obtain ⟨⟨d0, d1, d2, d3, d4, d5⟩, e0, e1, e2, e3, e4, e5⟩ := z1.all6
  refine op_skip (w' := put6 X1 (w.heap.size + 1) (.int .i64 step) (.int .i64 phase) (.bool false) (.bool true) (.slice (some ⟨g1, 0, none⟩) vs.length vs.length) (.slice (some ⟨w2.drew.heap.size, 0, none⟩) vs.length vs.length)) rfl (by unfold put6; go_simp) ?_
  have RX : Hid (BX 34 (put6 X1 (w.heap.size + 1) (.int .i64 step) (.int .i64 phase) (.bool false) (.bool true) (.slice (some ⟨g1, 0, none⟩) vs.length vs.length) (.slice (some ⟨w2.drew.heap.size, 0, none⟩) vs.length vs.length)) (w.heap.size + 1) #[.int .i64 step, .int .i64 phase, .bool false, .bool true, .slice (some ⟨g1, 0, none⟩) vs.length vs.length, .slice (some ⟨w2.drew.heap.size, 0, none⟩) vs.length vs.length]) := z1.put6
  have HE : Hid (P (.returned (.agg #[.int .i64 step, .int .i64 phase, .bool false, .bool true, .slice (some ⟨g1, 0, none⟩) vs.length vs.length, .slice (some ⟨w2.drew.heap.size, 0, none⟩) vs.length vs.length])) (put6 X1 (w.heap.size + 1) (.int .i64 step) (.int .i64 phase) (.bool false) (.bool true) (.slice (some ⟨g1, 0, none⟩) vs.length vs.length) (.slice (some ⟨w2.drew.heap.size, 0, none⟩) vs.length vs.length))) := by
    refine HP.out _ _ _ ?_ ?_ ?_
    · exact own_lower (own_off o1 z1 (by decide) (kept_put6 X1 (w.heap.size + 1) _ _ _ _ _ _)) (by omega)
    · have hz : w2.drew.heap.size = w2.heap.size := rfl
      have hz2 := K2.out.size
      exact (ot1.own.off z1 (by decide) (by decide) (kept_put6 X1 (w.heap.size + 1) _ _ _ _ _ _)).lower (by omega)
    · exact below_put6 (BH.out.trans (k1.below (by omega) (fun k hk => by omega))) (by omega) z1.lt _ _ _ _ _ _
  clear d0 d1 d2 d3 d4 d5 e0 e1 e2 e3 e4 e5 z1 o1 k1 HS1 ot1 hb1 mk1
  generalize put6 X1 (w.heap.size + 1) (.int .i64 step) (.int .i64 phase) (.bool false) (.bool true) (.slice (some ⟨g1, 0, none⟩) vs.length vs.length) (.slice (some ⟨w2.drew.heap.size, 0, none⟩) vs.length vs.length) = X at *
  go_wp2_with fail
  obtain ⟨⟨r0, r1, r2, r3, r4, r5⟩, _⟩ := RX.out.all6
  exact bodyPost_ret (v := .agg #[.int .i64 step, .int .i64 phase, .bool false, .bool true, .slice (some ⟨g1, 0, none⟩) vs.length vs.length, .slice (some ⟨w2.drew.heap.size, 0, none⟩) vs.length vs.length]) (by simp [results, Try.results26, go_sem, r0, r1, r2, r3, r4, r5]) rfl HE.out
end Go.Proofs.Ytbmkgnlfccigpab

namespace Go.Proofs.Ytbmkgnlfccigpab
set_option maxRecDepth 100000
open Go.ChangeShapes Go.WideShapes Go.ChangeAt Go.RowKit

/-- No mail: lists of nothing. -/
theorem mail_none {ms : List (List Int)} (h : ¬ 0 < manyL ms) : ms = List.replicate ms.length [] := by
  refine List.ext_getElem? fun i => ?_
  rcases Nat.lt_or_ge i ms.length with hi | hi
  · rw [List.getElem?_eq_getElem hi, List.getElem?_replicate, if_pos hi]
    congr 1
    exact manyL_zero.1 (by omega) _ (List.getElem_mem hi)
  · rw [List.getElem?_eq_none hi, List.getElem?_eq_none (by simpa using hi)]
theorem job_of {k p : Int} {j : Jb} (h : jobF k p = some j) : k = Jb.k j ∧ p = Jb.p j := by
  rcases jobF_cases k p with hn | ⟨j', h1, h2⟩
  · rw [hn.1] at h; cases h
  · have h3 := jobF_of j'
    rw [← h1, ← h2, h] at h3
    injection h3 with h3
    subst h3
    exact ⟨h1, h2⟩

set_option maxHeartbeats 4000000 in
set_option maxRecDepth 100000 in
theorem after_any (v : Value) (es : List Ed) (n k s : Int) (T : StS) (vv vm : Value) (w : World) (h : EdR w v es) (hv : MlR w vv T.vals) (hm : LiR w vm T.mail) (hje : jobE n es k s = 0) (hmay : mayR n.toNat k T = true) :
    Calls Try.prog 19 #[.agg #[.int .i64 n, v, .int .i64 k, .int .i64 s], .agg #[.int .i64 T.step, .int .i64 T.phase, .bool T.fresh, .bool T.done, vv, vm]] w (StaP w (folE n es k s T)) := by
  have HR : Hid (EdR w v es) := h
  obtain ⟨a, cap, rfl, _, _, _, _⟩ := h
  have HV : Hid (MlR w vv T.vals) := hv
  have HM : Hid (LiR w vm T.mail) := hm
  obtain ⟨va, vc, rfl, hvc, hvm, _, _⟩ := hv
  obtain ⟨ma, mc, rfl, hmc, hmm, _⟩ := hm
  obtain ⟨hf, hk3, _⟩ := jobE_zero hje
  obtain ⟨hn0, hn1, hel, hed⟩ := fault_ok hf
  obtain ⟨m, rfl⟩ : ∃ m : Nat, n = m := ⟨n.toNat, by omega⟩
  rw [Int.toNat_natCast] at hmay
  obtain ⟨j, hj, hI⟩ := mayR_iff.1 hmay
  obtain ⟨hkj, hpj⟩ := job_of hj
  have HG : InG m es := fun e he => by have := in_of_out (hed e he); exact ⟨this.1, this.2.1, this.2.2.1, this.2.2.2.1, this.2.2.2.2.1⟩
  have HDN : Hid (T.done = true → folE m es k s T = (0, T) ∧ T.fresh = false ∧ T.mail = List.replicate T.vals.length []) := fun hd => by
    refine ⟨folE_done hje (by rw [Int.toNat_natCast]; exact hmay) hd, ?_, ?_⟩
    · cases hfr : T.fresh
      · rfl
      · exact absurd ⟨hfr, hd⟩ hI.fd
    · have h0 : ¬ 0 < manyL T.mail := fun g => by have := (hI.no g).2; rw [hd] at this; cases this
      have := mail_none h0
      rw [hI.lm] at this
      rw [hI.lv]
      exact this
  have HFU : Hid (T.done = false → 100000 ≤ T.step → folE m es k s T = (10, st0)) := fun h1 h2 => folE_full hje (by rw [Int.toNat_natCast]; exact hmay) h1 h2
  have HOV : Hid (T.done = false → ¬ 100000 ≤ T.step → overR j (rndV j s T) es = true → folE m es k s T = (6, st0)) := fun h1 h2 h3 => folE_over hje (by rw [Int.toNat_natCast]; exact hmay) h1 h2 hj h3
  have HGO : Hid (T.done = false → ¬ 100000 ≤ T.step → overR j (rndV j s T) es = false → folE m es k s T = (0, nextS m es j s T)) := fun h1 h2 h3 => by
    have := folE_go hje (by rw [Int.toNat_natCast]; exact hmay) h1 h2 hj h3
    rw [Int.toNat_natCast] at this
    exact this
  have CWK : Hid (∀ X, MlR X (.slice va T.vals.length vc) T.vals → LiR X (.slice ma T.mail.length mc) T.mail → Calls Try.prog 27 #[.agg #[.int .i64 (m : Int), .slice a es.length cap, .int .i64 k, .int .i64 s], .agg #[.int .i64 T.step, .int .i64 T.phase, .bool T.fresh, .bool T.done, .slice va T.vals.length vc, .slice ma T.mail.length mc]] X (WknP X m (rndV j s T))) := fun X h1 h2 => rWoken_any a es.length cap m (m : Int) k s j T _ _ X h1 h2 hj hI (by omega)
  have CAG : Hid (T.done = true → ∀ X, MlR X (.slice va T.vals.length vc) T.vals → Calls Try.prog 26 #[.agg #[.int .i64 T.step, .int .i64 T.phase, .bool false, .bool true, .slice va T.vals.length vc, .slice ma T.mail.length mc]] X (StoP X ⟨T.step, T.phase, false, true, T.vals, List.replicate T.vals.length []⟩)) := fun _ X h1 => again_any T.step T.phase T.vals _ _ X ⟨_, _, _, rfl⟩ h1 (by have := hI.lv; omega)
  have hrr : ∀ u : Int, 0 ≤ u ∧ u < (m : Int) → valB j (rndV j s T u).1 = true ∧ ((rndV j s T u).2 = true → 0 ≤ (rndV j s T u).1.1) := fun u hu => hI.rnd (by omega) hu
  have CSN : Hid (∀ X v1 v2, EdR X (.slice a es.length cap) es → MlR X v1 (valsR m (rndV j s T)) → BlR X v2 (sdR m (rndV j s T) m) → Calls Try.prog 28 #[.agg #[.int .i64 (m : Int), .slice a es.length cap, .int .i64 k, .int .i64 s], .int .i64 T.phase, v1, v2] X (SntP X m j (rndV j s T) es)) := fun X v1 v2 h0 h1 h2 => sent_any _ es m k s T.phase j (rndV j s T) v1 v2 X h0 HG (fun e he => (in_of_out (hed e he)).2.2.2.2) hkj hpj (by omega) (by omega) hrr h1 h2
  have CST : Hid (∀ X v1 v2, MlR X v1 (valsR m (rndV j s T)) → LiR X v2 (mailR m j (rndV j s T) es) → Calls Try.prog 29 #[.int .i64 k, .agg #[.int .i64 (T.step + 1), .int .i64 T.phase, .bool false, .bool false, v1, v2]] X (SetP X (nextS m es j s T) v1 v2)) := fun X v1 v2 h1 h2 => settled_any j k T.step (T.step + 1) T.phase (valsR m (rndV j s T)) (mailR m j (rndV j s T) es) v1 v2 X hkj hpj rfl h1 h2 (fun x hx => by
    obtain ⟨i, hi, rfl⟩ := List.getElem_of_mem hx
    have hi' : i < m := by rw [valsR_len] at hi; exact hi
    have h3 := valsR_at (r := rndV j s T) hi'
    rw [List.getElem?_eq_getElem hi] at h3
    injection h3 with h3
    rw [h3]
    exact (valB_iff.1 (hrr (i : Int) (by omega)).1).2.1)
  have HNV : Hid ((nextS m es j s T).vals = valsR m (rndV j s T) ∧ (nextS m es j s T).mail = mailR m j (rndV j s T) es) := (behR_step j T.step T.phase _ _).2
  have HST : Hid (0 ≤ T.step ∧ T.step ≤ 100000) := hI.stp
  have HLN : Hid ((valsR m (rndV j s T)).length = m) := valsR_len _ _
  have HLS : Hid ((sdR m (rndV j s T) m).length = m) := sdR_len _ _ _
  clear hf hk3 hel hed hmay hj hI hkj hpj HG hrr hje
  generalize nextS m es j s T = NX at *
  generalize folE m es k s T = R at *
  generalize rndV j s T = r at *
  obtain ⟨step, phase, fr, dn, vs, ms⟩ := T
  simp only at HV HM hvc hvm hmc hmm HDN HFU HOV HGO CWK CAG CSN CST HST ⊢
  have hst := HST.out
  obtain ⟨W0, hW0⟩ : ∃ W0, W0 = ((w.alloc (.cells #[.int .i64 (m : Int), .slice a es.length cap, .int .i64 k, .int .i64 s] 27)).alloc (.cells #[.int .i64 step, .int .i64 phase, .bool fr, .bool dn, .slice va vs.length vc, .slice ma ms.length mc] 34)).alloc (.cells #[.int .i64 0, .int .i64 0, .bool false, .bool false, .slice none 0 0, .slice none 0 0] 34) := ⟨_, rfl⟩
  obtain ⟨Q0, T0, Z0, B0, s1, s2⟩ := boxes3 w #[.int .i64 (m : Int), .slice a es.length cap, .int .i64 k, .int .i64 s] #[.int .i64 step, .int .i64 phase, .bool fr, .bool dn, .slice va vs.length vc, .slice ma ms.length mc] #[.int .i64 0, .int .i64 0, .bool false, .bool false, .slice none 0 0, .slice none 0 0] 27 34 34 W0 hW0
  have BH : Hid (Below w.heap.size w W0) := B0
  have HK : Hid (∀ X, Below W0.heap.size W0 X → BX 27 X w.heap.size #[.int .i64 (m : Int), .slice a es.length cap, .int .i64 k, .int .i64 s] ∧ BX 34 X (w.heap.size + 1) #[.int .i64 step, .int .i64 phase, .bool fr, .bool dn, .slice va vs.length vc, .slice ma ms.length mc] ∧ BX 34 X (w.heap.size + 2) #[.int .i64 0, .int .i64 0, .bool false, .bool false, .slice none 0 0, .slice none 0 0] ∧ Below w.heap.size w X) := fun X hX => ⟨Q0.below hX (by omega), T0.below hX (by omega), Z0.below hX (by omega), BH.out.trans (hX.mono (by omega))⟩
  have HNO : Hid (∀ X f, Below W0.heap.size W0 X → R = (f, st0) → BX 34 (put6 X (w.heap.size + 2) (.int .i64 0) (.int .i64 0) (.bool false) (.bool false) (.slice none 0 0) (.slice none 0 0)) (w.heap.size + 2) #[.int .i64 0, .int .i64 0, .bool false, .bool false, .slice none 0 0, .slice none 0 0] ∧ StaP w R (.returned (.tuple #[.agg #[.int .i64 0, .int .i64 0, .bool false, .bool false, .slice none 0 0, .slice none 0 0], .int .i64 f])) (put6 X (w.heap.size + 2) (.int .i64 0) (.int .i64 0) (.bool false) (.bool false) (.slice none 0 0) (.slice none 0 0))) := fun X f hX hR => by
    obtain ⟨_, _, Z1, b1⟩ := HK.out X hX
    refine ⟨Z1.put6, ?_⟩
    rw [hR]
    exact StaP.no (below_put6 b1 (by omega) Z1.lt _ _ _ _ _ _)
  have HYE : Hid (∀ X (t : StS) v1 v2, Below W0.heap.size W0 X → R = (0, t) → X.ownsRow W0.heap.size 44 2 v1 t.vals.length (t.vals.flatMap encM) → OwnLi X W0.heap.size v2 t.mail → BX 34 (put6 X (w.heap.size + 2) (.int .i64 t.step) (.int .i64 t.phase) (.bool t.fresh) (.bool t.done) v1 v2) (w.heap.size + 2) #[.int .i64 t.step, .int .i64 t.phase, .bool t.fresh, .bool t.done, v1, v2] ∧ StaP w R (.returned (.tuple #[.agg #[.int .i64 t.step, .int .i64 t.phase, .bool t.fresh, .bool t.done, v1, v2], .int .i64 0])) (put6 X (w.heap.size + 2) (.int .i64 t.step) (.int .i64 t.phase) (.bool t.fresh) (.bool t.done) v1 v2)) := fun X t v1 v2 hX hR h1 h2 => by
    obtain ⟨_, _, Z1, b1⟩ := HK.out X hX
    refine ⟨Z1.put6, ?_⟩
    rw [hR]
    exact StaP.yes (t := t) (own_lower (own_off h1 Z1 (by decide) (kept_put6 X (w.heap.size + 2) _ _ _ _ _ _)) (by omega)) ((h2.off Z1 (by decide) (by decide) (kept_put6 X (w.heap.size + 2) _ _ _ _ _ _)).lower (by omega)) (below_put6 b1 (by omega) Z1.lt _ _ _ _ _ _)
  have R0 : Hid (∀ X, Below W0.heap.size W0 X → EdR X (.slice a es.length cap) es ∧ MlR X (.slice va vs.length vc) vs ∧ LiR X (.slice ma ms.length mc) ms) := fun X hX => ⟨HR.out.below (HK.out _ hX).2.2.2 (Nat.le_refl _), HV.out.below (HK.out _ hX).2.2.2 (Nat.le_refl _), HM.out.below (HK.out _ hX).2.2.2 (Nat.le_refl _)⟩
  obtain ⟨q0, q1, q2, q3⟩ := Q0.all4
  obtain ⟨⟨c0, c1, c2, c3, c4, c5⟩, _⟩ := T0.all6
  obtain ⟨⟨d0, d1, d2, d3, d4, d5⟩, e0, e1, e2, e3, e4, e5⟩ := Z0.all6
  have A0 : Hid (Below W0.heap.size W0 W0) := Below.refl _ _
  have ML0 : Hid (MlR W0 (.slice va vs.length vc) vs) := (R0.out _ A0.out).2.1
  have LI0 : Hid (LiR W0 (.slice ma ms.length mc) ms) := (R0.out _ A0.out).2.2
  clear Q0 T0 Z0 B0
  cases dn
  · by_cases h5 : step = 100000
    · obtain ⟨rx, hp⟩ := HNO.out _ 10 A0.out (HFU.out rfl (by omega))
      have HP : Hid (StaP w R (.returned (.tuple #[.agg #[.int .i64 0, .int .i64 0, .bool false, .bool false, .slice none 0 0, .slice none 0 0], .int .i64 10])) (put6 W0 (w.heap.size + 2) (.int .i64 0) (.int .i64 0) (.bool false) (.bool false) (.slice none 0 0) (.slice none 0 0))) := hp
      have RX : Hid (BX 34 (put6 W0 (w.heap.size + 2) (.int .i64 0) (.int .i64 0) (.bool false) (.bool false) (.slice none 0 0) (.slice none 0 0)) (w.heap.size + 2) #[.int .i64 0, .int .i64 0, .bool false, .bool false, .slice none 0 0, .slice none 0 0]) := rx
      have t5 : (step == 100000) = true := by simpa using h5
      clear hp rx h5
      go_enter Try.func19, Try.ntmps19
      go_upto_region 1 with fail
      rw [← hW0]
      clear hW0
      go_wp2_with fail
      obtain ⟨⟨r0, r1, r2, r3, r4, r5⟩, _⟩ := RX.out.all6
      unfold put6 at r0 r1 r2 r3 r4 r5
      exact bodyPost_ret (v := .tuple #[.agg #[.int .i64 0, .int .i64 0, .bool false, .bool false, .slice none 0 0, .slice none 0 0], .int .i64 10]) (by simp [results, Try.results19, go_sem, r0, r1, r2, r3, r4, r5]) rfl HP.out
    · have t5 : (step == 100000) = false := by simpa using h5
      have wn : IntKind.i64.wrap (step + 1) = step + 1 := wrap_id64 (by omega) (by omega)
      have h6 : ¬ 100000 ≤ step := by omega
      have HO2 : Hid (overR j r es = true → R = (6, st0)) := HOV.out rfl h6
      have HG2 : Hid (overR j r es = false → R = (0, NX)) := HGO.out rfl h6
      clear h5 HFU HOV HGO HDN CAG h6
      go_enter Try.func19, Try.ntmps19
      go_upto_region 1 with fail
      rw [← hW0]
      clear hW0
      go_wp2_with fail
      refine (CWK.out _ ML0.out LI0.out).mono ?_
      rintro e w1 ⟨v1, v2, rfl, hv1, hv2, hb1⟩
      have A1 : Hid (Below W0.heap.size W0 w1) := hb1
      have V1 : Hid (w1.ownsRow W0.heap.size 44 2 v1 m ((valsR m r).flatMap encM)) := hv1
      have V2 : Hid (w1.ownsRow W0.heap.size 4 1 v2 m ((sdR m r m).flatMap encT)) := hv2
      obtain ⟨Q1, T1, Z1, _⟩ := HK.out _ hb1
      clear q0 q1 q2 q3 c0 c1 c2 c3 c4 c5 d0 d1 d2 d3 d4 d5 e0 e1 e2 e3 e4 e5
      obtain ⟨q0, q1, q2, q3⟩ := Q1.all4
      obtain ⟨⟨c0, c1, c2, c3, c4, c5⟩, _⟩ := T1.all6
      obtain ⟨a1, n1, k1, rfl⟩ : ∃ a n c, v1 = .slice a n c := by
        rcases own_shapeK hv1 with ⟨e, _⟩ | ⟨g', c', e, _⟩
        · exact ⟨_, _, _, e⟩
        · exact ⟨_, _, _, e⟩
      obtain ⟨a2, n2, k2, rfl⟩ : ∃ a n c, v2 = .slice a n c := by
        rcases own_shapeK hv2 with ⟨e, _⟩ | ⟨g', c', e, _⟩
        · exact ⟨_, _, _, e⟩
        · exact ⟨_, _, _, e⟩
      have M1 : Hid (MlR w1 (.slice a1 n1 k1) (valsR m r)) := RowK.own encM_len (by rw [HLN.out]; exact hv1)
      have M2 : Hid (BlR w1 (.slice a2 n2 k2) (sdR m r m)) := RowK.own encT_len (by rw [HLS.out]; exact hv2)
      clear Q1 T1 Z1 hv1 hv2 hb1 CWK ML0 LI0
      go_wp2_with fail
      refine (CSN.out _ _ _ (R0.out _ A1.out).1 M1.out M2.out).mono ?_
      rintro e w2 ⟨hor, hb2⟩
      have A2 : Hid (Below W0.heap.size W0 w2) := A1.out.trans (hb2.mono A1.out.size)
      have V3 : Hid (w2.ownsRow W0.heap.size 44 2 (.slice a1 n1 k1) m ((valsR m r).flatMap encM)) := own_below V1.out hb2 (Nat.le_refl _)
      obtain ⟨Q2, T2, Z2, _⟩ := HK.out _ A2.out
      clear q0 q1 q2 q3 c0 c1 c2 c3 c4 c5
      obtain ⟨q0, q1, q2, q3⟩ := Q2.all4
      obtain ⟨⟨c0, c1, c2, c3, c4, c5⟩, _⟩ := T2.all6
      obtain ⟨⟨d0, d1, d2, d3, d4, d5⟩, e0, e1, e2, e3, e4, e5⟩ := Z2.all6
      clear Q2 T2 Z2 CSN
      rcases hor with ⟨ho, rfl⟩ | ⟨ho, v3, rfl, hv3⟩
      · obtain ⟨rx, hp⟩ := HNO.out _ 6 A2.out (HO2.out ho)
        have HP : Hid (StaP w R (.returned (.tuple #[.agg #[.int .i64 0, .int .i64 0, .bool false, .bool false, .slice none 0 0, .slice none 0 0], .int .i64 6])) (put6 w2 (w.heap.size + 2) (.int .i64 0) (.int .i64 0) (.bool false) (.bool false) (.slice none 0 0) (.slice none 0 0))) := hp
        have RX : Hid (BX 34 (put6 w2 (w.heap.size + 2) (.int .i64 0) (.int .i64 0) (.bool false) (.bool false) (.slice none 0 0) (.slice none 0 0)) (w.heap.size + 2) #[.int .i64 0, .int .i64 0, .bool false, .bool false, .slice none 0 0, .slice none 0 0]) := rx
        clear ho hp rx hb2
        go_wp2_with fail
        obtain ⟨⟨r0, r1, r2, r3, r4, r5⟩, _⟩ := RX.out.all6
        unfold put6 at r0 r1 r2 r3 r4 r5
        exact bodyPost_ret (v := .tuple #[.agg #[.int .i64 0, .int .i64 0, .bool false, .bool false, .slice none 0 0, .slice none 0 0], .int .i64 6]) (by simp [results, Try.results19, go_sem, r0, r1, r2, r3, r4, r5]) rfl HP.out
      · have HRR : Hid (R = (0, NX)) := HG2.out ho
        have V4 : Hid (OwnLi w2 W0.heap.size v3 (mailR m j r es)) := hv3.lower A1.out.size
        have L3 : Hid (LiR w2 v3 (mailR m j r es)) := hv3.reads
        have M3 : Hid (MlR w2 (.slice a1 n1 k1) (valsR m r)) := M1.out.below hb2 (Nat.le_refl _)
        obtain ⟨a3, k3, rfl⟩ := hv3.shape
        clear ho hv3 hb2 HO2 HG2
        go_wp2_with fail
        refine (CST.out _ _ _ M3.out L3.out).mono ?_
        rintro e w3 ⟨rfl, hb3⟩
        have A3 : Hid (Below W0.heap.size W0 w3) := A2.out.trans (hb3.mono A2.out.size)
        have V5 : Hid (w3.ownsRow W0.heap.size 44 2 (.slice a1 n1 k1) NX.vals.length (NX.vals.flatMap encM)) := by
          show World.ownsRow _ _ _ _ _ _ _
          rw [HNV.out.1, HLN.out]; exact own_below V3.out hb3 (Nat.le_refl _)
        have V6 : Hid (OwnLi w3 W0.heap.size (.slice a3 (mailR m j r es).length k3) NX.mail) := by
          show OwnLi _ _ _ _
          rw [HNV.out.2]; exact V4.out.below hb3 (Nat.le_refl _)
        obtain ⟨rx, hp⟩ := HYE.out _ NX _ _ A3.out HRR.out V5.out V6.out
        obtain ⟨Q3, T3, Z3, _⟩ := HK.out _ A3.out
        clear q0 q1 q2 q3 c0 c1 c2 c3 c4 c5 d0 d1 d2 d3 d4 d5 e0 e1 e2 e3 e4 e5
        obtain ⟨⟨d0, d1, d2, d3, d4, d5⟩, e0, e1, e2, e3, e4, e5⟩ := Z3.all6
        obtain ⟨nst, nph, nfr, ndn, nvs, nms⟩ := NX
        simp only at rx hp ⊢
        have HP : Hid (StaP w R (.returned (.tuple #[.agg #[.int .i64 nst, .int .i64 nph, .bool nfr, .bool ndn, .slice a1 n1 k1, .slice a3 (mailR m j r es).length k3], .int .i64 0])) (put6 w3 (w.heap.size + 2) (.int .i64 nst) (.int .i64 nph) (.bool nfr) (.bool ndn) (.slice a1 n1 k1) (.slice a3 (mailR m j r es).length k3))) := hp
        have RX : Hid (BX 34 (put6 w3 (w.heap.size + 2) (.int .i64 nst) (.int .i64 nph) (.bool nfr) (.bool ndn) (.slice a1 n1 k1) (.slice a3 (mailR m j r es).length k3)) (w.heap.size + 2) #[.int .i64 nst, .int .i64 nph, .bool nfr, .bool ndn, .slice a1 n1 k1, .slice a3 (mailR m j r es).length k3]) := rx
        clear hp rx hb3 Q3 T3 Z3
        go_wp2_with fail
        obtain ⟨⟨r0, r1, r2, r3, r4, r5⟩, _⟩ := RX.out.all6
        unfold put6 at r0 r1 r2 r3 r4 r5
        exact bodyPost_ret (v := .tuple #[.agg #[.int .i64 nst, .int .i64 nph, .bool nfr, .bool ndn, .slice a1 n1 k1, .slice a3 (mailR m j r es).length k3], .int .i64 0]) (by simp [results, Try.results19, go_sem, r0, r1, r2, r3, r4, r5]) rfl HP.out
  · obtain ⟨hR, hfr, hms⟩ := HDN.out rfl
    subst hfr
    have HRR : Hid (R = (0, ⟨step, phase, false, true, vs, ms⟩)) := hR
    have HMS : Hid (ms = List.replicate vs.length []) := hms
    have CA2 : Hid (∀ X, MlR X (.slice va vs.length vc) vs → Calls Try.prog 26 #[.agg #[.int .i64 step, .int .i64 phase, .bool false, .bool true, .slice va vs.length vc, .slice ma ms.length mc]] X (StoP X ⟨step, phase, false, true, vs, List.replicate vs.length []⟩)) := CAG.out rfl
    clear hR hms HDN HFU HOV HGO CAG
    go_enter Try.func19, Try.ntmps19
    go_upto_region 1 with fail
    rw [← hW0]
    clear hW0
    go_wp2_with fail
    refine (CA2.out _ ML0.out).mono ?_
    rintro e w1 ⟨v1, v2, rfl, hv1, hv2, hb1⟩
    simp only at hv1 hv2 ⊢
    replace hv2 : OwnLi w1 W0.heap.size v2 ms := by rw [HMS.out]; exact hv2
    clear HMS
    obtain ⟨rx, hp⟩ := HYE.out w1 ⟨step, phase, false, true, vs, ms⟩ v1 v2 hb1 HRR.out hv1 hv2
    obtain ⟨Q3, T3, Z3, _⟩ := HK.out _ hb1
    clear q0 q1 q2 q3 c0 c1 c2 c3 c4 c5 d0 d1 d2 d3 d4 d5 e0 e1 e2 e3 e4 e5
    obtain ⟨⟨d0, d1, d2, d3, d4, d5⟩, e0, e1, e2, e3, e4, e5⟩ := Z3.all6
    obtain ⟨a1, n1, k1, rfl⟩ : ∃ a n c, v1 = .slice a n c := by
      rcases own_shapeK hv1 with ⟨e, _⟩ | ⟨g', c', e, _⟩
      · exact ⟨_, _, _, e⟩
      · exact ⟨_, _, _, e⟩
    obtain ⟨a2, k2, rfl⟩ := hv2.shape
    simp only at rx hp
    have HP : Hid (StaP w R (.returned (.tuple #[.agg #[.int .i64 step, .int .i64 phase, .bool false, .bool true, .slice a1 n1 k1, .slice a2 ms.length k2], .int .i64 0])) (put6 w1 (w.heap.size + 2) (.int .i64 step) (.int .i64 phase) (.bool false) (.bool true) (.slice a1 n1 k1) (.slice a2 ms.length k2))) := hp
    have RX : Hid (BX 34 (put6 w1 (w.heap.size + 2) (.int .i64 step) (.int .i64 phase) (.bool false) (.bool true) (.slice a1 n1 k1) (.slice a2 ms.length k2)) (w.heap.size + 2) #[.int .i64 step, .int .i64 phase, .bool false, .bool true, .slice a1 n1 k1, .slice a2 ms.length k2]) := rx
    clear hp rx hb1 Q3 T3 Z3 hv1 hv2
    go_wp2_with fail
    obtain ⟨⟨r0, r1, r2, r3, r4, r5⟩, _⟩ := RX.out.all6
    unfold put6 at r0 r1 r2 r3 r4 r5
    exact bodyPost_ret (v := .tuple #[.agg #[.int .i64 step, .int .i64 phase, .bool false, .bool true, .slice a1 n1 k1, .slice a2 ms.length k2], .int .i64 0]) (by simp [results, Try.results19, go_sem, r0, r1, r2, r3, r4, r5]) rfl HP.out
end Go.Proofs.Ytbmkgnlfccigpab

namespace Go.Proofs.Ytbmkgnlfccigpab
set_option maxRecDepth 100000
open Go.ChangeShapes Go.WideShapes Go.ChangeAt Go.RowKit

set_option maxHeartbeats 1000000 in
set_option maxRecDepth 100000 in
theorem rCheck_any (v : Value) (es : List Ed) (n k s : Int) (w : World) (h : EdR w v es) :
    Calls Try.prog 16 #[.agg #[.int .i64 n, v, .int .i64 k, .int .i64 s]] w fun e w' => e = .returned (.int .i64 (jobE n es k s)) ∧ Below w.heap.size w w' := by
  have HR : Hid (EdR w v es) := h
  obtain ⟨a, cap, rfl, _, _, _, _⟩ := h
  have HCK : Hid (∀ X, EdR X (.slice a es.length cap) es → Calls Try.prog 24 #[.agg #[.int .i64 n, .slice a es.length cap]] X fun e w' => e = .returned (.int .i64 (faultE n es)) ∧ Below X.heap.size X w') := fun X hX => check_any _ es n X hX
  obtain ⟨W0, hW0⟩ : ∃ W0, W0 = w.alloc (.cells #[.int .i64 n, .slice a es.length cap, .int .i64 k, .int .i64 s] 27) := ⟨_, rfl⟩
  have Q0 : BX 27 W0 w.heap.size #[.int .i64 n, .slice a es.length cap, .int .i64 k, .int .i64 s] := by rw [hW0]; exact BX.new _ _ _
  have BH : Hid (Below w.heap.size w W0) := by show Below _ _ _; rw [hW0]; exact below_alloc _ _
  have s1 : w.heap.size + 1 ≤ W0.heap.size := by rw [hW0]; simp
  have HK : Hid (∀ X, Below W0.heap.size W0 X → BX 27 X w.heap.size #[.int .i64 n, .slice a es.length cap, .int .i64 k, .int .i64 s] ∧ Below w.heap.size w X) := fun X hX => ⟨Q0.below hX (by omega), BH.out.trans (hX.mono (by omega))⟩
  have R0 : Hid (EdR W0 (.slice a es.length cap) es) := HR.out.below BH.out (Nat.le_refl _)
  obtain ⟨q0, q1, q2, q3⟩ := Q0.all4
  clear Q0
  by_cases hf : faultE n es = 0
  · rw [hf] at HCK
    by_cases hk : 1 ≤ k ∧ k ≤ 3
    · have CW : Hid (∀ X, ∃ x y, Calls Try.prog 12 #[.int .i64 k, .int .i64 0] X fun e w' => e = .returned (.tuple #[.bool x, .bool y, .int .i64 0]) ∧ Below X.heap.size X w') := fun X => by
        rcases (show k = 1 ∨ k = 2 ∨ k = 3 by omega) with rfl | rfl | rfl
        · exact ⟨_, _, waysP_any (false, false) X⟩
        · exact ⟨_, _, waysP_any (false, true) X⟩
        · exact ⟨_, _, waysP_any (true, false) X⟩
      by_cases h1 : k = 1
      · by_cases hs : s < 0
        · have HE : Hid (jobE n es k s = 2) := jobE_src hf h1 (by omega)
          have t1 : (k == 1) = true := by simpa using h1
          clear hk h1
          generalize jobE n es k s = je at *
          clear hf
          go_enter Try.func16, Try.ntmps16
          go_upto_region 1 with fail
          rw [← hW0]
          clear hW0
          go_wp2_with fail
          refine (HCK.out _ R0.out).mono ?_
          rintro e w1 ⟨rfl, hb1⟩
          obtain ⟨Q1, b1⟩ := HK.out _ hb1
          clear q0 q1 q2 q3 HCK
          obtain ⟨q0, q1, q2, q3⟩ := Q1.all4
          have A1 : Hid (Below W0.heap.size W0 w1) := hb1
          clear hb1 Q1 b1
          go_wp2_with fail
          obtain ⟨x, y, cw⟩ := CW.out w1
          refine cw.mono ?_
          rintro e w2 ⟨rfl, hb2⟩
          clear cw
          have A2 : Hid (Below W0.heap.size W0 w2) := A1.out.trans (hb2.mono A1.out.size)
          obtain ⟨Q2, b2⟩ := HK.out _ A2.out
          have B2 : Hid (Below w.heap.size w w2) := b2
          clear q0 q1 q2 q3
          obtain ⟨q0, q1, q2, q3⟩ := Q2.all4
          clear hb2 Q2 b2
          go_wp2_with fail
          go_ret
          exact ⟨by rw [HE.out]; rfl, B2.out⟩
        · by_cases hs2 : s ≥ n
          · have HE : Hid (jobE n es k s = 2) := jobE_src hf h1 (by omega)
            have t1 : (k == 1) = true := by simpa using h1
            clear hk h1
            generalize jobE n es k s = je at *
            clear hf
            go_enter Try.func16, Try.ntmps16
            go_upto_region 1 with fail
            rw [← hW0]
            clear hW0
            go_wp2_with fail
            refine (HCK.out _ R0.out).mono ?_
            rintro e w1 ⟨rfl, hb1⟩
            obtain ⟨Q1, b1⟩ := HK.out _ hb1
            clear q0 q1 q2 q3 HCK
            obtain ⟨q0, q1, q2, q3⟩ := Q1.all4
            have A1 : Hid (Below W0.heap.size W0 w1) := hb1
            clear hb1 Q1 b1
            go_wp2_with fail
            obtain ⟨x, y, cw⟩ := CW.out w1
            refine cw.mono ?_
            rintro e w2 ⟨rfl, hb2⟩
            clear cw
            have A2 : Hid (Below W0.heap.size W0 w2) := A1.out.trans (hb2.mono A1.out.size)
            obtain ⟨Q2, b2⟩ := HK.out _ A2.out
            have B2 : Hid (Below w.heap.size w w2) := b2
            clear q0 q1 q2 q3
            obtain ⟨q0, q1, q2, q3⟩ := Q2.all4
            clear hb2 Q2 b2
            go_wp2_with fail
            go_ret
            exact ⟨by rw [HE.out]; rfl, B2.out⟩
          · have HE : Hid (jobE n es k s = 0) := jobE_ok hf hk fun _ => ⟨by omega, by omega⟩
            have t1 : (k == 1) = true := by simpa using h1
            clear hk h1
            generalize jobE n es k s = je at *
            clear hf
            go_enter Try.func16, Try.ntmps16
            go_upto_region 1 with fail
            rw [← hW0]
            clear hW0
            go_wp2_with fail
            refine (HCK.out _ R0.out).mono ?_
            rintro e w1 ⟨rfl, hb1⟩
            obtain ⟨Q1, b1⟩ := HK.out _ hb1
            clear q0 q1 q2 q3 HCK
            obtain ⟨q0, q1, q2, q3⟩ := Q1.all4
            have A1 : Hid (Below W0.heap.size W0 w1) := hb1
            clear hb1 Q1 b1
            go_wp2_with fail
            obtain ⟨x, y, cw⟩ := CW.out w1
            refine cw.mono ?_
            rintro e w2 ⟨rfl, hb2⟩
            clear cw
            have A2 : Hid (Below W0.heap.size W0 w2) := A1.out.trans (hb2.mono A1.out.size)
            obtain ⟨Q2, b2⟩ := HK.out _ A2.out
            have B2 : Hid (Below w.heap.size w w2) := b2
            clear q0 q1 q2 q3
            obtain ⟨q0, q1, q2, q3⟩ := Q2.all4
            clear hb2 Q2 b2
            go_wp2_with fail
            go_ret
            exact ⟨by rw [HE.out]; rfl, B2.out⟩
      · have HE : Hid (jobE n es k s = 0) := jobE_ok hf hk fun g => absurd g h1
        have t1 : (k == 1) = false := by simpa using h1
        clear hk h1
        generalize jobE n es k s = je at *
        clear hf
        go_enter Try.func16, Try.ntmps16
        go_upto_region 1 with fail
        rw [← hW0]
        clear hW0
        go_wp2_with fail
        refine (HCK.out _ R0.out).mono ?_
        rintro e w1 ⟨rfl, hb1⟩
        obtain ⟨Q1, b1⟩ := HK.out _ hb1
        clear q0 q1 q2 q3 HCK
        obtain ⟨q0, q1, q2, q3⟩ := Q1.all4
        have A1 : Hid (Below W0.heap.size W0 w1) := hb1
        clear hb1 Q1 b1
        go_wp2_with fail
        obtain ⟨x, y, cw⟩ := CW.out w1
        refine cw.mono ?_
        rintro e w2 ⟨rfl, hb2⟩
        clear cw
        have A2 : Hid (Below W0.heap.size W0 w2) := A1.out.trans (hb2.mono A1.out.size)
        obtain ⟨Q2, b2⟩ := HK.out _ A2.out
        have B2 : Hid (Below w.heap.size w w2) := b2
        clear q0 q1 q2 q3
        obtain ⟨q0, q1, q2, q3⟩ := Q2.all4
        clear hb2 Q2 b2
        go_wp2_with fail
        go_ret
        exact ⟨by rw [HE.out]; rfl, B2.out⟩
    · have HE : Hid (jobE n es k s = 3) := jobE_kind hf hk
      have CW : Hid (∀ X, Calls Try.prog 12 #[.int .i64 k, .int .i64 0] X fun e w' => e = .returned (.tuple #[.bool false, .bool false, .int .i64 3]) ∧ Below X.heap.size X w') := fun X => waysP_none ⟨by omega, by omega, by omega, by omega⟩ X
      clear hk
      generalize jobE n es k s = je at *
      clear hf
      go_enter Try.func16, Try.ntmps16
      go_upto_region 1 with fail
      rw [← hW0]
      clear hW0
      go_wp2_with fail
      refine (HCK.out _ R0.out).mono ?_
      rintro e w1 ⟨rfl, hb1⟩
      obtain ⟨Q1, b1⟩ := HK.out _ hb1
      clear q0 q1 q2 q3 HCK
      obtain ⟨q0, q1, q2, q3⟩ := Q1.all4
      have A1 : Hid (Below W0.heap.size W0 w1) := hb1
      clear hb1 Q1 b1
      go_wp2_with fail
      refine (CW.out w1).mono ?_
      rintro e w2 ⟨rfl, hb2⟩
      have A2 : Hid (Below W0.heap.size W0 w2) := A1.out.trans (hb2.mono A1.out.size)
      obtain ⟨Q2, b2⟩ := HK.out _ A2.out
      have B2 : Hid (Below w.heap.size w w2) := b2
      clear q0 q1 q2 q3
      obtain ⟨q0, q1, q2, q3⟩ := Q2.all4
      clear hb2 Q2 b2
      go_wp2_with fail
      go_ret
      exact ⟨by rw [HE.out]; rfl, B2.out⟩
  · have HE : Hid (jobE n es k s = faultE n es) := jobE_bad hf
    generalize jobE n es k s = je at *
    generalize faultE n es = fe at *
    have t0 : (fe != 0) = true := by simpa using hf
    clear hf
    go_enter Try.func16, Try.ntmps16
    go_upto_region 1 with fail
    rw [← hW0]
    clear hW0
    go_wp2_with fail
    refine (HCK.out _ R0.out).mono ?_
    rintro e w1 ⟨rfl, hb1⟩
    have B1 : Hid (Below w.heap.size w w1) := (HK.out _ hb1).2
    clear hb1 q0 q1 q2 q3 HCK
    go_wp2_with fail
    go_ret
    exact ⟨by rw [HE.out]; rfl, B1.out⟩
end Go.Proofs.Ytbmkgnlfccigpab

namespace Go.Proofs.Ytbmkgnlfccigpab
set_option maxRecDepth 100000
open Go.ChangeShapes Go.WideShapes Go.ChangeAt Go.RowKit

/-- Which error. -/
def staE (n : Int) (es : List Ed) (k s : Int) (T : StS) : Int := if jobE n es k s ≠ 0 then jobE n es k s else if mayR n.toNat k T then 0 else 9

set_option maxHeartbeats 2000000 in
set_option maxRecDepth 100000 in
theorem rState_any (v : Value) (es : List Ed) (n k s : Int) (T : StS) (vv vm : Value) (w : World) (h : EdR w v es) (hv : MlR w vv T.vals) (hm : LiR w vm T.mail) :
    Calls Try.prog 18 #[.agg #[.int .i64 n, v, .int .i64 k, .int .i64 s], .agg #[.int .i64 T.step, .int .i64 T.phase, .bool T.fresh, .bool T.done, vv, vm]] w fun e w' => e = .returned (.int .i64 (staE n es k s T)) ∧ Below w.heap.size w w' := by
  have HR : Hid (EdR w v es) := h
  obtain ⟨a, cap, rfl, _, _, _, _⟩ := h
  have HCK : Hid (∀ X, EdR X (.slice a es.length cap) es → Calls Try.prog 16 #[.agg #[.int .i64 n, .slice a es.length cap, .int .i64 k, .int .i64 s]] X fun e w' => e = .returned (.int .i64 (jobE n es k s)) ∧ Below X.heap.size X w') := fun X hX => rCheck_any _ es n k s X hX
  have HV : Hid (MlR w vv T.vals) := hv
  have HM : Hid (LiR w vm T.mail) := hm
  obtain ⟨va, vc, rfl, hvc, hvm, _, _⟩ := hv
  obtain ⟨ma, mc, rfl, hmc, hmm, _⟩ := hm
  have HSM : Hid (∀ X, jobE n es k s = 0 → MlR X (.slice va T.vals.length vc) T.vals → LiR X (.slice ma T.mail.length mc) T.mail → Calls Try.prog 25 #[.agg #[.int .i64 n, .slice a es.length cap, .int .i64 k, .int .i64 s], .agg #[.int .i64 T.step, .int .i64 T.phase, .bool T.fresh, .bool T.done, .slice va T.vals.length vc, .slice ma T.mail.length mc]] X fun e w' => e = .returned (.bool (mayR n.toNat k T)) ∧ Below X.heap.size X w') := fun X hj h1 h2 => by
    obtain ⟨hf, _, _⟩ := jobE_zero hj
    obtain ⟨hn0, hn1, _, _⟩ := fault_ok hf
    obtain ⟨m, rfl⟩ : ∃ m : Nat, n = m := ⟨n.toNat, by omega⟩
    rw [Int.toNat_natCast]
    exact rMay_any a es.length cap m k s T _ _ X h1 h2 (by omega)
  have HE1 : Hid (jobE n es k s ≠ 0 → staE n es k s T = jobE n es k s) := fun h => if_pos h
  have HE2 : Hid (jobE n es k s = 0 → staE n es k s T = if mayR n.toNat k T then 0 else 9) := fun h => if_neg (by simp [h])
  generalize staE n es k s T = R at *
  generalize mayR n.toNat k T = mr at *
  obtain ⟨step, phase, fr, dn, vs, ms⟩ := T
  simp only at HV HM hvc hvm hmc hmm HSM HE1 HE2 ⊢
  obtain ⟨W0, hW0⟩ : ∃ W0, W0 = (w.alloc (.cells #[.int .i64 n, .slice a es.length cap, .int .i64 k, .int .i64 s] 27)).alloc (.cells #[.int .i64 step, .int .i64 phase, .bool fr, .bool dn, .slice va vs.length vc, .slice ma ms.length mc] 34) := ⟨_, rfl⟩
  obtain ⟨Q0, T0, B0, s1, s2⟩ := boxes2 w #[.int .i64 n, .slice a es.length cap, .int .i64 k, .int .i64 s] #[.int .i64 step, .int .i64 phase, .bool fr, .bool dn, .slice va vs.length vc, .slice ma ms.length mc] 27 34 W0 hW0
  have BH : Hid (Below w.heap.size w W0) := B0
  have HK : Hid (∀ X, Below W0.heap.size W0 X → BX 27 X w.heap.size #[.int .i64 n, .slice a es.length cap, .int .i64 k, .int .i64 s] ∧ BX 34 X (w.heap.size + 1) #[.int .i64 step, .int .i64 phase, .bool fr, .bool dn, .slice va vs.length vc, .slice ma ms.length mc] ∧ Below w.heap.size w X) := fun X hX => ⟨Q0.below hX (by omega), T0.below hX (by omega), BH.out.trans (hX.mono (by omega))⟩
  have R0 : Hid (EdR W0 (.slice a es.length cap) es) := HR.out.below BH.out (Nat.le_refl _)
  have HVX : Hid (∀ X, Below W0.heap.size W0 X → MlR X (.slice va vs.length vc) vs ∧ LiR X (.slice ma ms.length mc) ms) := fun X hX => ⟨HV.out.below (HK.out _ hX).2.2 (Nat.le_refl _), HM.out.below (HK.out _ hX).2.2 (Nat.le_refl _)⟩
  obtain ⟨q0, q1, q2, q3⟩ := Q0.all4
  clear Q0 T0 B0
  by_cases hj : jobE n es k s = 0
  · have HSX : Hid (∀ X, Below W0.heap.size W0 X → _) := fun X hX => HSM.out X hj (HVX.out X hX).1 (HVX.out X hX).2
    have HE : Hid (R = if mr then 0 else 9) := HE2.out hj
    rw [hj] at HCK
    clear hj HE1 HE2 HSM
    go_enter Try.func18, Try.ntmps18
    go_upto_region 1 with fail
    rw [← hW0]
    clear hW0
    go_wp2_with fail
    refine (HCK.out _ R0.out).mono ?_
    rintro e w1 ⟨rfl, hb1⟩
    have A1 : Hid (Below W0.heap.size W0 w1) := hb1
    clear q0 q1 q2 q3 HCK hb1
    obtain ⟨Q1, T1, _⟩ := HK.out _ A1.out
    obtain ⟨q0, q1, q2, q3⟩ := Q1.all4
    obtain ⟨⟨c0, c1, c2, c3, c4, c5⟩, _⟩ := T1.all6
    have hs1 := A1.out.size
    clear Q1 T1
    go_wp2_with fail
    refine (HSX.out _ A1.out).mono ?_
    rintro e w2 ⟨rfl, hb2⟩
    have A2 : Hid (Below w.heap.size w w2) := (HK.out _ (A1.out.trans (hb2.mono hs1))).2.2
    clear q0 q1 q2 q3 c0 c1 c2 c3 c4 c5 hb2 HSX
    cases mr
    · go_wp2_with fail
      go_ret
      exact ⟨by rw [HE.out]; rfl, A2.out⟩
    · go_wp2_with fail
      go_ret
      exact ⟨by rw [HE.out]; rfl, A2.out⟩
  · have HE : Hid (R = jobE n es k s) := HE1.out hj
    generalize jobE n es k s = je at *
    have t0 : (je != 0) = true := by simpa using hj
    clear hj HE1 HE2 HSM
    go_enter Try.func18, Try.ntmps18
    go_upto_region 1 with fail
    rw [← hW0]
    clear hW0
    go_wp2_with fail
    refine (HCK.out _ R0.out).mono ?_
    rintro e w1 ⟨rfl, hb1⟩
    have BW : Hid (Below w.heap.size w w1) := (HK.out _ hb1).2.2
    clear hb1 q0 q1 q2 q3 HCK
    go_wp2_with fail
    go_ret
    exact ⟨by rw [HE.out]; rfl, BW.out⟩
end Go.Proofs.Ytbmkgnlfccigpab

namespace Go.Proofs.Ytbmkgnlfccigpab
set_option maxRecDepth 100000
open Go.ChangeShapes Go.WideShapes Go.ChangeAt Go.RowKit

theorem staE_zero {n k s : Int} {es : List Ed} {T : StS} (h : staE n es k s T = 0) : jobE n es k s = 0 ∧ mayR n.toNat k T = true := by
  unfold staE at h
  by_cases h1 : jobE n es k s = 0
  · rw [if_neg (by simp [h1])] at h
    refine ⟨h1, ?_⟩
    cases h2 : mayR n.toNat k T
    · rw [h2] at h; simp at h
    · rfl
  · rw [if_pos h1] at h; exact absurd h h1
theorem staE_not {n k s : Int} {es : List Ed} {T : StS} (h : staE n es k s T ≠ 0) : folE n es k s T = (staE n es k s T, st0) := by
  by_cases h1 : jobE n es k s = 0
  · have e : staE n es k s T = if mayR n.toNat k T then 0 else 9 := by unfold staE; rw [if_neg (by simp [h1])]
    cases h2 : mayR n.toNat k T
    · rw [e, h2, folE_no h1 h2]; rfl
    · rw [e, h2] at h; exact absurd rfl h
  · have e : staE n es k s T = jobE n es k s := by unfold staE; rw [if_pos h1]
    rw [e, folE_bad h1]

set_option maxHeartbeats 4000000 in
set_option maxRecDepth 100000 in
theorem rNext_any (v : Value) (es : List Ed) (n k s : Int) (T : StS) (vv vm : Value) (w : World) (h : EdR w v es) (hv : MlR w vv T.vals) (hm : LiR w vm T.mail) :
    Calls Try.prog 10 #[.agg #[.int .i64 n, v, .int .i64 k, .int .i64 s], .agg #[.int .i64 T.step, .int .i64 T.phase, .bool T.fresh, .bool T.done, vv, vm]] w (StaP w (folE n es k s T)) := by
  have HR : Hid (EdR w v es) := h
  obtain ⟨a, cap, rfl, _, _, _, _⟩ := h
  have HV : Hid (MlR w vv T.vals) := hv
  have HM : Hid (LiR w vm T.mail) := hm
  obtain ⟨va, vc, rfl, hvc, hvm, _, _⟩ := hv
  obtain ⟨ma, mc, rfl, hmc, hmm, _⟩ := hm
  unfold maxLen at hvm hmm
  have CS : Hid (∀ X, EdR X (.slice a es.length cap) es → MlR X (.slice va T.vals.length vc) T.vals → LiR X (.slice ma T.mail.length mc) T.mail → Calls Try.prog 18 #[.agg #[.int .i64 n, .slice a es.length cap, .int .i64 k, .int .i64 s], .agg #[.int .i64 T.step, .int .i64 T.phase, .bool T.fresh, .bool T.done, .slice va T.vals.length vc, .slice ma T.mail.length mc]] X fun e w' => e = .returned (.int .i64 (staE n es k s T)) ∧ Below X.heap.size X w') := fun X h1 h2 h3 => rState_any _ es n k s T _ _ X h1 h2 h3
  have CA : Hid (staE n es k s T = 0 → ∀ X, EdR X (.slice a es.length cap) es → MlR X (.slice va T.vals.length vc) T.vals → LiR X (.slice ma T.mail.length mc) T.mail → Calls Try.prog 19 #[.agg #[.int .i64 n, .slice a es.length cap, .int .i64 k, .int .i64 s], .agg #[.int .i64 T.step, .int .i64 T.phase, .bool T.fresh, .bool T.done, .slice va T.vals.length vc, .slice ma T.mail.length mc]] X (StaP X (folE n es k s T))) := fun h0 X h1 h2 h3 => after_any _ es n k s T _ _ X h1 h2 h3 (staE_zero h0).1 (staE_zero h0).2
  have HNE : Hid (staE n es k s T ≠ 0 → folE n es k s T = (staE n es k s T, st0)) := staE_not
  generalize folE n es k s T = R at *
  generalize staE n es k s T = se at *
  obtain ⟨step, phase, fr, dn, vs, ms⟩ := T
  simp only at HV HM hvc hvm hmc hmm CS CA ⊢
  obtain ⟨W0, hW0⟩ : ∃ W0, W0 = ((w.alloc (.cells #[.int .i64 n, .slice a es.length cap, .int .i64 k, .int .i64 s] 27)).alloc (.cells #[.int .i64 step, .int .i64 phase, .bool fr, .bool dn, .slice va vs.length vc, .slice ma ms.length mc] 34)).alloc (.cells #[.int .i64 0, .int .i64 0, .bool false, .bool false, .slice none 0 0, .slice none 0 0] 34) := ⟨_, rfl⟩
  obtain ⟨Q0, T0, Z0, B0, s1, s2⟩ := boxes3 w #[.int .i64 n, .slice a es.length cap, .int .i64 k, .int .i64 s] #[.int .i64 step, .int .i64 phase, .bool fr, .bool dn, .slice va vs.length vc, .slice ma ms.length mc] #[.int .i64 0, .int .i64 0, .bool false, .bool false, .slice none 0 0, .slice none 0 0] 27 34 34 W0 hW0
  have BH : Hid (Below w.heap.size w W0) := B0
  have HK : Hid (∀ X, Below W0.heap.size W0 X → BX 27 X w.heap.size #[.int .i64 n, .slice a es.length cap, .int .i64 k, .int .i64 s] ∧ BX 34 X (w.heap.size + 1) #[.int .i64 step, .int .i64 phase, .bool fr, .bool dn, .slice va vs.length vc, .slice ma ms.length mc] ∧ BX 34 X (w.heap.size + 2) #[.int .i64 0, .int .i64 0, .bool false, .bool false, .slice none 0 0, .slice none 0 0] ∧ Below w.heap.size w X) := fun X hX => ⟨Q0.below hX (by omega), T0.below hX (by omega), Z0.below hX (by omega), BH.out.trans (hX.mono (by omega))⟩
  have R0 : Hid (∀ X, Below W0.heap.size W0 X → EdR X (.slice a es.length cap) es ∧ MlR X (.slice va vs.length vc) vs ∧ LiR X (.slice ma ms.length mc) ms) := fun X hX => ⟨HR.out.below (HK.out _ hX).2.2.2 (Nat.le_refl _), HV.out.below (HK.out _ hX).2.2.2 (Nat.le_refl _), HM.out.below (HK.out _ hX).2.2.2 (Nat.le_refl _)⟩
  have A0 : Hid (Below W0.heap.size W0 W0) := Below.refl _ _
  have CS0 : Hid (∀ X, Below W0.heap.size W0 X → _) := fun X hX => CS.out X (R0.out X hX).1 (R0.out X hX).2.1 (R0.out X hX).2.2
  obtain ⟨q0, q1, q2, q3⟩ := Q0.all4
  obtain ⟨⟨c0, c1, c2, c3, c4, c5⟩, _⟩ := T0.all6
  clear Q0 T0 Z0 B0 CS
  by_cases h0 : se = 0
  · have CA1 : Hid (∀ X, Below W0.heap.size W0 X → _) := fun X hX => CA.out h0 X (R0.out X hX).1 (R0.out X hX).2.1 (R0.out X hX).2.2
    rw [h0] at CS0
    clear h0 CA HNE
    go_enter Try.func10, Try.ntmps10
    go_upto_region 1 with fail
    rw [← hW0]
    clear hW0
    go_wp2_with fail
    refine (CS0.out _ A0.out).mono ?_
    rintro e w1 ⟨rfl, hb1⟩
    have A1 : Hid (Below W0.heap.size W0 w1) := hb1
    obtain ⟨Q1, T1, Z1, _⟩ := HK.out _ hb1
    clear q0 q1 q2 q3 c0 c1 c2 c3 c4 c5 hb1 CS0
    obtain ⟨q0, q1, q2, q3⟩ := Q1.all4
    obtain ⟨⟨c0, c1, c2, c3, c4, c5⟩, _⟩ := T1.all6
    clear Q1 T1 Z1
    go_wp2_with fail
    refine (CA1.out _ A1.out).mono ?_
    rintro e w2 ⟨v1, v2, rfl, hv1, hv2, hb2⟩
    have A2 : Hid (Below W0.heap.size W0 w2) := A1.out.trans (hb2.mono A1.out.size)
    obtain ⟨_, _, Z2, hbw⟩ := HK.out _ A2.out
    have hs1 := A1.out.size
    obtain ⟨rf, nst, nph, nfr, ndn, nvs, nms⟩ := R
    simp only at hv1 hv2 ⊢
    have HP : Hid (StaP w (rf, ⟨nst, nph, nfr, ndn, nvs, nms⟩) (.returned (.tuple #[.agg #[.int .i64 nst, .int .i64 nph, .bool nfr, .bool ndn, v1, v2], .int .i64 rf])) (put6 w2 (w.heap.size + 2) (.int .i64 nst) (.int .i64 nph) (.bool nfr) (.bool ndn) v1 v2)) :=
      ⟨v1, v2, rfl, own_lower (own_off hv1 Z2 (by decide) (kept_put6 w2 (w.heap.size + 2) _ _ _ _ _ _)) (by omega), (hv2.off Z2 (by decide) (by decide) (kept_put6 w2 (w.heap.size + 2) _ _ _ _ _ _)).lower (by omega), below_put6 hbw (by omega) Z2.lt _ _ _ _ _ _⟩
    have RX : Hid (BX 34 (put6 w2 (w.heap.size + 2) (.int .i64 nst) (.int .i64 nph) (.bool nfr) (.bool ndn) v1 v2) (w.heap.size + 2) #[.int .i64 nst, .int .i64 nph, .bool nfr, .bool ndn, v1, v2]) := Z2.put6
    obtain ⟨a1, n1, k1, rfl⟩ : ∃ a n c, v1 = .slice a n c := by
      rcases own_shapeK hv1 with ⟨e, _⟩ | ⟨g', c', e, _⟩
      · exact ⟨_, _, _, e⟩
      · exact ⟨_, _, _, e⟩
    obtain ⟨a2, k2, rfl⟩ := hv2.shape
    obtain ⟨⟨d0, d1, d2, d3, d4, d5⟩, e0, e1, e2, e3, e4, e5⟩ := Z2.all6
    clear q0 q1 q2 q3 c0 c1 c2 c3 c4 c5 hv1 hv2 hb2 Z2 hbw
    go_wp2_with fail
    obtain ⟨⟨r0, r1, r2, r3, r4, r5⟩, _⟩ := RX.out.all6
    unfold put6 at r0 r1 r2 r3 r4 r5
    exact bodyPost_ret (v := .tuple #[.agg #[.int .i64 nst, .int .i64 nph, .bool nfr, .bool ndn, .slice a1 n1 k1, .slice a2 nms.length k2], .int .i64 rf]) (by simp [results, Try.results10, go_sem, r0, r1, r2, r3, r4, r5]) rfl HP.out
  · have HRE : Hid (R = (se, st0)) := HNE.out h0
    have t0 : (se != 0) = true := by simpa using h0
    clear h0 CA HNE
    go_enter Try.func10, Try.ntmps10
    go_upto_region 1 with fail
    rw [← hW0]
    clear hW0
    go_wp2_with fail
    refine (CS0.out _ A0.out).mono ?_
    rintro e w1 ⟨rfl, hb1⟩
    obtain ⟨_, _, Z1, b1⟩ := HK.out _ hb1
    have HP : Hid (StaP w R (.returned (.tuple #[.agg #[.int .i64 0, .int .i64 0, .bool false, .bool false, .slice none 0 0, .slice none 0 0], .int .i64 se])) (put6 w1 (w.heap.size + 2) (.int .i64 0) (.int .i64 0) (.bool false) (.bool false) (.slice none 0 0) (.slice none 0 0))) := by
      show StaP _ _ _ _
      rw [HRE.out]
      exact StaP.no (below_put6 b1 (by omega) Z1.lt _ _ _ _ _ _)
    have RX : Hid (BX 34 (put6 w1 (w.heap.size + 2) (.int .i64 0) (.int .i64 0) (.bool false) (.bool false) (.slice none 0 0) (.slice none 0 0)) (w.heap.size + 2) #[.int .i64 0, .int .i64 0, .bool false, .bool false, .slice none 0 0, .slice none 0 0]) := Z1.put6
    obtain ⟨⟨d0, d1, d2, d3, d4, d5⟩, e0, e1, e2, e3, e4, e5⟩ := Z1.all6
    clear hb1 q0 q1 q2 q3 c0 c1 c2 c3 c4 c5 CS0 Z1 b1
    go_wp2_with fail
    obtain ⟨⟨r0, r1, r2, r3, r4, r5⟩, _⟩ := RX.out.all6
    unfold put6 at r0 r1 r2 r3 r4 r5
    exact bodyPost_ret (v := .tuple #[.agg #[.int .i64 0, .int .i64 0, .bool false, .bool false, .slice none 0 0, .slice none 0 0], .int .i64 se]) (by simp [results, Try.results10, go_sem, r0, r1, r2, r3, r4, r5]) rfl HP.out
end Go.Proofs.Ytbmkgnlfccigpab

namespace Go.Proofs.Ytbmkgnlfccigpab
set_option maxRecDepth 100000
open Go.ChangeShapes Go.WideShapes Go.ChangeAt Go.RowKit

set_option maxHeartbeats 2000000 in
set_option maxRecDepth 100000 in
theorem rBegin_any (v : Value) (es : List Ed) (n k s : Int) (w : World) (h : EdR w v es) :
    Calls Try.prog 9 #[.agg #[.int .i64 n, v, .int .i64 k, .int .i64 s]] w (StaP w (begE n es k s)) := by
  have HR : Hid (EdR w v es) := h
  obtain ⟨a, cap, rfl, _, _, _, _⟩ := h
  have HCK : Hid (∀ X, EdR X (.slice a es.length cap) es → Calls Try.prog 16 #[.agg #[.int .i64 n, .slice a es.length cap, .int .i64 k, .int .i64 s]] X fun e w' => e = .returned (.int .i64 (jobE n es k s)) ∧ Below X.heap.size X w') := fun X hX => rCheck_any _ es n k s X hX
  obtain ⟨W0, hW0⟩ : ∃ W0, W0 = (w.alloc (.cells #[.int .i64 n, .slice a es.length cap, .int .i64 k, .int .i64 s] 27)).alloc (.cells #[.int .i64 0, .int .i64 0, .bool false, .bool false, .slice none 0 0, .slice none 0 0] 34) := ⟨_, rfl⟩
  obtain ⟨Q0, T0, B0, s1, s2⟩ := boxes2 w #[.int .i64 n, .slice a es.length cap, .int .i64 k, .int .i64 s] #[.int .i64 0, .int .i64 0, .bool false, .bool false, .slice none 0 0, .slice none 0 0] 27 34 W0 hW0
  have BH : Hid (Below w.heap.size w W0) := B0
  have HK : Hid (∀ X, Below W0.heap.size W0 X → BX 27 X w.heap.size #[.int .i64 n, .slice a es.length cap, .int .i64 k, .int .i64 s] ∧ BX 34 X (w.heap.size + 1) #[.int .i64 0, .int .i64 0, .bool false, .bool false, .slice none 0 0, .slice none 0 0] ∧ Below w.heap.size w X) := fun X hX => ⟨Q0.below hX (by omega), T0.below hX (by omega), BH.out.trans (hX.mono (by omega))⟩
  have R0 : Hid (EdR W0 (.slice a es.length cap) es) := HR.out.below BH.out (Nat.le_refl _)
  obtain ⟨q0, q1, q2, q3⟩ := Q0.all4
  clear Q0 T0 B0
  by_cases hj : jobE n es k s = 0
  · obtain ⟨hf, _, _⟩ := jobE_zero hj
    obtain ⟨hn0, hn1, _, _⟩ := fault_ok hf
    obtain ⟨m, rfl⟩ : ∃ m : Nat, n = m := ⟨n.toNat, by omega⟩
    have HCF : Hid (∀ X, Calls Try.prog 17 #[.int .i64 m] X (StoP X (beginS m))) := fun X => first_any m X (by omega)
    have HE : Hid (begE m es k s = (0, beginS m)) := by show begE m es k s = _; unfold begE; rw [if_pos hj, Int.toNat_natCast]
    rw [hj] at HCK
    generalize begE m es k s = R at *
    generalize beginS m = T at *
    obtain ⟨step, phase, fr, dn, vs, ms⟩ := T
    clear hf hj
    go_enter Try.func9, Try.ntmps9
    go_upto_region 1 with fail
    rw [← hW0]
    clear hW0
    go_wp2_with fail
    refine (HCK.out _ R0.out).mono ?_
    rintro e w1 ⟨rfl, hb1⟩
    have A1 : Hid (Below W0.heap.size W0 w1) := hb1
    clear q0 q1 q2 q3 HCK hb1
    obtain ⟨Q1, _, _⟩ := HK.out _ A1.out
    obtain ⟨q0, q1, q2, q3⟩ := Q1.all4
    have hs1 := A1.out.size
    clear Q1
    go_wp2_with fail
    refine (HCF.out _).mono ?_
    rintro e w2 ⟨v1, v2, rfl, hv1, hv2, hb2⟩
    simp only at hv1 hv2 ⊢
    have A2 : Hid (Below W0.heap.size W0 w2) := A1.out.trans (hb2.mono hs1)
    obtain ⟨_, Z2, hbw⟩ := HK.out _ A2.out
    have HP : Hid (StaP w R (.returned (.tuple #[.agg #[.int .i64 step, .int .i64 phase, .bool fr, .bool dn, v1, v2], .int .i64 0])) (put6 w2 (w.heap.size + 1) (.int .i64 step) (.int .i64 phase) (.bool fr) (.bool dn) v1 v2)) := by
      show StaP _ _ _ _
      rw [HE.out]
      exact StaP.yes (t := ⟨step, phase, fr, dn, vs, ms⟩) (own_lower (own_off hv1 Z2 (by decide) (kept_put6 w2 (w.heap.size + 1) _ _ _ _ _ _)) (by omega)) ((hv2.off Z2 (by decide) (by decide) (kept_put6 w2 (w.heap.size + 1) _ _ _ _ _ _)).lower (by omega)) (below_put6 hbw (by omega) Z2.lt _ _ _ _ _ _)
    have RX : Hid (BX 34 (put6 w2 (w.heap.size + 1) (.int .i64 step) (.int .i64 phase) (.bool fr) (.bool dn) v1 v2) (w.heap.size + 1) #[.int .i64 step, .int .i64 phase, .bool fr, .bool dn, v1, v2]) := Z2.put6
    obtain ⟨a1, n1, k1, rfl⟩ : ∃ a n c, v1 = .slice a n c := by
      rcases own_shapeK hv1 with ⟨e, _⟩ | ⟨g', c', e, _⟩
      · exact ⟨_, _, _, e⟩
      · exact ⟨_, _, _, e⟩
    obtain ⟨a2, k2, rfl⟩ := hv2.shape
    obtain ⟨⟨d0, d1, d2, d3, d4, d5⟩, e0, e1, e2, e3, e4, e5⟩ := Z2.all6
    clear q0 q1 q2 q3 hv1 hv2 hb2 Z2 hbw
    go_wp2_with fail
    obtain ⟨⟨r0, r1, r2, r3, r4, r5⟩, _⟩ := RX.out.all6
    unfold put6 at r0 r1 r2 r3 r4 r5
    exact bodyPost_ret (v := .tuple #[.agg #[.int .i64 step, .int .i64 phase, .bool fr, .bool dn, .slice a1 n1 k1, .slice a2 ms.length k2], .int .i64 0]) (by simp [results, Try.results9, go_sem, r0, r1, r2, r3, r4, r5]) rfl HP.out
  · have HE : Hid (begE n es k s = (jobE n es k s, st0)) := by show begE n es k s = _; unfold begE; rw [if_neg hj]
    generalize begE n es k s = R at *
    generalize jobE n es k s = je at *
    have t0 : (je != 0) = true := by simpa using hj
    clear hj
    go_enter Try.func9, Try.ntmps9
    go_upto_region 1 with fail
    rw [← hW0]
    clear hW0
    go_wp2_with fail
    refine (HCK.out _ R0.out).mono ?_
    rintro e w1 ⟨rfl, hb1⟩
    obtain ⟨_, Z2, hbw⟩ := HK.out _ hb1
    have HP : Hid (StaP w R (.returned (.tuple #[.agg #[.int .i64 0, .int .i64 0, .bool false, .bool false, .slice none 0 0, .slice none 0 0], .int .i64 je])) (put6 w1 (w.heap.size + 1) (.int .i64 0) (.int .i64 0) (.bool false) (.bool false) (.slice none 0 0) (.slice none 0 0))) := by
      show StaP _ _ _ _
      rw [HE.out]
      exact StaP.no (below_put6 hbw (by omega) Z2.lt _ _ _ _ _ _)
    have RX : Hid (BX 34 (put6 w1 (w.heap.size + 1) (.int .i64 0) (.int .i64 0) (.bool false) (.bool false) (.slice none 0 0) (.slice none 0 0)) (w.heap.size + 1) #[.int .i64 0, .int .i64 0, .bool false, .bool false, .slice none 0 0, .slice none 0 0]) := Z2.put6
    obtain ⟨⟨d0, d1, d2, d3, d4, d5⟩, e0, e1, e2, e3, e4, e5⟩ := Z2.all6
    clear hb1 q0 q1 q2 q3 HCK Z2 hbw
    go_wp2_with fail
    obtain ⟨⟨r0, r1, r2, r3, r4, r5⟩, _⟩ := RX.out.all6
    unfold put6 at r0 r1 r2 r3 r4 r5
    exact bodyPost_ret (v := .tuple #[.agg #[.int .i64 0, .int .i64 0, .bool false, .bool false, .slice none 0 0, .slice none 0 0], .int .i64 je]) (by simp [results, Try.results9, go_sem, r0, r1, r2, r3, r4, r5]) rfl HP.out
end Go.Proofs.Ytbmkgnlfccigpab

namespace Go.Proofs.Ytbmkgnlfccigpab
set_option maxRecDepth 100000

/-- P13.6. -/
def ranE (n : Int) (es : List Ed) (k s : Int) : Int × StS := if jobE n es k s = 0 then runE n.toNat es k s 100001 (0, beginS n.toNat) else (jobE n es k s, st0)
section
variable {n : Nat} {es : List Ed} {k s : Int} {t : StS}
theorem begin_may (hk : 1 ≤ k ∧ k ≤ 3) (n : Nat) : mayR n k (beginS n) = true := by
  rcases (show k = 1 ∨ k = 2 ∨ k = 3 by omega) with rfl | rfl | rfl
  · exact mayR_iff.2 ⟨_, rfl, MayI.begin n (false, false)⟩
  · exact mayR_iff.2 ⟨_, rfl, MayI.begin n (false, true)⟩
  · exact mayR_iff.2 ⟨_, rfl, MayI.begin n (true, false)⟩
theorem next_may (hn : n ≤ 200) (hg : InG n es) (hl : es.length ≤ 600) (hm : mayR n k t = true) (hd : t.done = false) (h0 : (nextE n es k s t).1 = 0) : mayR n k (nextE n es k s t).2 = true ∧ (nextE n es k s t).2.step = t.step + 1 := by
  obtain ⟨j, hj, hI⟩ := mayR_iff.1 hm
  unfold nextE at h0 ⊢
  rw [if_pos hm, if_neg (by simp [hd])] at h0 ⊢
  by_cases hs : 100000 ≤ t.step
  · rw [if_pos hs] at h0; cases h0
  · rw [if_neg hs, hj] at h0 ⊢
    simp only at h0 ⊢
    by_cases ho : overR j (rndV j s t) es = true
    · rw [if_pos ho] at h0; cases h0
    · rw [if_neg ho]
      refine ⟨?_, (behR_step j t.step t.phase _ _).1⟩
      have h2 := MayI.next hI hj hn hg hl (by omega) (by simpa using ho)
      exact mayR_iff.2 h2
theorem next_step (hm : mayR n k t = true) (hd : t.done = false) (h0 : (nextE n es k s t).1 = 0) : t.step < 100000 := by
  unfold nextE at h0
  rw [if_pos hm, if_neg (by simp [hd])] at h0
  by_cases hs : 100000 ≤ t.step
  · rw [if_pos hs] at h0; cases h0
  · omega
theorem may_step (hm : mayR n k t = true) : t.step ≤ 100000 := by
  obtain ⟨j, hj, hI⟩ := mayR_iff.1 hm
  exact hI.stp.2
theorem run_go (f : Nat) {r : Int × StS} (h : r.1 = 0) (hd : r.2.done = false) : runE n es k s (f + 1) r = runE n es k s f (nextE n es k s r.2) := by
  show (if r.1 = 0 ∧ r.2.done = false then _ else _) = _
  rw [if_pos ⟨h, hd⟩]
theorem run_end (f : Nat) {r : Int × StS} (h : ¬ (r.1 = 0 ∧ r.2.done = false)) : runE n es k s f r = r := by
  cases f with
  | zero => rfl
  | succ f => show (if r.1 = 0 ∧ r.2.done = false then _ else _) = _; rw [if_neg h]
/-- What holds all along: so many rounds are left. -/
def RanI (n : Nat) (es : List Ed) (k s : Int) (R : Int × StS) (f : Nat) (r : Int × StS) : Prop := runE n es k s f r = R ∧ (r.1 = 0 → mayR n k r.2 = true ∧ 100001 ≤ (f : Int) + r.2.step)
theorem RanI.pos {R r : Int × StS} {f : Nat} (h : RanI n es k s R f r) (h0 : r.1 = 0) : ∃ f', f = f' + 1 := by
  obtain ⟨h1, h2⟩ := h.2 h0
  have := may_step h1
  exact ⟨f - 1, by omega⟩
theorem RanI.go (hn : n ≤ 200) (hg : InG n es) (hl : es.length ≤ 600) {R r : Int × StS} {f : Nat} (h : RanI n es k s R (f + 1) r) (h0 : r.1 = 0) (hd : r.2.done = false) : RanI n es k s R f (nextE n es k s r.2) := by
  obtain ⟨h1, h2⟩ := h.2 h0
  refine ⟨by rw [← run_go f h0 hd]; exact h.1, fun h3 => ?_⟩
  obtain ⟨h4, h5⟩ := next_may hn hg hl h1 hd h3
  exact ⟨h4, by rw [h5]; omega⟩
theorem RanI.out {R r : Int × StS} {f : Nat} (h : RanI n es k s R f r) (h0 : ¬ (r.1 = 0 ∧ r.2.done = false)) : R = r := by
  rw [← h.1]; exact run_end f h0
end
theorem RanI.start {n k s : Int} {es : List Ed} {m : Nat} (hm : n = m) (h : jobE n es k s = 0) : RanI m es k s (ranE n es k s) 100001 (0, beginS m) := by
  subst hm
  refine ⟨?_, fun _ => ⟨begin_may (jobE_zero h).2.1 m, by show (100001 : Int) ≤ ((100001 : Nat) : Int) + 0; omega⟩⟩
  unfold ranE
  rw [if_pos h, Int.toNat_natCast]
end Go.Proofs.Ytbmkgnlfccigpab

namespace Go.Proofs.Ytbmkgnlfccigpab
set_option maxRecDepth 100000
open Go.ChangeShapes Go.WideShapes Go.ChangeAt Go.RowKit

set_option maxHeartbeats 4000000 in
set_option maxRecDepth 100000 in
theorem rRun_any (v : Value) (es : List Ed) (n k s : Int) (w : World) (h : EdR w v es) :
    Calls Try.prog 14 #[.agg #[.int .i64 n, v, .int .i64 k, .int .i64 s]] w (StaP w (ranE n es k s)) := by
  have HR : Hid (EdR w v es) := h
  obtain ⟨a, cap, rfl, _, _, _, _⟩ := h
  have CB : Hid (∀ X, EdR X (.slice a es.length cap) es → Calls Try.prog 9 #[.agg #[.int .i64 n, .slice a es.length cap, .int .i64 k, .int .i64 s]] X (StaP X (begE n es k s))) := fun X hX => rBegin_any _ es n k s X hX
  have CA : Hid (∀ X (T : StS) vv vm, jobE n es k s = 0 → mayR n.toNat k T = true → EdR X (.slice a es.length cap) es → MlR X vv T.vals → LiR X vm T.mail → Calls Try.prog 19 #[.agg #[.int .i64 n, .slice a es.length cap, .int .i64 k, .int .i64 s], .agg #[.int .i64 T.step, .int .i64 T.phase, .bool T.fresh, .bool T.done, vv, vm]] X (StaP X (nextE n.toNat es k s T))) := fun X T vv vm hj hm h1 h2 h3 => by
    have := after_any _ es n k s T vv vm X h1 h2 h3 hj hm
    unfold folE at this
    rw [if_neg (by simp [hj])] at this
    exact this
  have HST : Hid (jobE n es k s = 0 → RanI n.toNat es k s (ranE n es k s) 100001 (0, beginS n.toNat) ∧ begE n es k s = (0, beginS n.toNat)) := fun hj => ⟨RanI.start (by have := fault_ok (jobE_zero hj).1; omega) hj, by unfold begE; rw [if_pos hj]⟩
  have HNO : Hid (jobE n es k s ≠ 0 → ranE n es k s = begE n es k s ∧ begE n es k s = (jobE n es k s, st0)) := fun hj => ⟨by unfold begE ranE; rw [if_neg hj, if_neg hj], by unfold begE; rw [if_neg hj]⟩
  have HGO : Hid (jobE n es k s = 0 → ∀ (R r : Int × StS) (f : Nat), RanI n.toNat es k s R (f + 1) r → r.1 = 0 → r.2.done = false → RanI n.toNat es k s R f (nextE n.toNat es k s r.2)) := fun hj R r f h1 h2 h3 => by
    have h5 := fault_ok (jobE_zero hj).1
    refine RanI.go (by omega) (fun e he => ?_) h5.2.2.1 h1 h2 h3
    have := in_of_out (h5.2.2.2 e he)
    omega
  generalize ranE n es k s = R at *
  obtain ⟨W0, hW0⟩ : ∃ W0, W0 = (w.alloc (.cells #[.int .i64 n, .slice a es.length cap, .int .i64 k, .int .i64 s] 27)).alloc (.cells #[.int .i64 0, .int .i64 0, .bool false, .bool false, .slice none 0 0, .slice none 0 0] 34) := ⟨_, rfl⟩
  obtain ⟨Q0, T0, B0, s1, s2⟩ := boxes2 w #[.int .i64 n, .slice a es.length cap, .int .i64 k, .int .i64 s] #[.int .i64 0, .int .i64 0, .bool false, .bool false, .slice none 0 0, .slice none 0 0] 27 34 W0 hW0
  have BH : Hid (Below w.heap.size w W0) := B0
  have HK : Hid (∀ X, Below W0.heap.size W0 X → BX 27 X w.heap.size #[.int .i64 n, .slice a es.length cap, .int .i64 k, .int .i64 s] ∧ BX 34 X (w.heap.size + 1) #[.int .i64 0, .int .i64 0, .bool false, .bool false, .slice none 0 0, .slice none 0 0] ∧ Below w.heap.size w X) := fun X hX => ⟨Q0.below hX (by omega), T0.below hX (by omega), BH.out.trans (hX.mono (by omega))⟩
  have R0 : Hid (∀ X, Below W0.heap.size W0 X → EdR X (.slice a es.length cap) es) := fun X hX => HR.out.below (HK.out _ hX).2.2 (Nat.le_refl _)
  have A0 : Hid (Below W0.heap.size W0 W0) := Below.refl _ _
  obtain ⟨q0, q1, q2, q3⟩ := Q0.all4
  have HS1 : Hid (RanI n.toNat es k s R 100001 (begE n es k s)) := by
    by_cases hj : jobE n es k s = 0
    · obtain ⟨h1, h2⟩ := HST.out hj
      show RanI _ _ _ _ _ _ _
      rw [h2]; exact h1
    · obtain ⟨h1, h2⟩ := HNO.out hj
      exact ⟨by rw [h1]; exact run_end _ (fun g => by rw [h2] at g; exact hj g.1), fun h3 => by rw [h2] at h3; exact absurd h3 hj⟩
  have HJ0 : Hid ((begE n es k s).1 = 0 → jobE n es k s = 0) := fun h => by
    by_cases hj : jobE n es k s = 0
    · exact hj
    · rw [(HNO.out hj).2] at h; exact h
  clear Q0 T0 B0 HST HNO
  obtain ⟨RB, hRB⟩ : ∃ RB, begE n es k s = RB := ⟨_, rfl⟩
  rw [hRB] at CB HS1 HJ0
  clear hRB
  go_enter Try.func14, Try.ntmps14
  go_upto_region 1 with fail
  rw [← hW0]
  clear hW0
  go_wp2_with fail
  refine (CB.out _ (R0.out _ A0.out)).mono ?_
  rintro e w1 ⟨v1, v2, rfl, hv1, hv2, hb1⟩
  obtain ⟨a1, n1, k1, rfl⟩ : ∃ a n c, v1 = .slice a n c := by
    rcases own_shapeK hv1 with ⟨e, _⟩ | ⟨g', c', e, _⟩
    · exact ⟨_, _, _, e⟩
    · exact ⟨_, _, _, e⟩
  obtain ⟨a2, k2, rfl⟩ := hv2.shape
  generalize hn2 : RB.2.mail.length = n2 at *
  have W1 : Hid (Below W0.heap.size W0 (w1.alloc (.cells #[.int .i64 RB.2.step, .int .i64 RB.2.phase, .bool RB.2.fresh, .bool RB.2.done, .slice a1 n1 k1, .slice a2 n2 k2] 34)) ∧ BX 34 (w1.alloc (.cells #[.int .i64 RB.2.step, .int .i64 RB.2.phase, .bool RB.2.fresh, .bool RB.2.done, .slice a1 n1 k1, .slice a2 n2 k2] 34)) w1.heap.size #[.int .i64 RB.2.step, .int .i64 RB.2.phase, .bool RB.2.fresh, .bool RB.2.done, .slice a1 n1 k1, .slice a2 n2 k2] ∧ (w1.alloc (.cells #[.int .i64 RB.2.step, .int .i64 RB.2.phase, .bool RB.2.fresh, .bool RB.2.done, .slice a1 n1 k1, .slice a2 n2 k2] 34)).ownsRow W0.heap.size 44 2 (.slice a1 n1 k1) RB.2.vals.length (RB.2.vals.flatMap encM) ∧ OwnLi (w1.alloc (.cells #[.int .i64 RB.2.step, .int .i64 RB.2.phase, .bool RB.2.fresh, .bool RB.2.done, .slice a1 n1 k1, .slice a2 n2 k2] 34)) W0.heap.size (.slice a2 n2 k2) RB.2.mail ∧ W0.heap.size ≤ w1.heap.size) := ⟨hb1.alloc hb1.size _, BX.new _ _ _, hv1.alloc _, hv2.below (below_alloc _ _) (Nat.le_refl _), hb1.size⟩
  clear q0 q1 q2 q3 hv1 hv2 hb1 CB hn2
  go_upto_region 2 with fail
  generalize w1.alloc (.cells #[.int .i64 RB.2.step, .int .i64 RB.2.phase, .bool RB.2.fresh, .bool RB.2.done, .slice a1 n1 k1, .slice a2 n2 k2] 34) = w2 at *
  generalize w1.heap.size = b4 at *
  obtain ⟨A2', X2', V2', M2', hb4⟩ := W1.out
  have W2 : Hid (Below W0.heap.size W0 w2 ∧ BX 34 w2 b4 #[.int .i64 RB.2.step, .int .i64 RB.2.phase, .bool RB.2.fresh, .bool RB.2.done, .slice a1 n1 k1, .slice a2 n2 k2] ∧ w2.ownsRow W0.heap.size 44 2 (.slice a1 n1 k1) RB.2.vals.length (RB.2.vals.flatMap encM) ∧ OwnLi w2 W0.heap.size (.slice a2 n2 k2) RB.2.mail) := ⟨A2', X2', V2', M2'⟩
  clear A2' X2' V2' M2' W1
  go_wp2_with fail
  go_loopg [5] 100001 (fun gk t wr => ∃ (r : Int × StS) (vv vm : Value), t = .int .i64 r.1 ∧ (∃ a n c, vv = .slice a n c) ∧ (∃ a n c, vm = .slice a n c) ∧ gk ≤ 100001 ∧ RanI n.toNat es k s R gk r ∧ (r.1 = 0 → jobE n es k s = 0) ∧ BX 34 wr b4 #[.int .i64 r.2.step, .int .i64 r.2.phase, .bool r.2.fresh, .bool r.2.done, vv, vm] ∧ wr.ownsRow W0.heap.size 44 2 vv r.2.vals.length (r.2.vals.flatMap encM) ∧ OwnLi wr W0.heap.size vm r.2.mail ∧ Below W0.heap.size W0 wr)
  case atStart =>
    obtain ⟨A2, X2, V2, M2⟩ := W2.out
    refine ⟨RB, _, _, rfl, ⟨_, _, _, rfl⟩, ⟨_, _, _, rfl⟩, Nat.le_refl _, ?_, HJ0.out, X2, V2, M2, A2⟩
    exact HS1.out
  case round =>
    obtain ⟨r, vv, vm, rfl, ⟨x1, x2, x3, rfl⟩, ⟨y1, y2, y3, rfl⟩, hgk, hri, hj0, hx, hov, hom, hbel⟩ := hrel
    have RI : Hid (RanI n.toNat es k s R gk r) := hri
    have J0 : Hid (r.1 = 0 → jobE n es k s = 0) := hj0
    have AB : Hid (Below W0.heap.size W0 wr) := hbel
    have XB : Hid (BX 34 wr b4 #[.int .i64 r.2.step, .int .i64 r.2.phase, .bool r.2.fresh, .bool r.2.done, .slice x1 x2 x3, .slice y1 y2 y3]) := hx
    have OV : Hid (wr.ownsRow W0.heap.size 44 2 (.slice x1 x2 x3) r.2.vals.length (r.2.vals.flatMap encM)) := hov
    have OM : Hid (OwnLi wr W0.heap.size (.slice y1 y2 y3) r.2.mail) := hom
    obtain ⟨Q1, Z1, hbw⟩ := HK.out _ hbel
    obtain ⟨q0, q1, q2, q3⟩ := Q1.all4
    obtain ⟨⟨c0, c1, c2, c3, c4, c5⟩, f0, f1, f2, f3, f4, f5⟩ := hx.all6
    obtain ⟨⟨d0, d1, d2, d3, d4, d5⟩, e0, e1, e2, e3, e4, e5⟩ := Z1.all6
    have BW : Hid (Below w.heap.size w wr) := hbw
    have ZZ : Hid (BX 34 wr (w.heap.size + 1) #[.int .i64 0, .int .i64 0, .bool false, .bool false, .slice none 0 0, .slice none 0 0]) := Z1
    have hsr := hbel.size
    clear hri hj0 hx hov hom hbel Q1 Z1 hbw
    by_cases hgo : r.1 = 0 ∧ r.2.done = false
    · have hj := J0.out hgo.1
      obtain ⟨f, rfl⟩ := RI.out.pos hgo.1
      have RI2 : Hid (RanI n.toNat es k s R f (nextE n.toNat es k s r.2)) := HGO.out hj R r f RI.out hgo.1 hgo.2
      have HMY := (RI.out.2 hgo.1).1
      have CA1 : Hid (∀ X, EdR X (.slice a es.length cap) es → MlR X (.slice x1 x2 x3) r.2.vals → LiR X (.slice y1 y2 y3) r.2.mail → _) := fun X h1 h2 h3 => CA.out X r.2 _ _ hj HMY h1 h2 h3
      have MV : Hid (MlR wr (.slice x1 x2 x3) r.2.vals) := RowK.own encM_len OV.out
      have MM : Hid (LiR wr (.slice y1 y2 y3) r.2.mail) := OM.out.reads
      have HJX : Hid (jobE n es k s = 0) := hj
      generalize nextE n.toNat es k s r.2 = N at *
      have t0 : (r.1 == 0) = true := by simpa using hgo.1
      rw [hgo.2] at c3 CA1
      clear hj HMY hgo RI OV OM CA HGO
      go_wp2_with fail
      refine (CA1.out _ (R0.out _ AB.out) MV.out MM.out).mono ?_
      rintro e w3 ⟨v1, v2, rfl, hv1, hv2, hb3⟩
      obtain ⟨a5, n5, k5, rfl⟩ : ∃ a n c, v1 = .slice a n c := by
        rcases own_shapeK hv1 with ⟨e, _⟩ | ⟨g', c', e, _⟩
        · exact ⟨_, _, _, e⟩
        · exact ⟨_, _, _, e⟩
      obtain ⟨a6, k6, rfl⟩ := hv2.shape
      generalize hn6 : N.2.mail.length = n6 at *
      have A3 : Below W0.heap.size W0 w3 := AB.out.trans (hb3.mono hsr)
      have X3 := XB.out.below hb3 XB.out.lt
      have XN : Hid (BX 34 (put6 w3 b4 (.int .i64 N.2.step) (.int .i64 N.2.phase) (.bool N.2.fresh) (.bool N.2.done) (.slice a5 n5 k5) (.slice a6 n6 k6)) b4 #[.int .i64 N.2.step, .int .i64 N.2.phase, .bool N.2.fresh, .bool N.2.done, .slice a5 n5 k5, .slice a6 n6 k6]) := X3.put6
      have VN : Hid ((put6 w3 b4 (.int .i64 N.2.step) (.int .i64 N.2.phase) (.bool N.2.fresh) (.bool N.2.done) (.slice a5 n5 k5) (.slice a6 n6 k6)).ownsRow W0.heap.size 44 2 (.slice a5 n5 k5) N.2.vals.length (N.2.vals.flatMap encM)) := own_lower (own_off hv1 X3 (by decide) (kept_put6 w3 b4 _ _ _ _ _ _)) hsr
      have MN : Hid (OwnLi (put6 w3 b4 (.int .i64 N.2.step) (.int .i64 N.2.phase) (.bool N.2.fresh) (.bool N.2.done) (.slice a5 n5 k5) (.slice a6 n6 k6)) W0.heap.size (.slice a6 n6 k6) N.2.mail) := (hv2.off X3 (by decide) (by decide) (kept_put6 w3 b4 _ _ _ _ _ _)).lower hsr
      have AN : Hid (Below W0.heap.size W0 (put6 w3 b4 (.int .i64 N.2.step) (.int .i64 N.2.phase) (.bool N.2.fresh) (.bool N.2.done) (.slice a5 n5 k5) (.slice a6 n6 k6))) := below_put6 A3 hb4 X3.lt _ _ _ _ _ _
      clear q0 q1 q2 q3 c0 c1 c2 c3 c4 c5 f0 f1 f2 f3 f4 f5 d0 d1 d2 d3 d4 d5 e0 e1 e2 e3 e4 e5 hn6 hv1 hv2
      obtain ⟨⟨c0, c1, c2, c3, c4, c5⟩, f0, f1, f2, f3, f4, f5⟩ := X3.all6
      clear X3 A3 hb3
      unfold put6 at XN VN MN AN
      go_wp2_with fail
      go_roundg f
      case measure => omega
      case rel => exact ⟨N, _, _, rfl, ⟨_, _, _, rfl⟩, ⟨_, _, _, rfl⟩, by omega, RI2.out, fun _ => HJX.out, XN.out, VN.out, MN.out, AN.out⟩
    · have HRE : Hid (R = r) := RI.out.out hgo
      have z2 := ZZ.out
      have RX : Hid (BX 34 (put6 wr (w.heap.size + 1) (.int .i64 r.2.step) (.int .i64 r.2.phase) (.bool r.2.fresh) (.bool r.2.done) (.slice x1 x2 x3) (.slice y1 y2 y3)) (w.heap.size + 1) #[.int .i64 r.2.step, .int .i64 r.2.phase, .bool r.2.fresh, .bool r.2.done, .slice x1 x2 x3, .slice y1 y2 y3]) := z2.put6
      have HP : Hid (StaP w R (.returned (.tuple #[.agg #[.int .i64 r.2.step, .int .i64 r.2.phase, .bool r.2.fresh, .bool r.2.done, .slice x1 x2 x3, .slice y1 y2 y3], .int .i64 r.1])) (put6 wr (w.heap.size + 1) (.int .i64 r.2.step) (.int .i64 r.2.phase) (.bool r.2.fresh) (.bool r.2.done) (.slice x1 x2 x3) (.slice y1 y2 y3))) := by
        show StaP _ _ _ _
        rw [HRE.out]
        exact ⟨_, _, rfl, own_lower (own_off OV.out z2 (by decide) (kept_put6 wr (w.heap.size + 1) _ _ _ _ _ _)) (by omega), (OM.out.off z2 (by decide) (by decide) (kept_put6 wr (w.heap.size + 1) _ _ _ _ _ _)).lower (by omega), below_put6 BW.out (by omega) z2.lt _ _ _ _ _ _⟩
      clear z2
      by_cases h1 : r.1 = 0
      · have t0 : (r.1 == 0) = true := by simpa using h1
        have hd : r.2.done = true := by
          cases hdn : r.2.done
          · exact absurd ⟨h1, hdn⟩ hgo
          · rfl
        rw [hd] at c3 RX HP
        clear hgo h1 hd CA HGO
        go_wp2_with fail
        obtain ⟨⟨r0, r1, r2, r3, r4, r5⟩, _⟩ := RX.out.all6
        unfold put6 at r0 r1 r2 r3 r4 r5
        exact bodyPost_ret (v := .tuple #[.agg #[.int .i64 r.2.step, .int .i64 r.2.phase, .bool r.2.fresh, .bool true, .slice x1 x2 x3, .slice y1 y2 y3], .int .i64 r.1]) (by simp [results, Try.results14, go_sem, r0, r1, r2, r3, r4, r5]) rfl HP.out
      · have t0 : (r.1 == 0) = false := by simpa using h1
        clear hgo h1 CA HGO
        go_wp2_with fail
        obtain ⟨⟨r0, r1, r2, r3, r4, r5⟩, _⟩ := RX.out.all6
        unfold put6 at r0 r1 r2 r3 r4 r5
        exact bodyPost_ret (v := .tuple #[.agg #[.int .i64 r.2.step, .int .i64 r.2.phase, .bool r.2.fresh, .bool r.2.done, .slice x1 x2 x3, .slice y1 y2 y3], .int .i64 r.1]) (by simp [results, Try.results14, go_sem, r0, r1, r2, r3, r4, r5]) rfl HP.out
end Go.Proofs.Ytbmkgnlfccigpab

namespace Go.Proofs.Ytbmkgnlfccigpab
set_option maxRecDepth 100000

/-- How a job's run ends: all is well, and it is done. -/
structure RanT (n : Int) (es : List Ed) (k s : Int) (T : StS) : Prop where
  job : jobE n es k s = 0
  ran : ranE n es k s = (0, T)
  may : mayR n.toNat k T = true
  done : T.done = true
theorem ranT_of {m i : Nat} {es : List Ed} {k s : Int} {T : StS} (hj : jobE (m : Int) es k s = 0) (hg : InG m es) (hG : GoesR m es k s i (beginS m) T) (hi : i ≤ 100000) (hd : T.done = true) : RanT (m : Int) es k s T := by
  obtain ⟨hf, hk, _⟩ := jobE_zero hj
  have h5 := fault_ok hf
  obtain ⟨h1, h2, _⟩ := goes_run (s := s) (by omega) hg h5.2.2.1 i (100001 - i) (beginS m) T hG (begin_may hk m) (by show (0 : Int) + i ≤ 100000; omega)
  rw [show 100001 - i + i = 100001 by omega, runE_done _ hd] at h1
  refine ⟨hj, ?_, by rw [Int.toNat_natCast]; exact h2, hd⟩
  unfold ranE
  rw [if_pos hj, Int.toNat_natCast]
  exact h1
theorem tell_fst {k : Int} (hk : k ≠ 3) (l : List Ml) : l.map (tellV k) = l.map fun x => x.1 := List.map_congr_left fun x _ => by unfold tellV; rw [if_neg hk]
theorem tell_snd (l : List Ml) : l.map (tellV 3) = l.map fun x => x.2 := List.map_congr_left fun x _ => by unfold tellV; rw [if_pos rfl]
end Go.Proofs.Ytbmkgnlfccigpab

namespace Go.Proofs.Ytbmkgnlfccigpab
set_option maxRecDepth 100000
open Go.ChangeShapes Go.WideShapes Go.ChangeAt Go.RowKit

/-- A whole store into a box of four cells. -/
def put4 (w : World) (q : Nat) (a b c d : Value) : World := (((w.setCell ⟨q, 0, none⟩ a).setCell ⟨q, 1, none⟩ b).setCell ⟨q, 2, none⟩ c).setCell ⟨q, 3, none⟩ d
theorem BX.put4 {t : TypeId} {w : World} {q : Nat} {a b c d x1 x2 x3 x4 : Value} (h : BX t w q #[a, b, c, d]) : BX t (Go.Proofs.Ytbmkgnlfccigpab.put4 w q x1 x2 x3 x4) q #[x1, x2, x3, x4] := (((h.set 0 x1).set 1 x2).set 2 x3).set 3 x4
theorem kept_put4 (w : World) (q : Nat) (a b c d : Value) : Kept (fun k => k = q) w (Go.Proofs.Ytbmkgnlfccigpab.put4 w q a b c d) := (((Kept.box _ _ _ _).trans (Kept.box _ _ _ _)).trans (Kept.box _ _ _ _)).trans (Kept.box _ _ _ _)
end Go.Proofs.Ytbmkgnlfccigpab

namespace Go.Proofs.Ytbmkgnlfccigpab
set_option maxRecDepth 100000
open Go.ChangeShapes Go.WideShapes Go.ChangeAt Go.RowKit

/-- A state that lies in the box b, with rows of the call's own. -/
structure BxS (W0 : World) (b : Nat) (t : StS) (va ma : Value) (w : World) : Prop where
  x : BX 34 w b #[.int .i64 t.step, .int .i64 t.phase, .bool t.fresh, .bool t.done, va, ma]
  o : w.ownsRow W0.heap.size 44 2 va t.vals.length (t.vals.flatMap encM)
  l : OwnLi w W0.heap.size ma t.mail
  b : W0.heap.size ≤ b
theorem BxS.below {W0 : World} {b : Nat} {t : StS} {va ma : Value} {w w' : World} (h : BxS W0 b t va ma w) (hb : Below w.heap.size w w') : BxS W0 b t va ma w' :=
  ⟨h.x.below hb h.x.lt, own_below h.o hb (Nat.le_refl _), h.l.below hb (Nat.le_refl _), h.b⟩
theorem BxS.other {W0 : World} {b q : Nat} {t : StS} {va ma : Value} {w w' : World} {cs : Array Value} (h : BxS W0 b t va ma w) (hq : BX 34 w q cs) (hk : Kept (fun k => k = q) w w') (hne : b ≠ q) : BxS W0 b t va ma w' :=
  ⟨h.x.kept hk hne, own_off h.o hq (by decide) hk, h.l.off hq (by decide) (by decide) hk, h.b⟩
theorem BxS.put {W0 : World} {b : Nat} {t t' : StS} {va ma vb mb : Value} {w : World} (h : BxS W0 b t va ma w) (ho : w.ownsRow W0.heap.size 44 2 vb t'.vals.length (t'.vals.flatMap encM)) (hl : OwnLi w W0.heap.size mb t'.mail) :
    BxS W0 b t' vb mb (put6 w b (.int .i64 t'.step) (.int .i64 t'.phase) (.bool t'.fresh) (.bool t'.done) vb mb) :=
  ⟨h.x.put6, own_off ho h.x (by decide) (kept_put6 _ _ _ _ _ _ _ _), hl.off h.x (by decide) (by decide) (kept_put6 _ _ _ _ _ _ _ _), h.b⟩
theorem BxS.new {W0 w : World} {t : StS} {va ma : Value} (ho : w.ownsRow W0.heap.size 44 2 va t.vals.length (t.vals.flatMap encM)) (hl : OwnLi w W0.heap.size ma t.mail) (hb : Below W0.heap.size W0 w) :
    BxS W0 w.heap.size t va ma (w.alloc (.cells #[.int .i64 t.step, .int .i64 t.phase, .bool t.fresh, .bool t.done, va, ma] 34)) :=
  ⟨BX.new _ _ _, ho.alloc _, hl.below (below_alloc _ _) (Nat.le_refl _), hb.size⟩
theorem BxS.reads {W0 : World} {b : Nat} {t : StS} {va ma : Value} {w : World} (h : BxS W0 b t va ma w) : MlR w va t.vals ∧ LiR w ma t.mail := ⟨RowK.own encM_len h.o, h.l.reads⟩
theorem sta_shape {w w' : World} {t : StS} {v1 v2 : Value} (h1 : w'.ownsRow w.heap.size 44 2 v1 t.vals.length (t.vals.flatMap encM)) (h2 : OwnLi w' w.heap.size v2 t.mail) : (∃ a n c, v1 = .slice a n c) ∧ ∃ a n c, v2 = .slice a n c := by
  refine ⟨?_, ?_⟩
  · rcases own_shapeK h1 with ⟨e, _⟩ | ⟨g', c', e, _⟩
    · exact ⟨_, _, _, e⟩
    · exact ⟨_, _, _, e⟩
  · obtain ⟨a, k, e⟩ := h2.shape
    exact ⟨_, _, _, e⟩

set_option maxHeartbeats 2000000 in
set_option maxRecDepth 100000 in
/-- The keeping laws' own jobOf. -/
theorem kjob_any (n kd sr : Int) (v : Value) (ws : List Ed) (w : World) (h : EdR w v ws) (hw : ∀ x ∈ ws, edB x) (hn : i64B n) (hkd : i64B kd) (hsr : i64B sr) :
    Calls Try.prog 5 #[.int .i64 n, v, .int .i64 kd, .int .i64 sr] w fun e w' => ∃ v', e = .returned (.agg #[.int .i64 (1 + pickF n 6), v', .int .i64 (1 + pickF kd 3), .int .i64 (pickF sr (1 + pickF n 6))]) ∧ w'.ownsRow w.heap.size 50 3 v' (madeL (1 + pickF n 6) ws).length ((madeL (1 + pickF n 6) ws).flatMap encE) ∧ Below w.heap.size w w' := by
  have hpb := pickF_bd n 6 (by omega)
  have hpk := pickF_bd kd 3 (by omega)
  have HR : Hid (EdR w v ws) := h
  have HM : Hid (∀ X, EdR X v ws → Calls Try.prog 13 #[.int .i64 n, v, .int .i64 6] X fun e w' => ∃ v', e = .returned (.agg #[.int .i64 (1 + pickF n 6), v']) ∧ w'.ownsRow X.heap.size 50 3 v' (madeL (1 + pickF n 6) ws).length ((madeL (1 + pickF n 6) ws).flatMap encE) ∧ Below X.heap.size X w') := fun X hX => made_any n 6 _ ws X hX hw hn (by omega) (by omega)
  have CK : Hid (∀ X, Calls Try.prog 6 #[.int .i64 kd, .int .i64 3] X fun e w' => ∃ v, e = .returned v ∧ (v = .int .i64 (pickF kd 3) ∧ X = w')) := fun X => (picked_any kd 3 X hkd.1 hkd.2 (by omega) (by omega)).mono fun e w' h => ⟨_, h.1, rfl, h.2.symm⟩
  have CS : Hid (∀ X, Calls Try.prog 6 #[.int .i64 sr, .int .i64 (1 + pickF n 6)] X fun e w' => ∃ v, e = .returned v ∧ (v = .int .i64 (pickF sr (1 + pickF n 6)) ∧ X = w')) := fun X => (picked_any sr (1 + pickF n 6) X hsr.1 hsr.2 (by omega) (by omega)).mono fun e w' h => ⟨_, h.1, rfl, h.2.symm⟩
  have w1k : IntKind.i64.wrap (1 + pickF kd 3) = 1 + pickF kd 3 := wrap_id64 (by omega) (by omega)
  obtain ⟨a, cap, rfl⟩ := h.shape
  generalize madeL (1 + pickF n 6) ws = E at *
  generalize pickF sr (1 + pickF n 6) = S at *
  generalize 1 + pickF n 6 = N at *
  generalize pickF kd 3 = K at *
  clear h hw hn hkd hsr hpb hpk
  have Z0 : BX 27 (w.alloc (.cells #[.int .i64 0, .slice none 0 0, .int .i64 0, .int .i64 0] 27)) w.heap.size #[.int .i64 0, .slice none 0 0, .int .i64 0, .int .i64 0] := BX.new _ _ _
  have B0 : Below w.heap.size w (w.alloc (.cells #[.int .i64 0, .slice none 0 0, .int .i64 0, .int .i64 0] 27)) := below_alloc _ _
  go_enter Try.func5, Try.ntmps5
  go_upto_region 1 with fail
  generalize w.alloc (.cells #[.int .i64 0, .slice none 0 0, .int .i64 0, .int .i64 0] 27) = W0 at *
  have HZ0 : Hid (BX 27 W0 w.heap.size #[.int .i64 0, .slice none 0 0, .int .i64 0, .int .i64 0]) := Z0
  have HB0 : Hid (Below w.heap.size w W0) := B0
  have R0 : Hid (EdR W0 (.slice a ws.length cap) ws) := HR.out.below B0 (Nat.le_refl _)
  clear Z0 B0
  go_wp2_with fail
  refine (HM.out _ R0.out).mono ?_
  rintro e w1 ⟨va, rfl, ho1, hb1⟩
  obtain ⟨aa, ac, rfl⟩ := (RowK.own encE_len ho1 : EdR w1 va E).shape
  have W2 : Hid (BX 25 (w1.alloc (.cells #[.int .i64 N, .slice aa E.length ac] 25)) w1.heap.size #[.int .i64 N, .slice aa E.length ac] ∧ BX 27 (w1.alloc (.cells #[.int .i64 N, .slice aa E.length ac] 25)) w.heap.size #[.int .i64 0, .slice none 0 0, .int .i64 0, .int .i64 0] ∧ (w1.alloc (.cells #[.int .i64 N, .slice aa E.length ac] 25)).ownsRow w.heap.size 50 3 (.slice aa E.length ac) E.length (E.flatMap encE) ∧ Below w.heap.size w (w1.alloc (.cells #[.int .i64 N, .slice aa E.length ac] 25)) ∧ w1.heap.size ≠ w.heap.size) := by
    have hz := HZ0.out.below hb1 HZ0.out.lt
    refine ⟨BX.new _ _ _, hz.below (below_alloc _ _) hz.lt, (own_lower ho1 HB0.out.size).alloc _, (HB0.out.trans (hb1.mono HB0.out.size)).alloc (by have := HB0.out.size; have := hb1.size; omega) _, ?_⟩
    have := hz.lt
    omega
  clear ho1 hb1 HZ0 HB0 R0 HM
  go_upto_region 2 with fail
  generalize w1.alloc (.cells #[.int .i64 N, .slice aa E.length ac] 25) = W3 at *
  generalize w1.heap.size = gq at *
  obtain ⟨g3, z3, o3, b3, hne⟩ := W2.out
  have HZ3 : Hid (BX 27 W3 w.heap.size #[.int .i64 0, .slice none 0 0, .int .i64 0, .int .i64 0]) := z3
  have HO3 : Hid (W3.ownsRow w.heap.size 50 3 (.slice aa E.length ac) E.length (E.flatMap encE)) := o3
  have HB3 : Hid (Below w.heap.size w W3) := b3
  obtain ⟨g0, g1, _⟩ := g3.all2
  obtain ⟨z0, z1, z2, z4⟩ := z3.all4
  have g0l : gq < W3.drew.heap.size := g3.lt
  have HS0 : Hid (W3.drew.cell? ⟨gq, 0, none⟩ = some (.int .i64 N) ∧ W3.drew.cell? ⟨gq, 1, none⟩ = some (.slice aa E.length ac)) := ⟨g0, g1⟩
  have ep : ∀ args w, (callFunc 6 args).run Try.prog w = .ok (.enter 6 args) w := enters_of Try.func6 (by kernel_rfl) rfl
  clear g3 z3 o3 b3 W2
  refine wp_region_held (S := fun V => (V.cell? ⟨gq, 0, none⟩ = some (.int .i64 N) ∧ V.cell? ⟨gq, 1, none⟩ = some (.slice aa E.length ac))) (by kernel_rfl) ?_
  simp only [List.size_toArray, List.length_cons, List.length_nil, Nat.reduceAdd]
  refine takeH (i := 0) (v := .agg #[.int .i64 N, .slice aa E.length ac]) (d := 13) rfl rfl (by kernel_rfl) (by kernel_rfl) (by kernel_rfl) (fun _ _ _ h => h) (by rfl) (fun V hV => by obtain ⟨v1, v2⟩ := hV; go_simp) HS0.out ?_
  simp only [Act.put, List.setIfInBounds_toArray, List.set_cons_zero, List.set_cons_succ]
  refine takeH (i := 1) (v := .int .i64 kd) (d := 14) rfl rfl (by kernel_rfl) (by kernel_rfl) (by kernel_rfl) (fun _ _ _ h => h) (by rfl) (fun V hV => by obtain ⟨v1, v2⟩ := hV; go_simp) HS0.out ?_
  simp only [Act.put, List.setIfInBounds_toArray, List.set_cons_zero, List.set_cons_succ]
  refine takeH (i := 4) (v := .int .i64 sr) (d := 17) rfl rfl (by kernel_rfl) (by kernel_rfl) (by kernel_rfl) (fun _ _ _ h => h) (by rfl) (fun V hV => by obtain ⟨v1, v2⟩ := hV; go_simp) HS0.out ?_
  simp only [Act.put, List.setIfInBounds_toArray, List.set_cons_zero, List.set_cons_succ]
  refine takeH (i := 5) (v := .pointer (some ⟨gq, 0, none⟩)) (d := 18) rfl rfl (by kernel_rfl) (by kernel_rfl) (by kernel_rfl) (fun _ _ _ h => h) (by rfl) (fun V hV => by obtain ⟨v1, v2⟩ := hV; go_simp) HS0.out ?_
  simp only [Act.put, List.setIfInBounds_toArray, List.set_cons_zero, List.set_cons_succ]
  refine takeH (i := 6) (v := .int .i64 N) (d := 19) rfl rfl (by kernel_rfl) (by kernel_rfl) (by kernel_rfl) (fun _ _ _ h => h) (by rfl) (fun V hV => by obtain ⟨v1, v2⟩ := hV; go_simp) HS0.out ?_
  simp only [Act.put, List.setIfInBounds_toArray, List.set_cons_zero, List.set_cons_succ]
  refine oneH (i := 2) rfl (by kernel_rfl) rfl (call_gets (d := 15) (f := 6) (xs := #[.tmp 14, .const (.int .i64 3)]) (ats := #[3, 3]) rfl rfl ep (vs := #[.int .i64 kd, .int .i64 3]) (by simp [Act.eval]) (CK.out _) ?_)
  rintro vr wk ⟨rfl, rfl⟩
  refine ⟨HS0.out, ?_⟩
  simp only [Act.put, List.setIfInBounds_toArray, List.set_cons_zero, List.set_cons_succ]
  refine takeH (i := 3) (v := .int .i64 (1 + K)) (d := 16) rfl rfl (by kernel_rfl) (by kernel_rfl) (by kernel_rfl) (fun _ _ _ h => h) (by rfl) (fun V hV => by obtain ⟨v1, v2⟩ := hV; go_simp) HS0.out ?_
  simp only [Act.put, List.setIfInBounds_toArray, List.set_cons_zero, List.set_cons_succ]
  refine oneH (i := 7) rfl (by kernel_rfl) rfl (call_gets (d := 20) (f := 6) (xs := #[.tmp 17, .tmp 19]) (ats := #[3, 3]) rfl rfl ep (vs := #[.int .i64 sr, .int .i64 N]) (by simp [Act.eval]) (CS.out _) ?_)
  rintro vr wk ⟨rfl, rfl⟩
  refine ⟨HS0.out, ?_⟩
  simp only [Act.put, List.setIfInBounds_toArray, List.set_cons_zero, List.set_cons_succ]
  refine takeH (i := 8) (v := .agg #[.int .i64 N, .slice aa E.length ac, .int .i64 (1 + K), .int .i64 S]) (d := 21) rfl rfl (by kernel_rfl) (by kernel_rfl) (by kernel_rfl) (fun _ _ _ h => h) (by rfl) (fun V hV => by obtain ⟨v1, v2⟩ := hV; go_simp) HS0.out ?_
  simp only [Act.put, List.setIfInBounds_toArray, List.set_cons_zero, List.set_cons_succ]
  have zd : BX 27 W3.drew w.heap.size #[.int .i64 0, .slice none 0 0, .int .i64 0, .int .i64 0] := HZ3.out
  have RX : Hid (BX 27 (put4 W3.drew w.heap.size (.int .i64 N) (.slice aa E.length ac) (.int .i64 (1 + K)) (.int .i64 S)) w.heap.size #[.int .i64 N, .slice aa E.length ac, .int .i64 (1 + K), .int .i64 S]) := zd.put4
  have kp : Kept (fun k => k = w.heap.size) W3.drew (put4 W3.drew w.heap.size (.int .i64 N) (.slice aa E.length ac) (.int .i64 (1 + K)) (.int .i64 S)) := kept_put4 _ _ _ _ _ _
  have bd : Below w.heap.size w W3.drew := HB3.out.drew
  have HP : Hid ((put4 W3.drew w.heap.size (.int .i64 N) (.slice aa E.length ac) (.int .i64 (1 + K)) (.int .i64 S)).ownsRow w.heap.size 50 3 (.slice aa E.length ac) E.length (E.flatMap encE) ∧ Below w.heap.size w (put4 W3.drew w.heap.size (.int .i64 N) (.slice aa E.length ac) (.int .i64 (1 + K)) (.int .i64 S))) := ⟨own_off (own_below HO3.out (Below.refl _ _).drew (Nat.le_refl _)) zd (by decide) kp, bd.trans (kp.below bd.size (fun q hq => by omega))⟩
  have HSN : Hid ((put4 W3.drew w.heap.size (.int .i64 N) (.slice aa E.length ac) (.int .i64 (1 + K)) (.int .i64 S)).cell? ⟨gq, 0, none⟩ = some (.int .i64 N) ∧ (put4 W3.drew w.heap.size (.int .i64 N) (.slice aa E.length ac) (.int .i64 (1 + K)) (.int .i64 S)).cell? ⟨gq, 1, none⟩ = some (.slice aa E.length ac)) := ⟨by rw [kp.cell (p := ⟨gq, 0, none⟩) (by have := g0l; exact this) (fun e => hne e)]; exact HS0.out.1, by rw [kp.cell (p := ⟨gq, 1, none⟩) (by have := g0l; exact this) (fun e => hne e)]; exact HS0.out.2⟩
  have f0 := HZ3.out.frozen 0
  have f1 := HZ3.out.frozen 1
  have f2 := HZ3.out.frozen 2
  have f3 := HZ3.out.frozen 3
  refine oneH (i := 9) rfl (by kernel_rfl) rfl (op_skip (w' := put4 W3.drew w.heap.size (.int .i64 N) (.slice aa E.length ac) (.int .i64 (1 + K)) (.int .i64 S)) rfl (by unfold put4; go_simp) ⟨HSN.out, ?_⟩)
  refine wpAnyH_done (by kernel_rfl) ?_ _
  obtain ⟨r0, r1, r2, r3⟩ := RX.out.all4
  clear zd kp bd HSN HZ3 HO3 HB3 HS0 z0 z1 z2 z4 f0 f1 f2 f3 g0 g1
  generalize put4 W3.drew w.heap.size (.int .i64 N) (.slice aa E.length ac) (.int .i64 (1 + K)) (.int .i64 S) = WZ at *
  go_wp2_with fail
  exact bodyPost_ret (v := .agg #[.int .i64 N, .slice aa E.length ac, .int .i64 (1 + K), .int .i64 S]) (by simp [results, Try.results5, go_sem, r0, r1, r2, r3]) rfl ⟨_, rfl, HP.out.1, HP.out.2⟩
end Go.Proofs.Ytbmkgnlfccigpab

namespace Go.Proofs.Ytbmkgnlfccigpab
set_option maxRecDepth 100000

theorem sumW_most {p : List Ed} {M : Int} (h : ∀ e ∈ p, e.2.2 ≤ M) : sumW p ≤ p.length * M := by
  induction p with
  | nil => simp [sumW]
  | cons e p ih =>
    have h1 := h e (by simp)
    have h2 := ih (fun d hd => h d (by simp [hd]))
    rw [sumW_cons, List.length_cons]
    have : ((p.length + 1 : Nat) : Int) * M = p.length * M + M := by rw [Int.natCast_add, Int.add_mul]; simp
    omega
/-- Walks, one edge behind another. -/
theorem walk_ind {es : List Ed} {s : Int} {P : List Ed → Int → Prop} (h0 : P [] s) (h1 : ∀ p e, (∀ d ∈ p, d ∈ es) → e ∈ es → Chn s p e.1 → P p e.1 → P (p ++ [e]) e.2.1) : ∀ (k : Nat) (p : List Ed) (v : Int), p.length = k → (∀ d ∈ p, d ∈ es) → Chn s p v → P p v
  | 0, p, v, hk, _, hc => by
    have e : p = [] := List.length_eq_zero_iff.1 hk
    subst e
    have hc' : s = v := hc
    rw [← hc']
    exact h0
  | k + 1, p, v, hk, hp, hc => by
    have hne : p ≠ [] := by intro e; rw [e] at hk; simp at hk
    have e1 : p = p.dropLast ++ [p.getLast hne] := (List.dropLast_concat_getLast hne).symm
    have hl : p.dropLast.length = k := by rw [List.length_dropLast]; omega
    generalize p.dropLast = q at e1 hl
    generalize p.getLast hne = e at e1
    subst e1
    obtain ⟨c1, c2⟩ := chn_snoc hc
    have hq : ∀ d ∈ q, d ∈ es := fun d hd => hp d (by simp [hd])
    rw [← c2]
    exact h1 q e hq (hp e (by simp)) c1 (walk_ind h0 h1 k q e.1 hl hq c1)

/-- An edge that has nothing left to tell. -/
def Rx (l : List Int) (e : Ed) : Prop := 0 ≤ atD l e.1 → 0 ≤ atD l e.2.1 ∧ atD l e.2.1 ≤ atD l e.1 + e.2.2
theorem dist_fix {n : Nat} {es : List Ed} {s : Int} {l : List Int} (h : DI n es s l) (h0 : atD l s = 0) (hr : ∀ e ∈ es, Rx l e) : DistL n es s l := by
  have hA : ∀ (p : List Ed) (v : Int), (∀ e ∈ p, e ∈ es) → Chn s p v → 0 ≤ atD l v ∧ atD l v ≤ sumW p := fun p v hp hc =>
    walk_ind (P := fun p v => 0 ≤ atD l v ∧ atD l v ≤ sumW p) (by rw [h0, sumW_nil]; omega) (fun p e _ he _ ih => by
      have := hr e he ih.1
      rw [sumW_app, sumW_cons, sumW_nil]
      omega) p.length p v rfl hp hc
  refine ⟨h.1, fun v hv => ?_⟩
  rcases h.2 v hv with h' | ⟨g0, p, hp, hc, hw⟩
  · refine .inl ⟨h', fun ⟨p, hp, hc⟩ => ?_⟩
    have := hA p v hp hc
    omega
  · exact .inr ⟨g0, ⟨p, hp, hc, hw⟩, fun q hq hd => (hA q v hq hd).2⟩
theorem reach_fix {n : Nat} {es : List Ed} {s : Int} {l : List Bool} (h : RI n es s l) (h0 : atB l s = true) (hr : ∀ e ∈ es, atB l e.1 = true → atB l e.2.1 = true) : ReachL n es s l :=
  ⟨h.1, fun v hv => ⟨h.2 v hv, fun ⟨p, hp, hc⟩ => walk_ind (P := fun _ v => atB l v = true) h0 (fun _ e _ he _ ih => hr e he ih) p.length p v rfl hp hc⟩⟩
/-- The two ends of each edge have one number, each number is its own. -/
theorem weak_fix {n : Nat} {es : List Ed} {l : List Int} (h : WI n es l) (hle : ∀ v : Int, 0 ≤ v ∧ v < (n : Int) → atD l v ≤ v) (hr : ∀ e ∈ es, atD l e.1 = atD l e.2.1) : WeakL n es l :=
  ⟨h.1, fun v hv => ⟨(h.2 v hv).1, (h.2 v hv).2, fun u hu ⟨p, hp, hc⟩ => by
    have hb : ∀ e ∈ bothW es, atD l e.1 = atD l e.2.1 := fun e he => by
      rcases List.mem_append.1 he with g | g
      · exact hr e g
      · obtain ⟨d, hd, rfl⟩ := List.mem_map.1 g
        exact (hr d hd).symm
    have : atD l v = atD l u := walk_ind (P := fun _ v => atD l v = atD l u) rfl (fun _ e _ he _ ih => by rw [← hb e he, ih]) p.length p v rfl hp hc
    have := hle u hu
    omega⟩⟩
/-- Numbers by vertices taken from below: each vertex that has none yet gives its own to all that are tied to it. -/
def LsI (n : Nat) (T : Int → Int → Prop) (k : Nat) (l : List Int) : Prop := l.length = n ∧ ∀ v : Int, 0 ≤ v ∧ v < (n : Int) →
  (atD l v = -1 ∧ ∀ u : Int, 0 ≤ u ∧ u < (k : Int) → ¬ T u v) ∨ ((0 ≤ atD l v ∧ atD l v < (k : Int)) ∧ T (atD l v) v ∧ ∀ u : Int, 0 ≤ u ∧ u < (n : Int) → T u v → atD l v ≤ u)
theorem ls_start (n : Nat) (T : Int → Int → Prop) : LsI n T 0 (List.replicate n (-1)) := ⟨by simp, fun v _ => .inl ⟨rep_at, fun u hu => by omega⟩⟩
theorem ls_end {n : Nat} {T : Int → Int → Prop} {l : List Int} (hr : ∀ v, T v v) (h : LsI n T n l) : LeastL n T l := ⟨h.1, fun v hv => (h.2 v hv).resolve_left fun ⟨_, g⟩ => g v hv (hr v)⟩
/-- A vertex that has one: those tied to it have theirs. -/
theorem ls_skip {n k : Nat} {T : Int → Int → Prop} {l : List Int} (ht : ∀ {a b c}, T a b → T b c → T a c) (hk : k < n) (h : LsI n T k l) (hn : atD l k ≠ -1) : LsI n T (k + 1) l := by
  refine ⟨h.1, fun v hv => ?_⟩
  rcases h.2 v hv with ⟨g1, g2⟩ | ⟨g1, g2⟩
  · refine .inl ⟨g1, fun u hu hT => ?_⟩
    by_cases e : u < (k : Int)
    · exact g2 u ⟨hu.1, e⟩ hT
    · have e' : u = (k : Int) := by omega
      subst e'
      rcases h.2 (k : Int) ⟨by omega, by omega⟩ with ⟨f1, _⟩ | ⟨f1, f2, f3⟩
      · exact hn f1
      · exact g2 _ f1 (ht f2 hT)
  · exact .inr ⟨by omega, g2⟩
/-- A vertex that has none gives its own number to all that are tied to it, and to none besides. -/
theorem ls_give {n k : Nat} {T : Int → Int → Prop} {l l' : List Int} (hs : ∀ {a b}, T a b → T b a) (ht : ∀ {a b c}, T a b → T b c → T a c) (hk : k < n) (h : LsI n T k l) (hn : atD l k = -1) (hl : l'.length = n)
    (ha : ∀ v : Int, 0 ≤ v ∧ v < (n : Int) → (T k v ∧ atD l' v = k) ∨ (¬ T k v ∧ atD l' v = atD l v)) : LsI n T (k + 1) l' := by
  have hno : ∀ u : Int, 0 ≤ u ∧ u < (k : Int) → ¬ T u k := by
    rcases h.2 (k : Int) ⟨by omega, by omega⟩ with ⟨_, g⟩ | ⟨g, _⟩
    · exact g
    · omega
  refine ⟨hl, fun v hv => ?_⟩
  rcases ha v hv with ⟨a1, a2⟩ | ⟨a1, a2⟩
  · rw [a2]
    refine .inr ⟨by omega, a1, fun u hu hT => ?_⟩
    by_cases e : u < (k : Int)
    · exact absurd (ht hT (hs a1)) (hno u ⟨hu.1, e⟩)
    · omega
  · rw [a2]
    rcases h.2 v hv with ⟨g1, g2⟩ | ⟨g1, g2⟩
    · refine .inl ⟨g1, fun u hu hT => ?_⟩
      by_cases e : u < (k : Int)
      · exact g2 u ⟨hu.1, e⟩ hT
      · have e' : u = (k : Int) := by omega
        subst e'
        exact a1 hT
    · exact .inr ⟨by omega, g2⟩
end Go.Proofs.Ytbmkgnlfccigpab

namespace Go.Proofs.Ytbmkgnlfccigpab
set_option maxRecDepth 100000

/-- x is the weight of a walk to v from a vertex that begins, its first number counted. -/
def Wkk (n : Nat) (ds : List Ed) (ini : Int → Int) (v x : Int) : Prop := ∃ u p, (0 ≤ u ∧ u < (n : Int)) ∧ 0 ≤ ini u ∧ (∀ e ∈ p, e ∈ ds) ∧ Chn u p v ∧ ini u + sumW p = x
/-- Behind t rounds: numbers a, mail m. Vertices that take no part (not act) are not spoken of. -/
structure MnI (n t : Nat) (ds : List Ed) (ini : Int → Int) (act : Int → Bool) (a : Int → Int) (m : Int → List Int) : Prop where
  val : ∀ v : Int, 0 ≤ v ∧ v < (n : Int) → act v = true → a v = -1 ∨ (0 ≤ a v ∧ Wkk n ds ini v (a v))
  mls : ∀ v : Int, 0 ≤ v ∧ v < (n : Int) → act v = true → ∀ x ∈ m v, Wkk n ds ini v x
  tel : ∀ e ∈ ds, 0 ≤ a e.1 → (0 ≤ a e.2.1 ∧ a e.2.1 ≤ a e.1 + e.2.2) ∨ a e.1 + e.2.2 ∈ m e.2.1
  low : ∀ (u : Int) (p : List Ed) (v : Int), 0 ≤ u ∧ u < (n : Int) → 0 ≤ ini u → (∀ e ∈ p, e ∈ ds) → Chn u p v → p.length < t → 0 ≤ a v ∧ a v ≤ ini u + sumW p
/-- Edges lie between vertices that take part; who begins takes part. -/
structure MnG (n : Nat) (ds : List Ed) (ini : Int → Int) (act : Int → Bool) : Prop where
  inn : InG n ds
  ends : ∀ e ∈ ds, act e.1 = true ∧ act e.2.1 = true
  begs : ∀ v, 0 ≤ ini v → act v = true
section
variable {n t : Nat} {ds : List Ed} {ini : Int → Int} {act sd : Int → Bool} {a a' : Int → Int} {m m' : Int → List Int}
theorem MnG.end (h : MnG n ds ini act) {u v : Int} {p : List Ed} (hu : 0 ≤ ini u) (hp : ∀ e ∈ p, e ∈ ds) (hc : Chn u p v) : act v = true := by
  rcases List.eq_nil_or_concat p with rfl | ⟨q, e, rfl⟩
  · have : u = v := hc
    rw [← this]; exact h.begs u hu
  · rw [List.concat_eq_append] at hc hp
    obtain ⟨_, h2⟩ := chn_snoc hc
    rw [← h2]
    exact (h.ends e (hp e (by simp))).2
theorem Wkk.nn (hg : MnG n ds ini act) {v x : Int} (h : Wkk n ds ini v x) : 0 ≤ x := by
  obtain ⟨u, p, _, h0, hp, _, rfl⟩ := h
  have := sumW_nn hg.inn hp
  omega
theorem Wkk.next {e : Ed} (h : Wkk n ds ini e.1 (a e.1)) (he : e ∈ ds) : Wkk n ds ini e.2.1 (a e.1 + e.2.2) := by
  obtain ⟨u, p, hu, h0, hp, hc, hx⟩ := h
  refine ⟨u, p ++ [e], hu, h0, fun d hd => ?_, chn_app hc ⟨rfl, rfl⟩, ?_⟩
  · rcases List.mem_append.1 hd with hd | hd
    · exact hp d hd
    · simp at hd; rw [hd]; exact he
  · rw [sumW_app, sumW_cons, sumW_nil]; omega
/-- The round in which all begin. -/
theorem MnI.start (hg : MnG n ds ini act) (ha : ∀ v : Int, 0 ≤ v ∧ v < (n : Int) → act v = true → a v = ini v) (hn : ∀ v, -1 ≤ ini v)
    (hm : ∀ u : Int, 0 ≤ u ∧ u < (n : Int) → act u = true → ∀ x, x ∈ m u ↔ ∃ e ∈ ds, e.2.1 = u ∧ 0 ≤ ini e.1 ∧ x = a e.1 + e.2.2) : MnI n 1 ds ini act a m := by
  refine ⟨fun v hv hA => ?_, fun v hv hA x hx => ?_, fun e he h0 => .inr ?_, fun u p v hu h0 hp hc hl => ?_⟩
  · rw [ha v hv hA]
    by_cases e : 0 ≤ ini v
    · exact .inr ⟨e, v, [], hv, e, by simp, rfl, by simp [sumW]⟩
    · have := hn v
      exact .inl (by omega)
  · obtain ⟨e, he, rfl, h0, rfl⟩ := (hm v hv hA x).1 hx
    obtain ⟨f0, f1, _⟩ := hg.inn e he
    have : a e.1 = ini e.1 := ha _ ⟨f0, f1⟩ (hg.ends e he).1
    refine Wkk.next ?_ he
    rw [this]
    exact ⟨e.1, [], ⟨f0, f1⟩, h0, by simp, rfl, by simp [sumW]⟩
  · obtain ⟨f0, f1, t0, t1, _⟩ := hg.inn e he
    refine (hm _ ⟨t0, t1⟩ (hg.ends e he).2 _).2 ⟨e, he, rfl, ?_, rfl⟩
    rw [← ha _ ⟨f0, f1⟩ (hg.ends e he).1]; exact h0
  · have : p = [] := List.eq_nil_of_length_eq_zero (by omega)
    subst this
    have e : u = v := hc
    subst e
    rw [ha u hu (hg.begs u h0)]
    simp [sumW, h0]
theorem MnI.vnn (h : MnI n t ds ini act a m) {v : Int} (hv : 0 ≤ v ∧ v < (n : Int)) (hA : act v = true) : -1 ≤ a v := by rcases h.val v hv hA with g | g <;> omega
theorem MnI.mnn (h : MnI n t ds ini act a m) (hg : MnG n ds ini act) {v : Int} (hv : 0 ≤ v ∧ v < (n : Int)) (hA : act v = true) : ∀ y ∈ m v, 0 ≤ y := fun y hy => (h.mls v hv hA y hy).nn hg
/-- One more round. -/
theorem MnI.next (h : MnI n t ds ini act a m) (ht : 0 < t) (hg : MnG n ds ini act) (ha : ∀ v : Int, 0 ≤ v ∧ v < (n : Int) → act v = true → lowF (a v) (m v) = (a' v, sd v))
    (hm : ∀ u : Int, 0 ≤ u ∧ u < (n : Int) → act u = true → ∀ x, x ∈ m' u ↔ ∃ e ∈ ds, e.2.1 = u ∧ sd e.1 = true ∧ x = a' e.1 + e.2.2) : MnI n (t + 1) ds ini act a' m' := by
  have hval : ∀ v : Int, 0 ≤ v ∧ v < (n : Int) → act v = true → a' v = -1 ∨ (0 ≤ a' v ∧ Wkk n ds ini v (a' v)) := fun v hv hA => by
    obtain ⟨h1, _, _⟩ := lowF_spec (a := a v) (h.vnn hv hA) (h.mnn hg hv hA)
    rw [ha v hv hA] at h1
    rcases h1 with h1 | ⟨_, h1, _⟩
    · injection h1 with h1 _
      rw [h1]; exact h.val v hv hA
    · have := h.mls v hv hA _ h1
      exact .inr ⟨this.nn hg, this⟩
  have hto : ∀ e ∈ ds, (0 ≤ e.1 ∧ e.1 < (n : Int)) ∧ (0 ≤ e.2.1 ∧ e.2.1 < (n : Int)) := fun e he => by
    obtain ⟨f0, f1, t0, t1, _⟩ := hg.inn e he
    exact ⟨⟨f0, f1⟩, ⟨t0, t1⟩⟩
  /- what is there already, or comes, is heard -/
  have hear : ∀ e ∈ ds, 0 ≤ a e.1 → 0 ≤ a' e.2.1 ∧ a' e.2.1 ≤ a e.1 + e.2.2 := fun e he h0 => by
    obtain ⟨_, h2, h3⟩ := lowF_spec (a := a e.2.1) (h.vnn (hto e he).2 (hg.ends e he).2) (h.mnn hg (hto e he).2 (hg.ends e he).2)
    rw [ha _ (hto e he).2 (hg.ends e he).2] at h2 h3
    rcases h.tel e he h0 with ⟨g1, g2⟩ | g
    · have := h3 g1
      simp only at this
      omega
    · exact h2 _ g
  refine ⟨hval, fun v hv hA x hx => ?_, fun e he h0 => ?_, fun u p v hu h0 hp hc hl => ?_⟩
  · obtain ⟨e, he, rfl, hs, rfl⟩ := (hm v hv hA x).1 hx
    refine Wkk.next ?_ he
    obtain ⟨h1, _, _⟩ := lowF_spec (a := a e.1) (h.vnn (hto e he).1 (hg.ends e he).1) (h.mnn hg (hto e he).1 (hg.ends e he).1)
    rw [ha _ (hto e he).1 (hg.ends e he).1] at h1
    rcases h1 with h1 | ⟨_, h1, _⟩
    · injection h1 with _ h1
      rw [h1] at hs; cases hs
    · exact h.mls _ (hto e he).1 (hg.ends e he).1 _ h1
  · obtain ⟨h1, _, _⟩ := lowF_spec (a := a e.1) (h.vnn (hto e he).1 (hg.ends e he).1) (h.mnn hg (hto e he).1 (hg.ends e he).1)
    rw [ha _ (hto e he).1 (hg.ends e he).1] at h1
    rcases h1 with h1 | ⟨h1, _, _⟩
    · injection h1 with h1 _
      rw [h1] at h0 ⊢
      exact .inl (hear e he h0)
    · exact .inr ((hm _ (hto e he).2 (hg.ends e he).2 _).2 ⟨e, he, rfl, h1, rfl⟩)
  · rcases List.eq_nil_or_concat p with rfl | ⟨q, e, rfl⟩
    · have ev : u = v := hc
      subst ev
      obtain ⟨_, _, h3⟩ := lowF_spec (a := a u) (h.vnn hu (hg.begs u h0)) (h.mnn hg hu (hg.begs u h0))
      rw [ha u hu (hg.begs u h0)] at h3
      have := h.low u [] u hu h0 (by simp) rfl (by simpa using ht)
      have h4 := h3 this.1
      simp only at h4
      omega
    · rw [List.concat_eq_append] at hc hp hl ⊢
      obtain ⟨c1, c2⟩ := chn_snoc hc
      simp at hl
      have he := hp e (by simp)
      have := h.low u q e.1 hu h0 (fun d hd => hp d (by simp [hd])) c1 (by omega)
      have h2 := hear e he this.1
      rw [c2] at h2
      rw [sumW_app, sumW_cons, sumW_nil]
      omega
/-- Behind as many rounds as there are vertices nothing is heard any more. -/
theorem MnI.still (h : MnI n t ds ini act a m) (hg : MnG n ds ini act) (hn : n ≤ t) {v : Int} (hv : 0 ≤ v ∧ v < (n : Int)) (hA : act v = true) : lowF (a v) (m v) = (a v, false) := by
  obtain ⟨h1, _, _⟩ := lowF_spec (a := a v) (h.vnn hv hA) (h.mnn hg hv hA)
  rcases h1 with h1 | ⟨_, h1, h2⟩
  · exact h1
  · exfalso
    obtain ⟨u, p, hu, h0, hp, hc, hx⟩ := h.mls v hv hA _ h1
    obtain ⟨q, hq, hd, hl, hw⟩ := chn_short hg.inn p.length (Nat.le_refl _) hp hu hc
    have := h.low u q v hu h0 hq hd (by omega)
    omega
/-- Once there is no mail each number is the least. -/
theorem MnI.done (h : MnI n t ds ini act a m) (ht : 0 < t) (hg : MnG n ds ini act) (hm : ∀ v : Int, 0 ≤ v ∧ v < (n : Int) → act v = true → m v = []) {v : Int} (hv : 0 ≤ v ∧ v < (n : Int)) (hA : act v = true) :
    (a v = -1 ∧ ∀ x, ¬ Wkk n ds ini v x) ∨ (0 ≤ a v ∧ Wkk n ds ini v (a v) ∧ ∀ x, Wkk n ds ini v x → a v ≤ x) := by
  have key : ∀ x, Wkk n ds ini v x → 0 ≤ a v ∧ a v ≤ x := fun x ⟨u, p, hu, h0, hp, hc, hx⟩ => by
    have := walk_ind (es := ds) (s := u) (P := fun p v => 0 ≤ a v ∧ a v ≤ ini u + sumW p) (h.low u [] u hu h0 (by simp) rfl (by simpa using ht)) (fun q e _ he _ ih => by
      obtain ⟨f0, f1, t0, t1, _⟩ := hg.inn e he
      rw [sumW_app, sumW_cons, sumW_nil]
      rcases h.tel e he ih.1 with g | g
      · omega
      · rw [hm _ ⟨t0, t1⟩ (hg.ends e he).2] at g
        simp at g) p.length p v rfl hp hc
    omega
  rcases h.val v hv hA with g | ⟨g1, g2⟩
  · exact .inl ⟨g, fun x hx => by have := key x hx; omega⟩
  · exact .inr ⟨g1, g2, fun x hx => (key x hx).2⟩
end
end Go.Proofs.Ytbmkgnlfccigpab

namespace Go.Proofs.Ytbmkgnlfccigpab
set_option maxRecDepth 100000

/-- A vertex without a label takes part. -/
def actL (lab : Int → Int) (v : Int) : Bool := decide (lab v = -1)
/-- What is wanted of a job in such a phase: labels lab, edges ds with what they add, first numbers ini, at most C, and at most M more an edge. -/
structure FwG (n : Nat) (es : List Ed) (j : Jb) (s : Int) (lab : Int → Int) (ds : List Ed) (ini : Int → Int) (C M : Int) : Prop where
  gr : MnG n ds ini (actL lab)
  ing : InG n es
  inn : ∀ v, -1 ≤ ini v ∧ ini v ≤ C
  wgt : ∀ e ∈ ds, e.2.2 ≤ M
  cps : 0 ≤ C ∧ 0 ≤ M
  fr : ∀ v : Int, 0 ≤ v ∧ v < (n : Int) → ∀ x : Ml, x.2 = lab v → lab v = -1 → beginF j v s x = ((ini v, -1), decide (0 ≤ ini v))
  he : ∀ (x : Ml) m, x.2 = -1 → hearF j x m = lowV x m
  st : ∀ v : Int, 0 ≤ v ∧ v < (n : Int) → lab v ≠ -1 → ∀ (x : Ml) b m, x.2 = lab v → wakeV j v s x b m = (x, false)
  way : ∀ (r : Int → Ml × Bool), (∀ v : Int, 0 ≤ v ∧ v < (n : Int) → lab v ≠ -1 → (r v).2 = false) → ∀ u : Int, 0 ≤ u ∧ u < (n : Int) → lab u = -1 → ∀ x, x ∈ msgs j r es u ↔ ∃ e ∈ ds, e.2.1 = u ∧ (r e.1).2 = true ∧ x = (r e.1).1.1 + e.2.2
  ov : ∀ e ∈ es, ∀ a, sayJ j a e.2.2 ≤ a + M
  top : C + ((n : Int) + 1) * M ≤ Jb.top j
/-- Numbers stay small. -/
structure MnB (n t : Nat) (lab : Int → Int) (C M : Int) (a : Int → Int) (m : Int → List Int) : Prop where
  val : ∀ v : Int, 0 ≤ v ∧ v < (n : Int) → lab v = -1 → a v ≤ C + ((t : Int) - 1) * M
  mls : ∀ v : Int, 0 ≤ v ∧ v < (n : Int) → lab v = -1 → ∀ x ∈ m v, x ≤ C + (t : Int) * M
/-- Behind t rounds of the phase. old: the values with which it began. -/
structure PhI (n t : Nat) (lab : Int → Int) (ds : List Ed) (ini : Int → Int) (C M : Int) (old : Int → Ml) (vs : List Ml) (ms : List (List Int)) : Prop where
  lv : vs.length = n
  lm : ms.length = n
  lb : ∀ v : Int, 0 ≤ v ∧ v < (n : Int) → (vlA vs v).2 = lab v
  od : ∀ v : Int, 0 ≤ v ∧ v < (n : Int) → lab v ≠ -1 → vlA vs v = old v
  mn : MnI n t ds ini (actL lab) (fun v => (vlA vs v).1) (mlA ms)
  bd : MnB n t lab C M (fun v => (vlA vs v).1) (mlA ms)
section
variable {n t : Nat} {es ds : List Ed} {j : Jb} {k s : Int} {lab ini : Int → Int} {C M : Int} {old : Int → Ml}
theorem actL_iff {v : Int} : actL lab v = true ↔ lab v = -1 := by simp [actL]
theorem FwG.rnd_off (h : FwG n es j s lab ds ini C M) {T : StS} (hl : ∀ v : Int, 0 ≤ v ∧ v < (n : Int) → (vlA T.vals v).2 = lab v) {v : Int} (hv : 0 ≤ v ∧ v < (n : Int)) (ha : lab v ≠ -1) : rndV j s T v = (vlA T.vals v, false) := by
  unfold rndV
  split
  · exact h.st v hv ha _ _ _ (hl v hv)
  · rfl
theorem FwG.rnd_new (h : FwG n es j s lab ds ini C M) {T : StS} (hf : T.fresh = true) (hl : ∀ v : Int, 0 ≤ v ∧ v < (n : Int) → (vlA T.vals v).2 = lab v) {v : Int} (hv : 0 ≤ v ∧ v < (n : Int)) (ha : lab v = -1) : rndV j s T v = ((ini v, -1), decide (0 ≤ ini v)) := by
  unfold rndV
  rw [hf]
  simp only [Bool.true_or, if_true]
  show wakeV j v s _ true _ = _
  unfold wakeV
  rw [if_pos rfl]
  exact h.fr v hv _ (hl v hv) ha
theorem FwG.rnd_low (h : FwG n es j s lab ds ini C M) {T : StS} (hf : T.fresh = false) (hl : ∀ v : Int, 0 ≤ v ∧ v < (n : Int) → (vlA T.vals v).2 = lab v) {v : Int} (hv : 0 ≤ v ∧ v < (n : Int)) (ha : lab v = -1) :
    rndV j s T v = (((lowF (vlA T.vals v).1 (mlA T.mail v)).1, -1), (lowF (vlA T.vals v).1 (mlA T.mail v)).2) := by
  have h2 : (vlA T.vals v).2 = -1 := by rw [hl v hv, ha]
  unfold rndV
  rw [hf]
  simp only [Bool.false_or]
  split
  · show wakeV j v s _ false _ = _
    unfold wakeV
    rw [if_neg (by simp), h.he _ _ h2]
    unfold lowV
    rw [h2]
  · next hc =>
    have : mlA T.mail v = [] := by simpa using hc
    rw [this]
    show _ = (((vlA T.vals v).1, -1), false)
    rw [← h2]
/-- A round's outcome, as a round of the least. -/
theorem FwG.msgs_in (h : FwG n es j s lab ds ini C M) {r : Int → Ml × Bool} (hr : ∀ v : Int, 0 ≤ v ∧ v < (n : Int) → lab v ≠ -1 → (r v).2 = false) {u : Int} (hu : 0 ≤ u ∧ u < (n : Int)) (ha : actL lab u = true) (x : Int) :
    x ∈ mlA (mailR n j r es) u ↔ ∃ e ∈ ds, e.2.1 = u ∧ (r e.1).2 = true ∧ x = (r e.1).1.1 + e.2.2 := by
  rw [mlA_mail hu, sortN_mem]
  exact h.way r hr u hu (actL_iff.1 ha) x
theorem FwG.first (h : FwG n es j s lab ds ini C M) {T : StS} (hf : T.fresh = true) (hl : ∀ v : Int, 0 ≤ v ∧ v < (n : Int) → (vlA T.vals v).2 = lab v) : PhI n 1 lab ds ini C M (vlA T.vals) (valsR n (rndV j s T)) (mailR n j (rndV j s T) es) := by
  have hoff : ∀ v : Int, 0 ≤ v ∧ v < (n : Int) → lab v ≠ -1 → (rndV j s T v).2 = false := fun v hv ha => by rw [h.rnd_off hl hv ha]
  have hv1 : ∀ v : Int, 0 ≤ v ∧ v < (n : Int) → lab v = -1 → (vlA (valsR n (rndV j s T)) v).1 = ini v := fun v hv ha => by rw [vlA_vals hv, h.rnd_new hf hl hv ha]
  refine ⟨valsR_len _ _, mailR_len _ _ _ _, fun v hv => ?_, fun v hv ha => ?_, ?_, ?_⟩
  · rw [vlA_vals hv]
    by_cases e : lab v = -1
    · rw [h.rnd_new hf hl hv e, e]
    · rw [h.rnd_off hl hv e]; exact hl v hv
  · rw [vlA_vals hv, h.rnd_off hl hv ha]
  · refine MnI.start h.gr (fun v hv ha => hv1 v hv (actL_iff.1 ha)) (fun v => (h.inn v).1) fun u hu ha x => ?_
    rw [h.msgs_in hoff hu ha]
    constructor
    · rintro ⟨e, he, h1, h2, h3⟩
      obtain ⟨f0, f1, _⟩ := h.gr.inn e he
      have hA := actL_iff.1 (h.gr.ends e he).1
      rw [h.rnd_new hf hl ⟨f0, f1⟩ hA] at h2 h3
      refine ⟨e, he, h1, by simpa using h2, ?_⟩
      rw [hv1 _ ⟨f0, f1⟩ hA]; exact h3
    · rintro ⟨e, he, h1, h2, h3⟩
      obtain ⟨f0, f1, _⟩ := h.gr.inn e he
      have hA := actL_iff.1 (h.gr.ends e he).1
      rw [hv1 _ ⟨f0, f1⟩ hA] at h3
      refine ⟨e, he, h1, ?_, ?_⟩
      · rw [h.rnd_new hf hl ⟨f0, f1⟩ hA]; simpa using h2
      · rw [h.rnd_new hf hl ⟨f0, f1⟩ hA]; exact h3
  · refine ⟨fun v hv ha => ?_, fun v hv ha x hx => ?_⟩
    · rw [hv1 v hv ha]
      have := (h.inn v).2
      simp
      exact this
    · obtain ⟨e, he, h1, h2, h3⟩ := (h.msgs_in hoff hv (actL_iff.2 ha) x).1 hx
      obtain ⟨f0, f1, _⟩ := h.gr.inn e he
      rw [h.rnd_new hf hl ⟨f0, f1⟩ (actL_iff.1 (h.gr.ends e he).1)] at h3
      have g1 := (h.inn e.1).2
      have g2 := h.wgt e he
      simp only at h3
      simp
      omega
theorem FwG.more (h : FwG n es j s lab ds ini C M) (ht : 0 < t) {T : StS} (hf : T.fresh = false) (hI : PhI n t lab ds ini C M old T.vals T.mail) : PhI n (t + 1) lab ds ini C M old (valsR n (rndV j s T)) (mailR n j (rndV j s T) es) := by
  have hl := hI.lb
  have hoff : ∀ v : Int, 0 ≤ v ∧ v < (n : Int) → lab v ≠ -1 → (rndV j s T v).2 = false := fun v hv ha => by rw [h.rnd_off hl hv ha]
  have hv1 : ∀ v : Int, 0 ≤ v ∧ v < (n : Int) → lab v = -1 → (vlA (valsR n (rndV j s T)) v).1 = (lowF (vlA T.vals v).1 (mlA T.mail v)).1 := fun v hv ha => by rw [vlA_vals hv, h.rnd_low hf hl hv ha]
  have hmul : ((t + 1 : Nat) : Int) * M = (t : Int) * M + M := by rw [Int.natCast_add, Int.add_mul]; simp
  have hmu2 : (((t + 1 : Nat) : Int) - 1) * M = (t : Int) * M := by simp
  have hmu3 : ((t : Int) - 1) * M = (t : Int) * M - M := by rw [Int.sub_mul]; simp
  have hbv : ∀ v : Int, 0 ≤ v ∧ v < (n : Int) → lab v = -1 → (lowF (vlA T.vals v).1 (mlA T.mail v)).1 ≤ C + (t : Int) * M := fun v hv ha => by
    have hA := actL_iff.2 ha
    obtain ⟨h1, _, _⟩ := lowF_spec (hI.mn.vnn hv hA) (hI.mn.mnn h.gr hv hA)
    rcases h1 with h1 | ⟨_, h1, _⟩
    · rw [h1]
      have g1 := hI.bd.val v hv ha
      have g2 := h.cps.2
      simp only at g1 ⊢
      omega
    · exact hI.bd.mls v hv ha _ h1
  refine ⟨valsR_len _ _, mailR_len _ _ _ _, fun v hv => ?_, fun v hv ha => ?_, ?_, ?_⟩
  · rw [vlA_vals hv]
    by_cases e : lab v = -1
    · rw [h.rnd_low hf hl hv e, e]
    · rw [h.rnd_off hl hv e]; exact hl v hv
  · rw [vlA_vals hv, h.rnd_off hl hv ha]; exact hI.od v hv ha
  · refine hI.mn.next ht h.gr (sd := fun v => (rndV j s T v).2) (fun v hv ha => ?_) fun u hu ha x => ?_
    · have hA := actL_iff.1 ha
      rw [hv1 v hv hA, h.rnd_low hf hl hv hA]
    · rw [h.msgs_in hoff hu ha]
      constructor
      · rintro ⟨e, he, h1, h2, h3⟩
        obtain ⟨f0, f1, _⟩ := h.gr.inn e he
        refine ⟨e, he, h1, h2, ?_⟩
        rw [vlA_vals ⟨f0, f1⟩]; exact h3
      · rintro ⟨e, he, h1, h2, h3⟩
        obtain ⟨f0, f1, _⟩ := h.gr.inn e he
        rw [vlA_vals ⟨f0, f1⟩] at h3
        exact ⟨e, he, h1, h2, h3⟩
  · refine ⟨fun v hv ha => ?_, fun v hv ha x hx => ?_⟩
    · rw [hv1 v hv ha, hmu2]
      exact hbv v hv ha
    · obtain ⟨e, he, h1, h2, h3⟩ := (h.msgs_in hoff hv (actL_iff.2 ha) x).1 hx
      obtain ⟨f0, f1, _⟩ := h.gr.inn e he
      have hA := actL_iff.1 (h.gr.ends e he).1
      rw [h.rnd_low hf hl ⟨f0, f1⟩ hA] at h3
      have g1 := hbv e.1 ⟨f0, f1⟩ hA
      have g2 := h.wgt e he
      simp only at h3
      rw [hmul]
      omega
/-- Nothing that is said is too great. -/
theorem FwG.small (h : FwG n es j s lab ds ini C M) {r : Int → Ml × Bool} (hr : ∀ v : Int, 0 ≤ v ∧ v < (n : Int) → (r v).2 = true → (r v).1.1 ≤ C + (n : Int) * M) : overR j r es = false := by
  unfold overR
  rw [List.any_eq_false]
  intro e he
  obtain ⟨f0, f1, _⟩ := h.ing e he
  simp only [Bool.and_eq_true, decide_eq_true_eq, not_and, Int.not_lt]
  rintro ⟨_, h2⟩
  have h3 := hr e.1 ⟨f0, f1⟩ h2
  have h4 := h.ov e he (r e.1).1.1
  have h5 := h.top
  have : ((n : Int) + 1) * M = (n : Int) * M + M := by rw [Int.add_mul]; simp
  omega
theorem FwG.small_first (h : FwG n es j s lab ds ini C M) {T : StS} (hf : T.fresh = true) (hl : ∀ v : Int, 0 ≤ v ∧ v < (n : Int) → (vlA T.vals v).2 = lab v) : overR j (rndV j s T) es = false := h.small fun v hv hs => by
  by_cases e : lab v = -1
  · rw [h.rnd_new hf hl hv e]
    have h1 := (h.inn v).2
    have h2 := Int.mul_nonneg (a := (n : Int)) (b := M) (by omega) h.cps.2
    simp only
    omega
  · rw [h.rnd_off hl hv e] at hs; cases hs
theorem FwG.small_more (h : FwG n es j s lab ds ini C M) (htn : t ≤ n) {T : StS} (hf : T.fresh = false) (hI : PhI n t lab ds ini C M old T.vals T.mail) : overR j (rndV j s T) es = false := h.small fun v hv hs => by
  by_cases e : lab v = -1
  · have hA := actL_iff.2 e
    rw [h.rnd_low hf hI.lb hv e] at hs ⊢
    obtain ⟨h1, _, _⟩ := lowF_spec (hI.mn.vnn hv hA) (hI.mn.mnn h.gr hv hA)
    rcases h1 with h1 | ⟨_, h1, _⟩
    · simp only at h1 hs
      rw [h1] at hs; cases hs
    · have h2 := hI.bd.mls v hv e _ h1
      have h3 : (t : Int) * M ≤ (n : Int) * M := Int.mul_le_mul_of_nonneg_right (by omega) h.cps.2
      simp only at h2 ⊢
      omega
  · rw [h.rnd_off hI.lb hv e] at hs; cases hs
/-- What stands behind the phase: there is no mail, and each number is the least of all walks. -/
structure FwE (n : Nat) (lab : Int → Int) (ds : List Ed) (ini : Int → Int) (old : Int → Ml) (vs : List Ml) (ms : List (List Int)) : Prop where
  lv : vs.length = n
  lm : ms.length = n
  no : manyL ms = 0
  off : ∀ v : Int, 0 ≤ v ∧ v < (n : Int) → lab v ≠ -1 → vlA vs v = old v
  on : ∀ v : Int, 0 ≤ v ∧ v < (n : Int) → lab v = -1 → (vlA vs v).2 = -1 ∧ (((vlA vs v).1 = -1 ∧ ∀ x, ¬ Wkk n ds ini v x) ∨ (0 ≤ (vlA vs v).1 ∧ Wkk n ds ini v (vlA vs v).1 ∧ ∀ x, Wkk n ds ini v x → (vlA vs v).1 ≤ x))
theorem PhI.ended (h : FwG n es j s lab ds ini C M) (ht : 0 < t) {vs : List Ml} {ms : List (List Int)} (hI : PhI n t lab ds ini C M old vs ms) (hm : manyL ms = 0) : FwE n lab ds ini old vs ms := by
  have hmt : ∀ v : Int, mlA ms v = [] := fun v => by
    unfold mlA
    rw [List.getD_eq_getElem?_getD]
    cases he : ms[v.toNat]? with
    | none => rfl
    | some l => exact manyL_zero.1 hm l (List.mem_of_getElem? he)
  refine ⟨hI.lv, hI.lm, hm, hI.od, fun v hv ha => ⟨by rw [hI.lb v hv, ha], ?_⟩⟩
  exact hI.mn.done ht h.gr (fun u _ _ => hmt u) hv (actL_iff.2 ha)
/-- From round t on, up to the end. -/
theorem FwG.rest (h : FwG n es j s lab ds ini C M) {phase : Int} (hj : jobF k phase = some j) : ∀ (d t : Nat) (step : Int) (vs : List Ml) (ms : List (List Int)), 0 < t → t + d = n → PhI n t lab ds ini C M old vs ms → 0 < manyL ms →
    ∃ (i : Nat) (vs' : List Ml) (ms' : List (List Int)), 1 ≤ i ∧ i ≤ d + 1 ∧ FwE n lab ds ini old vs' ms' ∧ GoesR n es k s i ⟨step, phase, false, false, vs, ms⟩ (behR j (step + i - 1) phase vs' ms')
  | d, t, step, vs, ms, ht, hd, hI, hm => by
    have hov := h.small_more (T := ⟨step, phase, false, false, vs, ms⟩) (by omega) rfl hI
    have hg := GoesR.one (n := n) (es := es) (k := k) (s := s) (t := ⟨step, phase, false, false, vs, ms⟩) rfl hj hov
    have hN := h.more ht (T := ⟨step, phase, false, false, vs, ms⟩) rfl hI
    by_cases hz : manyL (mailR n j (rndV j s ⟨step, phase, false, false, vs, ms⟩) es) = 0
    · refine ⟨1, _, _, Nat.le_refl _, by omega, hN.ended h (by omega) hz, ?_⟩
      rw [show step + ((1 : Nat) : Int) - 1 = step by omega]
      exact hg
    · cases d with
      | zero =>
        exfalso
        apply hz
        rw [mailR_zero]
        intro u hu
        refine msgs_none fun e he => ?_
        have still : ∀ v : Int, 0 ≤ v ∧ v < (n : Int) → (rndV j s ⟨step, phase, false, false, vs, ms⟩ v).2 = false := fun v hv => by
          by_cases e : lab v = -1
          · rw [h.rnd_low (T := ⟨step, phase, false, false, vs, ms⟩) rfl hI.lb hv e]
            have := hI.mn.still h.gr (by omega) hv (actL_iff.2 e)
            simp only at this ⊢
            rw [this]
          · rw [h.rnd_off (T := ⟨step, phase, false, false, vs, ms⟩) hI.lb hv e]
        obtain ⟨f0, f1, t0, t1, _⟩ := h.ing e he
        exact ⟨still _ ⟨f0, f1⟩, still _ ⟨t0, t1⟩⟩
      | succ d =>
        have hb : nextS n es j s ⟨step, phase, false, false, vs, ms⟩ = ⟨step + 1, phase, false, false, valsR n (rndV j s ⟨step, phase, false, false, vs, ms⟩), mailR n j (rndV j s ⟨step, phase, false, false, vs, ms⟩) es⟩ := by
          unfold nextS behR
          rw [if_pos (by omega)]
        rw [hb] at hg
        obtain ⟨i, vs', ms', h1, h2, h3, h4⟩ := h.rest hj d (t + 1) (step + 1) _ _ (by omega) (by omega) hN (by omega)
        refine ⟨i + 1, vs', ms', by omega, by omega, h3, ?_⟩
        have := hg.trans h4
        rw [show 1 + i = i + 1 by omega] at this
        rw [show step + ((i + 1 : Nat) : Int) - 1 = step + 1 + (i : Int) - 1 by omega]
        exact this
/-- The whole phase. -/
theorem FwG.run (h : FwG n es j s lab ds ini C M) (hn : 0 < n) {T : StS} (hj : jobF k T.phase = some j) (hf : T.fresh = true) (hd : T.done = false) (hl : ∀ v : Int, 0 ≤ v ∧ v < (n : Int) → (vlA T.vals v).2 = lab v) :
    ∃ (i : Nat) (vs' : List Ml) (ms' : List (List Int)), 1 ≤ i ∧ i ≤ n + 1 ∧ FwE n lab ds ini (vlA T.vals) vs' ms' ∧ GoesR n es k s i T (behR j (T.step + i - 1) T.phase vs' ms') := by
  have hov := h.small_first hf hl
  have hg := GoesR.one (n := n) (es := es) (k := k) (s := s) hd hj hov
  have hN := h.first hf hl
  by_cases hz : manyL (mailR n j (rndV j s T) es) = 0
  · refine ⟨1, _, _, Nat.le_refl _, by omega, hN.ended h (by omega) hz, ?_⟩
    rw [show T.step + ((1 : Nat) : Int) - 1 = T.step by omega]
    exact hg
  · have hb : nextS n es j s T = ⟨T.step + 1, T.phase, false, false, valsR n (rndV j s T), mailR n j (rndV j s T) es⟩ := by
      unfold nextS behR
      rw [if_pos (by omega)]
    rw [hb] at hg
    obtain ⟨i, vs', ms', h1, h2, h3, h4⟩ := h.rest hj (n - 1) 1 (T.step + 1) _ _ (by omega) (by omega) hN (by omega)
    refine ⟨i + 1, vs', ms', by omega, by omega, h3, ?_⟩
    have := hg.trans h4
    rw [show 1 + i = i + 1 by omega] at this
    rw [show T.step + ((i + 1 : Nat) : Int) - 1 = T.step + 1 + (i : Int) - 1 by omega]
    exact this
end
end Go.Proofs.Ytbmkgnlfccigpab

namespace Go.Proofs.Ytbmkgnlfccigpab
set_option maxRecDepth 100000

theorem vlA_rep {n : Nat} {v : Int} : vlA (List.replicate n (-1, -1)) v = (-1, -1) := by
  unfold vlA
  rw [List.getD_eq_getElem?_getD, List.getElem?_replicate]
  split <;> rfl
theorem atD_fst {l : List Ml} {n : Nat} {v : Int} (hl : l.length = n) (hv : 0 ≤ v ∧ v < (n : Int)) : atD (l.map fun x => x.1) v = (vlA l v).1 := by
  have h : v.toNat < l.length := by omega
  unfold atD vlA
  rw [List.getD_eq_getElem?_getD, List.getD_eq_getElem?_getD, List.getElem?_map, List.getElem?_eq_getElem h]
  rfl
theorem atD_snd {l : List Ml} {n : Nat} {v : Int} (hl : l.length = n) (hv : 0 ≤ v ∧ v < (n : Int)) : atD (l.map fun x => x.2) v = (vlA l v).2 := by
  have h : v.toNat < l.length := by omega
  unfold atD vlA
  rw [List.getD_eq_getElem?_getD, List.getD_eq_getElem?_getD, List.getElem?_map, List.getElem?_eq_getElem h]
  rfl
/-- An edge that adds nothing. -/
def zE (e : Ed) : Ed := (e.1, e.2.1, 0)
theorem sumW_z {ds p : List Ed} (h : ∀ e ∈ p, e ∈ ds.map zE) : sumW p = 0 := by
  induction p with
  | nil => rfl
  | cons e p ih =>
    rw [sumW_cons, ih fun d hd => h d (by simp [hd])]
    obtain ⟨d, _, rfl⟩ := List.mem_map.1 (h e (by simp))
    rfl
theorem rch_z {ds : List Ed} {u v : Int} : Rch (ds.map zE) u v ↔ Rch ds u v := by
  constructor
  · rintro ⟨p, hp, hc⟩
    exact walk_ind (es := ds.map zE) (P := fun _ v => Rch ds u v) (Rch.refl _ _) (fun q e _ he _ ih => by
      obtain ⟨d, hd, rfl⟩ := List.mem_map.1 he
      exact Rch.step (e := d) ih hd) p.length p v rfl hp hc
  · rintro ⟨p, hp, hc⟩
    exact walk_ind (es := ds) (P := fun _ v => Rch (ds.map zE) u v) (Rch.refl _ _) (fun q e _ he _ ih => by
      exact Rch.step (e := zE e) ih (List.mem_map.2 ⟨e, he, rfl⟩)) p.length p v rfl hp hc
/-- Numbers of vertices, along edges that add nothing. -/
def iniV (n : Nat) (lab : Int → Int) (v : Int) : Int := if (0 ≤ v ∧ v < (n : Int)) ∧ lab v = -1 then v else -1
theorem iniV_in {n : Nat} {lab : Int → Int} {v : Int} (hv : 0 ≤ v ∧ v < (n : Int)) (ha : lab v = -1) : iniV n lab v = v := if_pos ⟨hv, ha⟩
theorem wkk_z {n : Nat} {ds : List Ed} {lab : Int → Int} {v x : Int} : Wkk n (ds.map zE) (iniV n lab) v x ↔ (0 ≤ x ∧ x < (n : Int)) ∧ lab x = -1 ∧ Rch ds x v := by
  constructor
  · rintro ⟨u, p, hu, h0, hp, hc, hx⟩
    rw [sumW_z hp] at hx
    have hl : lab u = -1 := by
      apply Classical.byContradiction
      intro hne
      rw [show iniV n lab u = -1 from if_neg fun h => hne h.2] at h0
      omega
    rw [iniV_in hu hl] at hx
    have : u = x := by omega
    subst this
    exact ⟨hu, hl, rch_z.1 ⟨p, hp, hc⟩⟩
  · rintro ⟨hx, hl, hr⟩
    obtain ⟨p, hp, hc⟩ := rch_z.2 hr
    refine ⟨x, p, hx, ?_, hp, hc, ?_⟩
    · rw [iniV_in hx hl]; exact hx.1
    · rw [iniV_in hx hl, sumW_z hp]; omega
theorem iniV_bd {n : Nat} (hn : 0 < n) (lab : Int → Int) (v : Int) : -1 ≤ iniV n lab v ∧ iniV n lab v ≤ (n : Int) - 1 := by
  unfold iniV
  split <;> omega

def iniD (s v : Int) : Int := if v = s then 0 else -1
theorem dist_fw {n : Nat} {es : List Ed} {s M : Int} (hg : InG n es) (hM : 0 ≤ M) (hw : ∀ e ∈ es, e.2.2 ≤ M) (ht : ((n : Int) + 1) * M ≤ 4398046511104) : FwG n es (false, false) s (fun _ => -1) es (iniD s) 0 M where
  gr := ⟨hg, fun _ _ => ⟨rfl, rfl⟩, fun _ _ => rfl⟩
  ing := hg
  inn := fun v => by unfold iniD; split <;> omega
  wgt := hw
  cps := ⟨Int.le_refl _, hM⟩
  fr := fun v _ x _ _ => by
    show (if v = s then ((0, -1), true) else ((-1, -1), false)) = _
    unfold iniD
    split <;> rfl
  he := fun _ _ _ => rfl
  st := fun _ _ h => absurd rfl h
  way := fun r _ u _ _ x => by
    rw [msgs_mem]
    constructor
    · rintro (⟨e, he, _, h2, h3, h4⟩ | ⟨e, he, h1, _⟩)
      · exact ⟨e, he, h2, h3, h4⟩
      · cases h1
    · rintro ⟨e, he, h2, h3, h4⟩
      exact .inl ⟨e, he, rfl, h2, h3, h4⟩
  ov := fun e he a => by
    have := hw e he
    show a + e.2.2 ≤ a + M
    omega
  top := by
    show 0 + ((n : Int) + 1) * M ≤ 4398046511104
    omega
theorem wkk_dist {n : Nat} {es : List Ed} {s v x : Int} (hs : 0 ≤ s ∧ s < (n : Int)) : Wkk n es (iniD s) v x ↔ ∃ p, (∀ e ∈ p, e ∈ es) ∧ Chn s p v ∧ sumW p = x := by
  constructor
  · rintro ⟨u, p, _, h0, hp, hc, hx⟩
    have e : u = s := by
      apply Classical.byContradiction
      intro hne
      rw [show iniD s u = -1 from if_neg hne] at h0
      omega
    subst e
    rw [show iniD u u = 0 from if_pos rfl] at hx
    exact ⟨p, hp, hc, by omega⟩
  · rintro ⟨p, hp, hc, hx⟩
    exact ⟨s, p, hs, by rw [show iniD s s = 0 from if_pos rfl]; exact Int.le_refl _, hp, hc, by rw [show iniD s s = 0 from if_pos rfl]; omega⟩
/-- Rounds of Dist. -/
theorem dist_rounds {n : Nat} {es : List Ed} {s M : Int} (hn : 0 < n) (hs : 0 ≤ s ∧ s < (n : Int)) (hg : InG n es) (hM : 0 ≤ M) (hw : ∀ e ∈ es, e.2.2 ≤ M) (ht : ((n : Int) + 1) * M ≤ 4398046511104) :
    ∃ (i : Nat) (t : StS), 1 ≤ i ∧ i ≤ n + 1 ∧ GoesR n es 1 s i (beginS n) t ∧ t.done = true ∧ t.step = i ∧ t.vals.length = n ∧ (t.vals.map fun x => x.1) = distF n es s := by
  obtain ⟨i, vs, ms, h1, h2, h3, h4⟩ := (dist_fw (s := s) hg hM hw ht).run (k := 1) hn (T := beginS n) rfl (by simp [beginS, hn]) (by simp [beginS]; omega) (fun v _ => by rw [show (beginS n).vals = List.replicate n (-1, -1) from rfl, vlA_rep])
  have hb : behR (false, false) ((beginS n).step + i - 1) (beginS n).phase vs ms = ⟨i, 0, false, true, vs, ms⟩ := by
    unfold behR
    rw [if_neg (by rw [h3.no]; omega), if_pos (by simp)]
    simp [beginS]
  rw [hb] at h4
  refine ⟨i, _, h1, h2, h4, rfl, rfl, h3.lv, dist_uniq hg hs ⟨by simp [h3.lv], fun v hv => ?_⟩⟩
  rw [atD_fst h3.lv hv]
  rcases (h3.on v hv rfl).2 with ⟨g1, g2⟩ | ⟨g1, g2, g3⟩
  · exact .inl ⟨g1, fun ⟨p, hp, hc⟩ => g2 _ ((wkk_dist hs).2 ⟨p, hp, hc, rfl⟩)⟩
  · exact .inr ⟨g1, (wkk_dist hs).1 g2, fun p hp hc => g3 _ ((wkk_dist hs).2 ⟨p, hp, hc, rfl⟩)⟩

theorem weak_fw {n : Nat} {es : List Ed} {s : Int} (hn : 0 < n) (hn2 : n ≤ 200) (hg : InG n es) : FwG n es (false, true) s (fun _ => -1) ((bothW es).map zE) (iniV n fun _ => -1) ((n : Int) - 1) 0 where
  gr := ⟨fun e he => by
    obtain ⟨d, hd, rfl⟩ := List.mem_map.1 he
    obtain ⟨f0, f1, t0, t1, _⟩ := both_in hg d hd
    exact ⟨f0, f1, t0, t1, Int.le_refl _⟩, fun _ _ => ⟨rfl, rfl⟩, fun _ _ => rfl⟩
  ing := hg
  inn := iniV_bd hn _
  wgt := fun e he => by obtain ⟨d, _, rfl⟩ := List.mem_map.1 he; exact Int.le_refl _
  cps := ⟨by omega, Int.le_refl _⟩
  fr := fun v hv x _ _ => by
    show ((v, -1), true) = _
    rw [iniV_in hv rfl]
    simp [hv.1]
  he := fun _ _ _ => rfl
  st := fun _ _ h => absurd rfl h
  way := fun r _ u _ _ x => by
    rw [msgs_mem]
    constructor
    · rintro (⟨e, he, _, h2, h3, h4⟩ | ⟨e, he, _, h2, h3, h4⟩)
      · exact ⟨zE e, List.mem_map.2 ⟨e, List.mem_append.2 (.inl he), rfl⟩, h2, h3, by rw [h4]; show (r e.1).1.1 = (r e.1).1.1 + 0; omega⟩
      · exact ⟨zE (e.2.1, e.1, e.2.2), List.mem_map.2 ⟨_, List.mem_append.2 (.inr (List.mem_map.2 ⟨e, he, rfl⟩)), rfl⟩, h2, h3, by rw [h4]; show (r e.2.1).1.1 = (r e.2.1).1.1 + 0; omega⟩
    · rintro ⟨e, he, h2, h3, h4⟩
      obtain ⟨d, hd, rfl⟩ := List.mem_map.1 he
      rcases List.mem_append.1 hd with hd | hd
      · exact .inl ⟨d, hd, rfl, h2, h3, by rw [h4]; show (r d.1).1.1 + 0 = (r d.1).1.1; omega⟩
      · obtain ⟨c, hc, rfl⟩ := List.mem_map.1 hd
        exact .inr ⟨c, hc, rfl, h2, h3, by rw [h4]; show (r c.2.1).1.1 + 0 = (r c.2.1).1.1; omega⟩
  ov := fun e _ a => by show a ≤ a + 0; omega
  top := by
    show (n : Int) - 1 + ((n : Int) + 1) * 0 ≤ 199
    omega
theorem weak_rounds {n : Nat} {es : List Ed} {s : Int} (hn : 0 < n) (hn2 : n ≤ 200) (hg : InG n es) :
    ∃ (i : Nat) (t : StS), 1 ≤ i ∧ i ≤ n + 1 ∧ GoesR n es 2 s i (beginS n) t ∧ t.done = true ∧ t.step = i ∧ t.vals.length = n ∧ (t.vals.map fun x => x.1) = weakF n es := by
  obtain ⟨i, vs, ms, h1, h2, h3, h4⟩ := (weak_fw (s := s) hn hn2 hg).run (k := 2) hn (T := beginS n) rfl (by simp [beginS, hn]) (by simp [beginS]; omega) (fun v _ => by rw [show (beginS n).vals = List.replicate n (-1, -1) from rfl, vlA_rep])
  have hb : behR (false, true) ((beginS n).step + i - 1) (beginS n).phase vs ms = ⟨i, 0, false, true, vs, ms⟩ := by
    unfold behR
    rw [if_neg (by rw [h3.no]; omega), if_pos (by simp)]
    simp [beginS]
  rw [hb] at h4
  refine ⟨i, _, h1, h2, h4, rfl, rfl, h3.lv, weak_uniq hg ⟨by simp [h3.lv], fun v hv => ?_⟩⟩
  rw [atD_fst h3.lv hv]
  rcases (h3.on v hv rfl).2 with ⟨_, g2⟩ | ⟨g1, g2, g3⟩
  · exact absurd (wkk_z.2 ⟨hv, rfl, Rch.refl _ _⟩) (g2 v)
  · obtain ⟨k1, _, k2⟩ := wkk_z.1 g2
    exact ⟨k1, k2, fun u hu hr => g3 u (wkk_z.2 ⟨hu, rfl, hr⟩)⟩
end Go.Proofs.Ytbmkgnlfccigpab

namespace Go.Proofs.Ytbmkgnlfccigpab
set_option maxRecDepth 100000

/-- Edges between vertices without a label. -/
def freeE (lab : Int → Int) (es : List Ed) : List Ed := es.filter fun e => actL lab e.1 && actL lab e.2.1
theorem free_mem {lab : Int → Int} {es : List Ed} {e : Ed} : e ∈ freeE lab es ↔ e ∈ es ∧ lab e.1 = -1 ∧ lab e.2.1 = -1 := by simp [freeE, actL]
theorem fwd_fw {n : Nat} {es : List Ed} {s : Int} {lab : Int → Int} (hn : 0 < n) (hn2 : n ≤ 200) (hg : InG n es) : FwG n es (true, false) s lab ((freeE lab es).map zE) (iniV n lab) ((n : Int) - 1) 0 where
  gr := ⟨fun e he => by
    obtain ⟨d, hd, rfl⟩ := List.mem_map.1 he
    obtain ⟨f0, f1, t0, t1, _⟩ := hg d (free_mem.1 hd).1
    exact ⟨f0, f1, t0, t1, Int.le_refl _⟩, fun e he => by
    obtain ⟨d, hd, rfl⟩ := List.mem_map.1 he
    exact ⟨actL_iff.2 (free_mem.1 hd).2.1, actL_iff.2 (free_mem.1 hd).2.2⟩, fun v h => by
    apply actL_iff.2
    apply Classical.byContradiction
    intro hne
    rw [show iniV n lab v = -1 from if_neg fun h => hne h.2] at h
    omega⟩
  ing := hg
  inn := iniV_bd hn _
  wgt := fun e he => by obtain ⟨d, _, rfl⟩ := List.mem_map.1 he; exact Int.le_refl _
  cps := ⟨by omega, Int.le_refl _⟩
  fr := fun v hv x hx ha => by
    show (if x.2 = -1 then ((v, -1), true) else (x, false)) = _
    rw [if_pos (by rw [hx, ha]), iniV_in hv ha]
    simp [hv.1]
  he := fun x m hx => by
    show (if x.2 = -1 then lowV x m else (x, false)) = _
    rw [if_pos hx]
  st := fun v hv ha x b m hx => by
    have hne : ¬ x.2 = -1 := by rw [hx]; exact ha
    unfold wakeV
    cases b
    · show (if x.2 = -1 then lowV x m else (x, false)) = _
      rw [if_neg hne]
    · show (if x.2 = -1 then ((v, -1), true) else (x, false)) = _
      rw [if_neg hne]
  way := fun r hr u hu ha x => by
    rw [msgs_mem]
    constructor
    · rintro (⟨e, he, _, h2, h3, h4⟩ | ⟨e, he, h1, _⟩)
      · obtain ⟨f0, f1, _⟩ := hg e he
        have hl : lab e.1 = -1 := by
          apply Classical.byContradiction
          intro hne
          rw [hr e.1 ⟨f0, f1⟩ hne] at h3
          cases h3
        exact ⟨zE e, List.mem_map.2 ⟨e, free_mem.2 ⟨he, hl, by rw [h2]; exact ha⟩, rfl⟩, h2, h3, by rw [h4]; show (r e.1).1.1 = (r e.1).1.1 + 0; omega⟩
      · cases h1
    · rintro ⟨e, he, h2, h3, h4⟩
      obtain ⟨d, hd, rfl⟩ := List.mem_map.1 he
      exact .inl ⟨d, (free_mem.1 hd).1, rfl, h2, h3, by rw [h4]; show (r d.1).1.1 + 0 = (r d.1).1.1; omega⟩
  ov := fun e _ a => by show a ≤ a + 0; omega
  top := by
    show (n : Int) - 1 + ((n : Int) + 1) * 0 ≤ 199
    omega

/-- Behind some rounds of the phase Back: c the colours, lab the labels with which it began. -/
structure BkI (n : Nat) (es : List Ed) (lab c : Int → Int) (vs : List Ml) (ms : List (List Int)) : Prop where
  lv : vs.length = n
  lm : ms.length = n
  col : ∀ v : Int, 0 ≤ v ∧ v < (n : Int) → (vlA vs v).1 = c v
  off : ∀ v : Int, 0 ≤ v ∧ v < (n : Int) → lab v ≠ -1 → (vlA vs v).2 = lab v
  on : ∀ v : Int, 0 ≤ v ∧ v < (n : Int) → lab v = -1 → (vlA vs v).2 = -1 ∨ ((vlA vs v).2 = c v ∧ Rch (freeE lab es) v (c v))
  rot : ∀ v : Int, 0 ≤ v ∧ v < (n : Int) → lab v = -1 → c v = v → (vlA vs v).2 ≠ -1
  tel : ∀ e ∈ freeE lab es, (vlA vs e.2.1).2 ≠ -1 → c e.1 = c e.2.1 → (vlA vs e.1).2 ≠ -1 ∨ c e.2.1 ∈ mlA ms e.1
  snd : ∀ v : Int, 0 ≤ v ∧ v < (n : Int) → ∀ x ∈ mlA ms v, ∃ e ∈ es, e.1 = v ∧ lab e.2.1 = -1 ∧ (vlA vs e.2.1).2 ≠ -1 ∧ x = c e.2.1
section
variable {n : Nat} {es : List Ed} {s : Int} {lab c : Int → Int}
theorem back_off {T : StS} {v : Int} (h : (vlA T.vals v).2 ≠ -1) : rndV (true, true) s T v = (vlA T.vals v, false) := by
  unfold rndV
  split
  · unfold wakeV
    cases T.fresh
    · show (if (vlA T.vals v).2 = -1 then labF _ _ else (vlA T.vals v, false)) = _
      rw [if_neg h]
    · show (if (vlA T.vals v).2 = -1 then labF _ _ else (vlA T.vals v, false)) = _
      rw [if_neg h]
  · rfl
theorem back_new {T : StS} {v : Int} (hf : T.fresh = true) (h : (vlA T.vals v).2 = -1) : rndV (true, true) s T v = labF (vlA T.vals v) ((vlA T.vals v).1 == v) := by
  unfold rndV
  rw [hf]
  simp only [Bool.true_or, if_true]
  show (if (vlA T.vals v).2 = -1 then labF _ _ else (vlA T.vals v, false)) = _
  rw [if_pos h]
theorem back_low {T : StS} {v : Int} (hf : T.fresh = false) (h : (vlA T.vals v).2 = -1) : rndV (true, true) s T v = labF (vlA T.vals v) (hasB (mlA T.mail v) (vlA T.vals v).1) := by
  unfold rndV
  rw [hf]
  simp only [Bool.false_or]
  split
  · show (if (vlA T.vals v).2 = -1 then labF _ _ else (vlA T.vals v, false)) = _
    rw [if_pos h]
  · next hc =>
    have : mlA T.mail v = [] := by simpa using hc
    rw [this]
    rfl
theorem labF_fst (x : Ml) (b : Bool) : (labF x b).1.1 = x.1 := by cases b <;> rfl
theorem labF_snd (x : Ml) (b : Bool) : (labF x b).2 = b := rfl
theorem labF_lab (x : Ml) (b : Bool) : (labF x b).1.2 = if b then x.1 else x.2 := by cases b <;> rfl
/-- Who speaks has just got its label. -/
theorem back_said {T : StS} {v : Int} (h : (rndV (true, true) s T v).2 = true) : (vlA T.vals v).2 = -1 ∧ (rndV (true, true) s T v).1 = ((vlA T.vals v).1, (vlA T.vals v).1) := by
  by_cases hl : (vlA T.vals v).2 = -1
  · refine ⟨hl, ?_⟩
    cases hf : T.fresh with
    | true =>
      rw [back_new hf hl] at h ⊢
      rw [labF_snd] at h
      rw [h]; rfl
    | false =>
      rw [back_low hf hl] at h ⊢
      rw [labF_snd] at h
      rw [h]; rfl
  · rw [back_off hl] at h; cases h
theorem back_col {T : StS} {v : Int} : (rndV (true, true) s T v).1.1 = (vlA T.vals v).1 := by
  by_cases hl : (vlA T.vals v).2 = -1
  · cases hf : T.fresh with
    | true => rw [back_new hf hl, labF_fst]
    | false => rw [back_low hf hl, labF_fst]
  · rw [back_off hl]
/-- Who does not speak has the label that it had. -/
theorem back_mute {T : StS} {v : Int} (h : (rndV (true, true) s T v).2 = false) : (rndV (true, true) s T v).1 = vlA T.vals v := by
  by_cases hl : (vlA T.vals v).2 = -1
  · cases hf : T.fresh with
    | true =>
      rw [back_new hf hl] at h ⊢
      rw [labF_snd] at h
      rw [h]; rfl
    | false =>
      rw [back_low hf hl] at h ⊢
      rw [labF_snd] at h
      rw [h]; rfl
  · rw [back_off hl]
theorem back_mail {T : StS} {u x : Int} (hu : 0 ≤ u ∧ u < (n : Int)) : x ∈ mlA (mailR n (true, true) (rndV (true, true) s T) es) u ↔ ∃ e ∈ es, e.1 = u ∧ (rndV (true, true) s T e.2.1).2 = true ∧ x = (vlA T.vals e.2.1).1 := by
  rw [mlA_mail hu, sortN_mem, msgs_mem]
  constructor
  · rintro (⟨e, he, h1, _⟩ | ⟨e, he, _, h2, h3, h4⟩)
    · cases h1
    · refine ⟨e, he, h2, h3, ?_⟩
      rw [h4]
      show (rndV (true, true) s T e.2.1).1.1 = _
      rw [back_col]
  · rintro ⟨e, he, h2, h3, h4⟩
    refine .inr ⟨e, he, rfl, h2, h3, ?_⟩
    rw [h4]
    show _ = (rndV (true, true) s T e.2.1).1.1
    rw [back_col]
/-- The round in which the phase begins. -/
theorem BkI.first (hg : InG n es) {T : StS} (hf : T.fresh = true) (hc : ∀ v : Int, 0 ≤ v ∧ v < (n : Int) → (vlA T.vals v).1 = c v) (hl : ∀ v : Int, 0 ≤ v ∧ v < (n : Int) → (vlA T.vals v).2 = lab v) :
    BkI n es lab c (valsR n (rndV (true, true) s T)) (mailR n (true, true) (rndV (true, true) s T) es) := by
  have hlab : ∀ v : Int, 0 ≤ v ∧ v < (n : Int) → lab v = -1 → (rndV (true, true) s T v) = labF (vlA T.vals v) (c v == v) := fun v hv ha => by
    rw [back_new hf (by rw [hl v hv, ha]), hc v hv]
  refine ⟨valsR_len _ _, mailR_len _ _ _ _, fun v hv => ?_, fun v hv ha => ?_, fun v hv ha => ?_, fun v hv ha hr => ?_, fun e he h1 h2 => ?_, fun v hv x hx => ?_⟩
  · rw [vlA_vals hv, back_col, hc v hv]
  · rw [vlA_vals hv, back_off (by rw [hl v hv]; exact ha)]; exact hl v hv
  · rw [vlA_vals hv, hlab v hv ha, labF_lab]
    by_cases e : c v = v
    · right
      rw [if_pos (by simpa using e), hc v hv]
      exact ⟨rfl, by rw [e]; exact Rch.refl _ _⟩
    · left
      rw [if_neg (by simpa using e), hl v hv, ha]
  · rw [vlA_vals hv, hlab v hv ha, labF_lab, if_pos (by simpa using hr), hc v hv, hr]
    omega
  · obtain ⟨he1, a1, a2⟩ := free_mem.1 he
    obtain ⟨f0, f1, t0, t1, _⟩ := hg e he1
    right
    rw [vlA_vals ⟨t0, t1⟩, hlab _ ⟨t0, t1⟩ a2, labF_lab] at h1
    have h3 : (c e.2.1 == e.2.1) = true := by
      apply Classical.byContradiction
      intro hne
      rw [if_neg hne, hl _ ⟨t0, t1⟩, a2] at h1
      exact h1 rfl
    rw [back_mail ⟨f0, f1⟩]
    refine ⟨e, he1, rfl, ?_, ?_⟩
    · rw [hlab _ ⟨t0, t1⟩ a2, labF_snd]; exact h3
    · rw [hc _ ⟨t0, t1⟩]
  · obtain ⟨e, he, h1, h2, h3⟩ := (back_mail hv).1 hx
    obtain ⟨f0, f1, t0, t1, _⟩ := hg e he
    obtain ⟨g1, g2⟩ := back_said h2
    have ha : lab e.2.1 = -1 := by rw [← hl _ ⟨t0, t1⟩]; exact g1
    refine ⟨e, he, h1, ha, ?_, by rw [h3, hc _ ⟨t0, t1⟩]⟩
    rw [vlA_vals ⟨t0, t1⟩, g2]
    rw [hlab _ ⟨t0, t1⟩ ha, labF_snd] at h2
    have : c e.2.1 = e.2.1 := by simpa using h2
    simp only
    rw [hc _ ⟨t0, t1⟩, this]
    omega
/-- One more round. -/
theorem BkI.more (hg : InG n es) (hcn : ∀ v : Int, 0 ≤ v ∧ v < (n : Int) → lab v = -1 → 0 ≤ c v) {T : StS} (hf : T.fresh = false) (h : BkI n es lab c T.vals T.mail) :
    BkI n es lab c (valsR n (rndV (true, true) s T)) (mailR n (true, true) (rndV (true, true) s T) es) := by
  have hlow : ∀ v : Int, 0 ≤ v ∧ v < (n : Int) → (vlA T.vals v).2 = -1 → rndV (true, true) s T v = labF (vlA T.vals v) (hasB (mlA T.mail v) (c v)) := fun v hv hv2 => by
    rw [back_low hf hv2, h.col v hv]
  have hact : ∀ v : Int, 0 ≤ v ∧ v < (n : Int) → (vlA T.vals v).2 = -1 → lab v = -1 := fun v hv hv2 => by
    apply Classical.byContradiction
    intro hne
    rw [h.off v hv hne] at hv2
    exact hne hv2
  have hkeep : ∀ v : Int, 0 ≤ v ∧ v < (n : Int) → (vlA T.vals v).2 ≠ -1 → (vlA (valsR n (rndV (true, true) s T)) v).2 = (vlA T.vals v).2 := fun v hv hv2 => by
    rw [vlA_vals hv, back_off hv2]
  refine ⟨valsR_len _ _, mailR_len _ _ _ _, fun v hv => ?_, fun v hv ha => ?_, fun v hv ha => ?_, fun v hv ha hr => ?_, fun e he h1 h2 => ?_, fun v hv x hx => ?_⟩
  · rw [vlA_vals hv, back_col, h.col v hv]
  · rw [hkeep v hv (by rw [h.off v hv ha]; exact ha), h.off v hv ha]
  · by_cases e : (vlA T.vals v).2 = -1
    · rw [vlA_vals hv, hlow v hv e, labF_lab]
      cases hb : hasB (mlA T.mail v) (c v) with
      | false => left; exact e
      | true =>
        right
        rw [if_pos rfl, h.col v hv]
        refine ⟨rfl, ?_⟩
        obtain ⟨d, hd, d1, d2, d3, d4⟩ := h.snd v hv _ (hasB_iff.1 hb)
        obtain ⟨f0, f1, t0, t1, _⟩ := hg d hd
        rcases h.on d.2.1 ⟨t0, t1⟩ d2 with g | ⟨_, g⟩
        · exact absurd g d3
        · rw [d4]
          have he : d ∈ freeE lab es := free_mem.2 ⟨hd, by rw [d1]; exact ha, d2⟩
          rw [← d1]
          exact ((Rch.refl _ d.1).step he).trans g
    · rw [hkeep v hv e]
      exact h.on v hv ha
  · have := h.rot v hv ha hr
    rw [hkeep v hv this]; exact this
  · obtain ⟨he1, a1, a2⟩ := free_mem.1 he
    obtain ⟨f0, f1, t0, t1, _⟩ := hg e he1
    by_cases e1 : (vlA T.vals e.2.1).2 = -1
    · right
      rw [back_mail ⟨f0, f1⟩]
      refine ⟨e, he1, rfl, ?_, by rw [h.col _ ⟨t0, t1⟩]⟩
      cases hs : (rndV (true, true) s T e.2.1).2 with
      | true => rfl
      | false =>
        rw [vlA_vals ⟨t0, t1⟩, back_mute hs] at h1
        exact absurd e1 h1
    · left
      rcases h.tel e he e1 h2 with g | g
      · rw [hkeep _ ⟨f0, f1⟩ g]; exact g
      · by_cases e2 : (vlA T.vals e.1).2 = -1
        · rw [vlA_vals ⟨f0, f1⟩, hlow _ ⟨f0, f1⟩ e2, labF_lab, if_pos (hasB_iff.2 (by rw [h2]; exact g)), h.col _ ⟨f0, f1⟩]
          have := hcn _ ⟨f0, f1⟩ a1
          omega
        · rw [hkeep _ ⟨f0, f1⟩ e2]; exact e2
  · obtain ⟨e, he, h1, h2, h3⟩ := (back_mail hv).1 hx
    obtain ⟨f0, f1, t0, t1, _⟩ := hg e he
    obtain ⟨g1, g2⟩ := back_said h2
    have ha := hact _ ⟨t0, t1⟩ g1
    refine ⟨e, he, h1, ha, ?_, by rw [h3, h.col _ ⟨t0, t1⟩]⟩
    rw [vlA_vals ⟨t0, t1⟩, g2]
    have := hcn _ ⟨t0, t1⟩ ha
    simp only
    rw [h.col _ ⟨t0, t1⟩]
    omega
/-- How many have no label. -/
def unl (n : Nat) (vs : List Ml) : Nat := (List.range n).countP fun v : Nat => decide ((vlA vs (v : Int)).2 = -1)
theorem countP_less {α : Type} {p q : α → Bool} : ∀ {l : List α}, (∀ x ∈ l, q x = true → p x = true) → (∃ x ∈ l, p x = true ∧ q x = false) → l.countP q < l.countP p
  | [], _, ⟨x, hx, _⟩ => by simp at hx
  | y :: l, h, ⟨x, hx, h1, h2⟩ => by
    rw [List.countP_cons, List.countP_cons]
    have hle : l.countP q ≤ l.countP p := List.countP_mono_left fun z hz hq => h z (by simp [hz]) hq
    rcases List.mem_cons.1 hx with e | hx
    · subst e
      rw [h1, h2]
      simp
      omega
    · have := countP_less (l := l) (fun z hz => h z (by simp [hz])) ⟨x, hx, h1, h2⟩
      have hy := h y (by simp)
      by_cases e : q y = true
      · rw [e, hy e]; simp; exact this
      · have e' : q y = false := by simpa using e
        rw [e']
        simp
        omega
/-- Somebody speaks: one more has its label. -/
theorem unl_less {T : StS} {v : Int} (hv : 0 ≤ v ∧ v < (n : Int)) (hs : (rndV (true, true) s T v).2 = true) (hc : 0 ≤ (vlA T.vals v).1) : unl n (valsR n (rndV (true, true) s T)) < unl n T.vals := by
  obtain ⟨g1, g2⟩ := back_said hs
  refine countP_less (fun u hu hq => ?_) ⟨v.toNat, List.mem_range.2 (by omega), ?_, ?_⟩
  · have hu' : 0 ≤ (u : Int) ∧ (u : Int) < (n : Int) := by have := List.mem_range.1 hu; omega
    have hq' : (vlA (valsR n (rndV (true, true) s T)) (u : Int)).2 = -1 := by simpa using hq
    rw [vlA_vals hu'] at hq'
    apply decide_eq_true
    apply Classical.byContradiction
    intro hne
    rw [back_off hne] at hq'
    exact hne hq'
  · rw [Int.toNat_of_nonneg hv.1]; exact decide_eq_true g1
  · rw [Int.toNat_of_nonneg hv.1, vlA_vals hv, g2]
    apply decide_eq_false
    simp only
    omega
theorem unl_le {T : StS} : unl n (valsR n (rndV (true, true) s T)) ≤ unl n T.vals := by
  refine List.countP_mono_left fun u hu hq => ?_
  have hu' : 0 ≤ (u : Int) ∧ (u : Int) < (n : Int) := by have := List.mem_range.1 hu; omega
  have hq' : (vlA (valsR n (rndV (true, true) s T)) (u : Int)).2 = -1 := by simpa using hq
  rw [vlA_vals hu'] at hq'
  apply decide_eq_true
  apply Classical.byContradiction
  intro hne
  rw [back_off hne] at hq'
  exact hne hq'
theorem back_over {T : StS} : overR (true, true) (rndV (true, true) s T) es = false := by
  unfold overR
  rw [List.any_eq_false]
  intro e _
  show ¬ ((false && _) && _) = true
  simp
/-- Mail is there only if somebody has spoken. -/
theorem back_some {T : StS} (hm : 0 < manyL (mailR n (true, true) (rndV (true, true) s T) es)) : ∃ e ∈ es, (rndV (true, true) s T e.2.1).2 = true := by
  apply Classical.byContradiction
  intro hne
  have : manyL (mailR n (true, true) (rndV (true, true) s T) es) = 0 := by
    rw [mailR_zero]
    intro u hu
    refine List.eq_nil_iff_forall_not_mem.2 fun x hx => ?_
    have hx' : x ∈ mlA (mailR n (true, true) (rndV (true, true) s T) es) u := by rw [mlA_mail hu, sortN_mem]; exact hx
    obtain ⟨e, he, _, h2, _⟩ := (back_mail hu).1 hx'
    exact hne ⟨e, he, h2⟩
  omega
/-- From a round on, up to the end of the phase. -/
theorem BkI.rest (hg : InG n es) (hcn : ∀ v : Int, 0 ≤ v ∧ v < (n : Int) → lab v = -1 → 0 ≤ c v) : ∀ (d : Nat) (step : Int) (vs : List Ml) (ms : List (List Int)), unl n vs ≤ d → BkI n es lab c vs ms → 0 < manyL ms →
    ∃ (i : Nat) (vs' : List Ml) (ms' : List (List Int)), 1 ≤ i ∧ i ≤ d + 1 ∧ BkI n es lab c vs' ms' ∧ manyL ms' = 0 ∧ unl n vs' ≤ unl n vs ∧ GoesR n es 3 s i ⟨step, 1, false, false, vs, ms⟩ (behR (true, true) (step + i - 1) 1 vs' ms')
  | d, step, vs, ms, hd, hI, hm => by
    have hg1 := GoesR.one (n := n) (es := es) (k := 3) (s := s) (j := (true, true)) (t := ⟨step, 1, false, false, vs, ms⟩) rfl rfl back_over
    have hN := BkI.more (s := s) hg hcn (T := ⟨step, 1, false, false, vs, ms⟩) rfl hI
    have hle := unl_le (n := n) (s := s) (T := ⟨step, 1, false, false, vs, ms⟩)
    by_cases hz : manyL (mailR n (true, true) (rndV (true, true) s ⟨step, 1, false, false, vs, ms⟩) es) = 0
    · refine ⟨1, _, _, Nat.le_refl _, by omega, hN, hz, hle, ?_⟩
      rw [show step + ((1 : Nat) : Int) - 1 = step by omega]
      exact hg1
    · obtain ⟨e, he, hs⟩ := back_some (n := n) (es := es) (s := s) (T := ⟨step, 1, false, false, vs, ms⟩) (by omega)
      obtain ⟨f0, f1, t0, t1, _⟩ := hg e he
      have hl1 := (back_said hs).1
      have ha : lab e.2.1 = -1 := by
        apply Classical.byContradiction
        intro hne
        rw [hI.off _ ⟨t0, t1⟩ hne] at hl1
        exact hne hl1
      have hlt := unl_less (n := n) (s := s) (T := ⟨step, 1, false, false, vs, ms⟩) ⟨t0, t1⟩ hs (by simp only; rw [hI.col _ ⟨t0, t1⟩]; exact hcn _ ⟨t0, t1⟩ ha)
      simp only at hlt
      cases d with
      | zero => omega
      | succ d =>
        have hb : nextS n es (true, true) s ⟨step, 1, false, false, vs, ms⟩ = ⟨step + 1, 1, false, false, valsR n (rndV (true, true) s ⟨step, 1, false, false, vs, ms⟩), mailR n (true, true) (rndV (true, true) s ⟨step, 1, false, false, vs, ms⟩) es⟩ := by
          unfold nextS behR
          rw [if_pos (by omega)]
        rw [hb] at hg1
        obtain ⟨i, vs', ms', h1, h2, h3, h4, h5, h6⟩ := BkI.rest hg hcn d (step + 1) _ _ (by omega) hN (by omega)
        refine ⟨i + 1, vs', ms', by omega, by omega, h3, h4, by omega, ?_⟩
        have := hg1.trans h6
        rw [show 1 + i = i + 1 by omega] at this
        rw [show step + ((i + 1 : Nat) : Int) - 1 = step + 1 + (i : Int) - 1 by omega]
        exact this
/-- The whole phase: somebody is its own colour. -/
theorem BkI.run (hg : InG n es) (hcn : ∀ v : Int, 0 ≤ v ∧ v < (n : Int) → lab v = -1 → 0 ≤ c v) {T : StS} (hp : T.phase = 1) (hf : T.fresh = true) (hd : T.done = false) (hc : ∀ v : Int, 0 ≤ v ∧ v < (n : Int) → (vlA T.vals v).1 = c v) (hl : ∀ v : Int, 0 ≤ v ∧ v < (n : Int) → (vlA T.vals v).2 = lab v)
    {r : Int} (hr : 0 ≤ r ∧ r < (n : Int)) (hrl : lab r = -1) (hrc : c r = r) :
    ∃ (i : Nat) (vs' : List Ml) (ms' : List (List Int)), 1 ≤ i ∧ i ≤ unl n T.vals + 1 ∧ BkI n es lab c vs' ms' ∧ manyL ms' = 0 ∧ unl n vs' < unl n T.vals ∧ GoesR n es 3 s i T (behR (true, true) (T.step + i - 1) 1 vs' ms') := by
  have hg1 := GoesR.one (n := n) (es := es) (k := 3) (s := s) (j := (true, true)) (t := T) hd (by rw [hp]; rfl) back_over
  have hN := BkI.first (s := s) hg hf hc hl
  have hs : (rndV (true, true) s T r).2 = true := by
    rw [back_new hf (by rw [hl r hr]; exact hrl), labF_snd, hc r hr, hrc]
    simp
  have hlt := unl_less (n := n) (s := s) (T := T) hr hs (by rw [hc r hr, hrc]; exact hr.1)
  by_cases hz : manyL (mailR n (true, true) (rndV (true, true) s T) es) = 0
  · refine ⟨1, _, _, Nat.le_refl _, by omega, hN, hz, hlt, ?_⟩
    rw [show T.step + ((1 : Nat) : Int) - 1 = T.step by omega]
    have := hg1
    unfold nextS at this
    rw [hp] at this
    exact this
  · have hb : nextS n es (true, true) s T = ⟨T.step + 1, 1, false, false, valsR n (rndV (true, true) s T), mailR n (true, true) (rndV (true, true) s T) es⟩ := by
      unfold nextS behR
      rw [if_pos (by omega), hp]
    rw [hb] at hg1
    obtain ⟨i, vs', ms', h1, h2, h3, h4, h5, h6⟩ := BkI.rest (s := s) hg hcn (unl n T.vals - 1) (T.step + 1) _ _ (by omega) hN (by omega)
    refine ⟨i + 1, vs', ms', by omega, by omega, h3, h4, by omega, ?_⟩
    have := hg1.trans h6
    rw [show 1 + i = i + 1 by omega] at this
    rw [show T.step + ((i + 1 : Nat) : Int) - 1 = T.step + 1 + (i : Int) - 1 by omega]
    exact this
end
end Go.Proofs.Ytbmkgnlfccigpab

namespace Go.Proofs.Ytbmkgnlfccigpab
set_option maxRecDepth 100000

def mutB (n : Nat) (es : List Ed) (v u : Nat) : Bool := atB (reachF n es v) (u : Int) && atB (reachF n es u) (v : Int)
def strongV (n : Nat) (es : List Ed) (v : Nat) : Nat := (List.range n).findIdx fun u => mutB n es v u
def strongF (n : Nat) (es : List Ed) : List Int := (List.range n).map fun v : Nat => (strongV n es v : Int)
theorem mutB_iff {n : Nat} {es : List Ed} {v u : Nat} (hg : InG n es) (hv : v < n) (hu : u < n) : mutB n es v u = true ↔ Mut es (v : Int) (u : Int) := by
  have h1 := (reach_ok (s := (v : Int)) hg ⟨by omega, by omega⟩).2 (u : Int) ⟨by omega, by omega⟩
  have h2 := (reach_ok (s := (u : Int)) hg ⟨by omega, by omega⟩).2 (v : Int) ⟨by omega, by omega⟩
  unfold mutB Mut
  rw [Bool.and_eq_true, h1, h2]
theorem strongV_is {n : Nat} {es : List Ed} {v c : Nat} (hc : c < n) (h1 : mutB n es v c = true) (h2 : ∀ u, u < c → mutB n es v u = false) : strongV n es v = c := by
  unfold strongV
  rw [List.findIdx_eq (by simpa using hc)]
  exact ⟨by simpa using h1, fun j hj => by simpa using h2 j hj⟩
theorem strongV_some {n : Nat} {es : List Ed} {v : Nat} (hg : InG n es) (hv : v < n) : strongV n es v < n ∧ mutB n es v (strongV n es v) = true ∧ ∀ u, u < strongV n es v → mutB n es v u = false := by
  have hvv : mutB n es v v = true := (mutB_iff hg hv hv).2 ⟨Rch.refl _ _, Rch.refl _ _⟩
  have hlt : strongV n es v < (List.range n).length := by
    unfold strongV
    exact List.findIdx_lt_length_of_exists ⟨v, by simpa using hv, hvv⟩
  have h1 := List.findIdx_getElem (p := fun u => mutB n es v u) (xs := List.range n) (w := hlt)
  have h1' : mutB n es v ((List.range n)[strongV n es v]'hlt) = true := h1
  rw [List.getElem_range] at h1'
  refine ⟨by simpa using hlt, h1', fun u hu => ?_⟩
  have := List.not_of_lt_findIdx (p := fun u => mutB n es v u) (xs := List.range n) (i := u) hu
  simpa using this
theorem strongF_len (n : Nat) (es : List Ed) : (strongF n es).length = n := by simp [strongF]
theorem strongF_at {n : Nat} {es : List Ed} {v : Nat} (hv : v < n) : (strongF n es)[v]? = some (strongV n es v : Int) := by
  unfold strongF
  rw [List.getElem?_map, List.getElem?_range hv]
  rfl
theorem strong_ok {n : Nat} {es : List Ed} (hg : InG n es) : StrongL n es (strongF n es) := by
  refine ⟨strongF_len n es, fun v hv => ?_⟩
  obtain ⟨k, rfl⟩ : ∃ k : Nat, v = k := ⟨v.toNat, by omega⟩
  have hk : k < n := by omega
  rw [atD_at (strongF_at (es := es) hk)]
  obtain ⟨h1, h2, h3⟩ := strongV_some hg hk
  refine ⟨⟨by omega, by omega⟩, ((mutB_iff hg hk h1).1 h2).symm, fun u hu hm => ?_⟩
  obtain ⟨j, rfl⟩ : ∃ j : Nat, u = j := ⟨u.toNat, by omega⟩
  rcases Nat.lt_or_ge j (strongV n es k) with h | h
  · have := h3 j h
    rw [(mutB_iff hg hk (by omega)).2 hm.symm] at this
    cases this
  · omega
theorem strong_uniq {n : Nat} {es : List Ed} {l : List Int} (hg : InG n es) (h : StrongL n es l) : l = strongF n es := LeastL.uniq h (strong_ok hg)
end Go.Proofs.Ytbmkgnlfccigpab

namespace Go.Proofs.Ytbmkgnlfccigpab
set_option maxRecDepth 100000

/-- Labels that are right, as far as there are any: all that are tied both ways have one, or none. -/
structure SnI (n : Nat) (es : List Ed) (lab : Int → Int) : Prop where
  ok : ∀ v : Int, 0 ≤ v ∧ v < (n : Int) → lab v = -1 ∨ ((0 ≤ lab v ∧ lab v < (n : Int)) ∧ Mut es (lab v) v ∧ ∀ u : Int, 0 ≤ u ∧ u < (n : Int) → Mut es u v → lab v ≤ u)
  cl : ∀ u v : Int, 0 ≤ u ∧ u < (n : Int) → 0 ≤ v ∧ v < (n : Int) → Mut es u v → lab u = -1 → lab v = -1
section
variable {n : Nat} {es : List Ed} {s : Int} {lab c : Int → Int}
theorem free_rch {u v : Int} (h : Rch (freeE lab es) u v) : Rch es u v := by
  obtain ⟨p, hp, hc⟩ := h
  exact ⟨p, fun e he => (free_mem.1 (hp e he)).1, hc⟩
/-- Walks between vertices that are tied both ways meet no label. -/
theorem rch_free (hg : InG n es) (h : SnI n es lab) {u v : Int} (hu : 0 ≤ u ∧ u < (n : Int)) (ha : lab u = -1) (hm : Mut es u v) : Rch (freeE lab es) u v := by
  obtain ⟨⟨p, hp, hc⟩, hb⟩ := hm
  have key := walk_ind (es := es) (s := u) (P := fun q x => (∀ e ∈ q, e ∈ es) → Chn u q x → Rch es x v → Rch (freeE lab es) u x) (fun _ _ _ => Rch.refl _ _) (fun q e hq he hcq ih _ _ hx => by
    obtain ⟨f0, f1, t0, t1, _⟩ := hg e he
    have h1 : Rch es u e.1 := ⟨q, hq, hcq⟩
    have h2 : Rch es e.1 v := ((Rch.refl _ e.1).step he).trans hx
    have a1 := h.cl u e.1 hu ⟨f0, f1⟩ ⟨h1, h2.trans hb⟩ ha
    have a2 := h.cl u e.2.1 hu ⟨t0, t1⟩ ⟨h1.step he, hx.trans hb⟩ ha
    exact (ih hq hcq h2).step (free_mem.2 ⟨he, a1, a2⟩)) p.length p v rfl hp hc
  exact key hp hc (Rch.refl _ _)
/-- Colours: of each vertex without a label the least one, without a label, that reaches it. -/
structure ClI (n : Nat) (es : List Ed) (lab c : Int → Int) : Prop where
  inn : ∀ v : Int, 0 ≤ v ∧ v < (n : Int) → lab v = -1 → 0 ≤ c v ∧ c v < (n : Int)
  act : ∀ v : Int, 0 ≤ v ∧ v < (n : Int) → lab v = -1 → lab (c v) = -1
  rch : ∀ v : Int, 0 ≤ v ∧ v < (n : Int) → lab v = -1 → Rch (freeE lab es) (c v) v
  low : ∀ v : Int, 0 ≤ v ∧ v < (n : Int) → lab v = -1 → ∀ u : Int, 0 ≤ u ∧ u < (n : Int) → lab u = -1 → Rch (freeE lab es) u v → c v ≤ u
theorem ClI.same (h : ClI n es lab c) {u v : Int} (hu : 0 ≤ u ∧ u < (n : Int)) (hv : 0 ≤ v ∧ v < (n : Int)) (au : lab u = -1) (av : lab v = -1) (h1 : Rch (freeE lab es) u v) (h2 : Rch (freeE lab es) v u) : c u = c v := by
  have g1 := h.low v hv av (c u) (h.inn u hu au) (h.act u hu au) ((h.rch u hu au).trans h1)
  have g2 := h.low u hu au (c v) (h.inn v hv av) (h.act v hv av) ((h.rch v hv av).trans h2)
  omega
theorem ClI.root (h : ClI n es lab c) {v : Int} (hv : 0 ≤ v ∧ v < (n : Int)) (av : lab v = -1) : c (c v) = c v := by
  have g1 := h.low (c v) (h.inn v hv av) (h.act v hv av) (c v) (h.inn v hv av) (h.act v hv av) (Rch.refl _ _)
  have h2 := h.act v hv av
  have h3 := h.inn v hv av
  have g2 := h.low v hv av (c (c v)) (h.inn _ h3 h2) (h.act _ h3 h2) ((h.rch _ h3 h2).trans (h.rch v hv av))
  omega
theorem col_of {ini : Int → Int} {old : Int → Ml} {vs : List Ml} {ms : List (List Int)} (hi : ini = iniV n lab) (h : FwE n lab ((freeE lab es).map zE) ini old vs ms) : ClI n es lab fun v => (vlA vs v).1 := by
  subst hi
  have key : ∀ v : Int, 0 ≤ v ∧ v < (n : Int) → lab v = -1 → 0 ≤ (vlA vs v).1 ∧ Wkk n ((freeE lab es).map zE) (iniV n lab) v (vlA vs v).1 ∧ ∀ x, Wkk n ((freeE lab es).map zE) (iniV n lab) v x → (vlA vs v).1 ≤ x := fun v hv ha =>
    (h.on v hv ha).2.resolve_left fun g => g.2 v (wkk_z.2 ⟨hv, ha, Rch.refl _ _⟩)
  exact ⟨fun v hv ha => (wkk_z.1 (key v hv ha).2.1).1, fun v hv ha => (wkk_z.1 (key v hv ha).2.1).2.1, fun v hv ha => (wkk_z.1 (key v hv ha).2.1).2.2, fun v hv ha u hu au hr => (key v hv ha).2.2 u (wkk_z.2 ⟨hu, au, hr⟩)⟩
/-- Behind Back a vertex has its label just if it reaches its colour. -/
theorem BkI.who {vs : List Ml} {ms : List (List Int)} (hg : InG n es) (hc : ClI n es lab c) (h : BkI n es lab c vs ms) (hm : manyL ms = 0) {v : Int} (hv : 0 ≤ v ∧ v < (n : Int)) (av : lab v = -1) (hr : Rch (freeE lab es) v (c v)) : (vlA vs v).2 ≠ -1 := by
  have hmt : ∀ u : Int, mlA ms u = [] := fun u => by
    unfold mlA
    rw [List.getD_eq_getElem?_getD]
    cases he : ms[u.toNat]? with
    | none => rfl
    | some l => exact manyL_zero.1 hm l (List.mem_of_getElem? he)
  obtain ⟨p, hp, hch⟩ := hr
  /- from the end of the walk backward -/
  have key : ∀ (p : List Ed) (x : Int), (∀ e ∈ p, e ∈ freeE lab es) → 0 ≤ x ∧ x < (n : Int) → lab x = -1 → Rch (freeE lab es) v x → Chn x p (c v) → (vlA vs x).2 ≠ -1 := by
    intro p
    induction p with
    | nil =>
      intro x _ hx ax _ hcx
      have e : x = c v := hcx
      have hr := hc.root hv av
      exact h.rot x hx ax (by rw [e]; exact hr)
    | cons e p ih =>
      intro x hp hx ax hvx hcx
      have he := hp e (by simp)
      obtain ⟨he1, a1, a2⟩ := free_mem.1 he
      obtain ⟨f0, f1, t0, t1, _⟩ := hg e he1
      have ex : e.1 = x := hcx.1
      have hv2 : Rch (freeE lab es) v e.2.1 := Rch.step (by rw [ex]; exact hvx) he
      have h2 := ih e.2.1 (fun d hd => hp d (by simp [hd])) ⟨t0, t1⟩ a2 hv2 hcx.2
      have hto : Rch (freeE lab es) e.2.1 (c v) := ⟨p, fun d hd => hp d (by simp [hd]), hcx.2⟩
      have hback : ∀ y : Int, Rch (freeE lab es) y (c v) → Rch (freeE lab es) y v := fun y hy => hy.trans (hc.rch v hv av)
      have e1 : c e.1 = c v := hc.same ⟨f0, f1⟩ hv a1 av (hback _ (((Rch.refl _ e.1).step he).trans hto)) (by rw [ex]; exact hvx)
      have e2 : c e.2.1 = c v := hc.same ⟨t0, t1⟩ hv a2 av (hback _ hto) hv2
      rcases h.tel e he h2 (by rw [e1, e2]) with g | g
      · rw [← ex]; exact g
      · rw [hmt] at g; simp at g
  exact key p v hp hv av (Rch.refl _ _) hch
/-- Behind Back the labels are right again. -/
theorem SnI.back {vs : List Ml} {ms : List (List Int)} (hs : SnI n es lab) (hg : InG n es) (hc : ClI n es lab c) (h : BkI n es lab c vs ms) (hm : manyL ms = 0) : SnI n es fun v => (vlA vs v).2 := by
  refine ⟨fun v hv => ?_, fun u v hu hv hM hl => ?_⟩
  · by_cases av : lab v = -1
    · rcases h.on v hv av with g | ⟨g1, g2⟩
      · exact .inl g
      · right
        rw [g1]
        refine ⟨hc.inn v hv av, ⟨free_rch (hc.rch v hv av), free_rch g2⟩, fun u hu hM => ?_⟩
        have au := hs.cl v u hv hu hM.symm av
        exact hc.low v hv av u hu au (rch_free hg hs hu au hM)
    · rw [h.off v hv av]
      exact hs.ok v hv
  · have au : lab u = -1 := by
      apply Classical.byContradiction
      intro hne
      rw [h.off u hu hne] at hl
      exact hne hl
    have av := hs.cl u v hu hv hM au
    rcases h.on v hv av with g | ⟨_, g2⟩
    · exact g
    · exfalso
      have h1 := rch_free hg hs hu au hM
      have h2 := rch_free hg hs hv av hM.symm
      refine h.who hg hc hm hu au ?_ hl
      rw [hc.same hu hv au av h1 h2]
      exact h1.trans g2
theorem unl_pos {vs : List Ml} : 0 < unl n vs ↔ ∃ v : Int, (0 ≤ v ∧ v < (n : Int)) ∧ (vlA vs v).2 = -1 := by
  unfold unl
  rw [List.countP_pos_iff]
  constructor
  · rintro ⟨v, hv, h⟩
    have := List.mem_range.1 hv
    exact ⟨(v : Int), ⟨by omega, by omega⟩, by simpa using h⟩
  · rintro ⟨v, hv, h⟩
    exact ⟨v.toNat, List.mem_range.2 (by omega), by rw [Int.toNat_of_nonneg hv.1]; exact decide_eq_true h⟩
theorem unl_n (vs : List Ml) : unl n vs ≤ n := by
  have := List.countP_le_length (p := fun v : Nat => decide ((vlA vs (v : Int)).2 = -1)) (l := List.range n)
  simpa [unl] using this
theorem vlA_mem {vs : List Ml} {v : Int} (hl : vs.length = n) (hv : 0 ≤ v ∧ v < (n : Int)) : vlA vs v ∈ vs := by
  have h : v.toNat < vs.length := by omega
  unfold vlA
  rw [List.getD_eq_getElem?_getD, List.getElem?_eq_getElem h]
  exact List.getElem_mem h
theorem mem_vlA {vs : List Ml} {x : Ml} (hl : vs.length = n) (hx : x ∈ vs) : ∃ v : Int, (0 ≤ v ∧ v < (n : Int)) ∧ vlA vs v = x := by
  obtain ⟨i, hi, rfl⟩ := List.getElem_of_mem hx
  refine ⟨(i : Int), ⟨by omega, by omega⟩, ?_⟩
  unfold vlA
  rw [Int.toNat_natCast, List.getD_eq_getElem?_getD, List.getElem?_eq_getElem hi]
  rfl
/-- The least vertex without a label. -/
theorem least_free {vs : List Ml} (h : 0 < unl n vs) : ∃ r : Int, (0 ≤ r ∧ r < (n : Int)) ∧ (vlA vs r).2 = -1 ∧ ∀ u : Int, 0 ≤ u ∧ u < (n : Int) → (vlA vs u).2 = -1 → r ≤ u := by
  obtain ⟨v, hv, hl⟩ := unl_pos.1 h
  have key : ∀ (k : Nat) (v : Int), v.toNat ≤ k → 0 ≤ v ∧ v < (n : Int) → (vlA vs v).2 = -1 → ∃ r : Int, (0 ≤ r ∧ r < (n : Int)) ∧ (vlA vs r).2 = -1 ∧ ∀ u : Int, 0 ≤ u ∧ u < (n : Int) → (vlA vs u).2 = -1 → r ≤ u := by
    intro k
    induction k with
    | zero => exact fun v hk hv hl => ⟨v, hv, hl, fun u hu _ => by omega⟩
    | succ k ih =>
      intro v hk hv hl
      by_cases e : ∃ u : Int, (0 ≤ u ∧ u < (n : Int)) ∧ (vlA vs u).2 = -1 ∧ u < v
      · obtain ⟨u, hu, hul, hlt⟩ := e
        exact ih u (by omega) hu hul
      · refine ⟨v, hv, hl, fun u hu hul => ?_⟩
        apply Classical.byContradiction
        intro hne
        exact e ⟨u, hu, hul, by omega⟩
  exact key v.toNat v (Nat.le_refl _) hv hl
/-- A pass: Forward and Back. -/
theorem strong_pass (hn : 0 < n) (hn2 : n ≤ 200) (hg : InG n es) {T : StS} (hp : T.phase = 0) (hf : T.fresh = true) (hd : T.done = false) (hS : SnI n es fun v => (vlA T.vals v).2) (hU : 0 < unl n T.vals) :
    ∃ (i : Nat) (vs : List Ml) (ms : List (List Int)), 1 ≤ i ∧ i ≤ 2 * n + 2 ∧ vs.length = n ∧ ms.length = n ∧ manyL ms = 0 ∧ unl n vs < unl n T.vals ∧ (SnI n es fun v => (vlA vs v).2) ∧ GoesR n es 3 s i T (behR (true, true) (T.step + i - 1) 1 vs ms) := by
  obtain ⟨i, vs, ms, h1, h2, h3, h4⟩ := (fwd_fw (s := s) (lab := fun v => (vlA T.vals v).2) hn hn2 hg).run (k := 3) hn (T := T) (by rw [hp]; rfl) hf hd (fun _ _ => rfl)
  have hb : behR (true, false) (T.step + i - 1) T.phase vs ms = ⟨T.step + i, 1, true, false, vs, ms⟩ := by
    unfold behR
    rw [if_neg (by rw [h3.no]; omega), if_neg (by simp), hp, show T.step + (i : Int) - 1 + 1 = T.step + i by omega]
    rfl
  rw [hb] at h4
  have hC := col_of rfl h3
  have hl : ∀ v : Int, 0 ≤ v ∧ v < (n : Int) → (vlA vs v).2 = (vlA T.vals v).2 := fun v hv => by
    by_cases e : (vlA T.vals v).2 = -1
    · rw [(h3.on v hv e).1, e]
    · rw [h3.off v hv e]
  have hun : unl n vs = unl n T.vals := by
    unfold unl
    refine List.countP_congr fun v hv => ?_
    have := List.mem_range.1 hv
    rw [hl (v : Int) ⟨by omega, by omega⟩]
  obtain ⟨r, hr, hrl, hrm⟩ := least_free hU
  have hrc : (vlA vs r).1 = r := by
    have g1 := hC.low r hr hrl r hr hrl (Rch.refl _ _)
    have g2 := hrm _ (hC.inn r hr hrl) (hC.act r hr hrl)
    omega
  obtain ⟨i2, vs2, ms2, k1, k2, k3, k4, k5, k6⟩ := BkI.run (s := s) (lab := fun v => (vlA T.vals v).2) (c := fun v => (vlA vs v).1) hg (fun v hv ha => (hC.inn v hv ha).1) (T := ⟨T.step + i, 1, true, false, vs, ms⟩) rfl rfl rfl (fun _ _ => rfl) hl hr hrl hrc
  simp only at k2 k5 k6
  have hn3 := unl_n (n := n) vs
  refine ⟨i + i2, vs2, ms2, by omega, by omega, k3.lv, k3.lm, k4, by omega, hS.back hg hC k3 k4, ?_⟩
  have := h4.trans k6
  rw [show T.step + (i : Int) + (i2 : Int) - 1 = T.step + ((i + i2 : Nat) : Int) - 1 by omega] at this
  exact this
/-- All passes. -/
theorem strong_all (hn : 0 < n) (hn2 : n ≤ 200) (hg : InG n es) : ∀ (U : Nat) (T : StS), T.phase = 0 → T.fresh = true → T.done = false → (SnI n es fun v => (vlA T.vals v).2) → 0 < unl n T.vals → unl n T.vals ≤ U →
    ∃ (i : Nat) (t : StS), 1 ≤ i ∧ i ≤ U * (2 * n + 2) ∧ GoesR n es 3 s i T t ∧ t.done = true ∧ t.step = T.step + i ∧ t.vals.length = n ∧ (t.vals.map fun x => x.2) = strongF n es
  | 0, T, _, _, _, _, h1, h2 => by omega
  | U + 1, T, hp, hf, hd, hS, h1, h2 => by
    obtain ⟨i, vs, ms, a1, a2, a3, a4, a5, a6, a7, a8⟩ := strong_pass (s := s) hn hn2 hg hp hf hd hS h1
    have hmul : (U + 1) * (2 * n + 2) = U * (2 * n + 2) + (2 * n + 2) := by rw [Nat.add_mul, Nat.one_mul]
    by_cases ho : openV vs = true
    · have hb : behR (true, true) (T.step + i - 1) 1 vs ms = ⟨T.step + i, 0, true, false, vs, ms⟩ := by
        unfold behR
        rw [if_neg (by rw [a5]; omega), if_neg (by simp [ho]), show T.step + (i : Int) - 1 + 1 = T.step + i by omega]
        rfl
      rw [hb] at a8
      have hpos : 0 < unl n vs := by
        unfold openV at ho
        obtain ⟨x, hx, hx2⟩ := List.any_eq_true.1 ho
        obtain ⟨v, hv, rfl⟩ := mem_vlA a3 hx
        refine unl_pos.2 ⟨v, hv, ?_⟩
        have hx3 : (vlA vs v).2 < 0 := by simpa using hx2
        rcases a7.ok v hv with g | g
        · exact g
        · omega
      obtain ⟨i2, t, b1, b2, b3, b4, b5, b6⟩ := strong_all hn hn2 hg U ⟨T.step + i, 0, true, false, vs, ms⟩ rfl rfl rfl a7 hpos (by simp only; omega)
      refine ⟨i + i2, t, by omega, by omega, a8.trans b3, b4, ?_, b6⟩
      rw [b5]
      simp only
      omega
    · have ho' : openV vs = false := by simpa using ho
      have hb : behR (true, true) (T.step + i - 1) 1 vs ms = ⟨T.step + i, 1, false, true, vs, ms⟩ := by
        unfold behR
        rw [if_neg (by rw [a5]; omega), if_pos (by simp [ho']), show T.step + (i : Int) - 1 + 1 = T.step + i by omega]
      rw [hb] at a8
      refine ⟨i, _, a1, by omega, a8, rfl, rfl, a3, strong_uniq hg ⟨by simp [a3], fun v hv => ?_⟩⟩
      rw [atD_snd a3 hv]
      refine (a7.ok v hv).resolve_left fun g => ?_
      have := List.any_eq_false.1 ho' (vlA vs v) (vlA_mem a3 hv)
      rw [g] at this
      simp at this
theorem strong_rounds (hn : 0 < n) (hn2 : n ≤ 200) (hg : InG n es) :
    ∃ (i : Nat) (t : StS), 1 ≤ i ∧ i ≤ n * (2 * n + 2) ∧ GoesR n es 3 s i (beginS n) t ∧ t.done = true ∧ t.step = i ∧ t.vals.length = n ∧ (t.vals.map fun x => x.2) = strongF n es := by
  have hl : ∀ v : Int, (vlA (beginS n).vals v).2 = -1 := fun v => by rw [show (beginS n).vals = List.replicate n (-1, -1) from rfl, vlA_rep]
  obtain ⟨i, t, h1, h2, h3, h4, h5, h6⟩ := strong_all (s := s) hn hn2 hg n (beginS n) rfl (by simp [beginS, hn]) (by simp [beginS]; omega) ⟨fun v _ => .inl (hl v), fun _ v _ _ _ _ => hl v⟩ (unl_pos.2 ⟨0, ⟨by omega, by omega⟩, hl 0⟩) (unl_n _)
  refine ⟨i, t, h1, h2, h3, h4, ?_, h6⟩
  rw [h5]
  show (0 : Int) + i = i
  omega
end
end Go.Proofs.Ytbmkgnlfccigpab

namespace Go.Proofs.Ytbmkgnlfccigpab
set_option maxRecDepth 100000

/-- Behind q rounds of i the state is t, and i - q more lead to the end T. -/
def StI (m : Nat) (es : List Ed) (k s : Int) (i : Nat) (T : StS) (q : Nat) (t : StS) : Prop := GoesR m es k s (i - q) t T ∧ mayR m k t = true ∧ t.step = q ∧ q ≤ i
section
variable {m i q : Nat} {es : List Ed} {k s : Int} {T t : StS}
theorem StI.start (hk : 1 ≤ k ∧ k ≤ 3) (h : GoesR m es k s i (beginS m) T) : StI m es k s i T 0 (beginS m) := ⟨h, begin_may hk m, rfl, Nat.zero_le _⟩
theorem StI.fin (h : StI m es k s i T q t) (hd : t.done = true) : t = T ∧ q = i := by
  obtain ⟨hG, _, _, hq⟩ := h
  rcases Nat.eq_zero_or_pos (i - q) with h0 | h0
  · rw [h0] at hG
    exact ⟨hG, by omega⟩
  · obtain ⟨p, hp⟩ : ∃ p, i - q = p + 1 := ⟨i - q - 1, by omega⟩
    rw [hp] at hG
    have h1 : t.done = false := hG.1
    rw [hd] at h1; cases h1
theorem StI.go (hn : m ≤ 200) (hg : InG m es) (hl : es.length ≤ 600) (hi : i ≤ 100000) (hT : T.done = true) (h : StI m es k s i T q t) (hd : t.done = false) : q < i ∧ ∃ t', nextE m es k s t = (0, t') ∧ StI m es k s i T (q + 1) t' := by
  obtain ⟨hG, hm, hs, hq⟩ := h
  rcases Nat.eq_zero_or_pos (i - q) with h0 | h0
  · rw [h0] at hG
    have e : t = T := hG
    rw [e, hT] at hd; cases hd
  · obtain ⟨p, hp⟩ : ∃ p, i - q = p + 1 := ⟨i - q - 1, by omega⟩
    rw [hp] at hG
    obtain ⟨_, j, hj, ho, h2⟩ := hG
    obtain ⟨j1, hj1, hM⟩ := mayR_iff.1 hm
    rw [hj] at hj1
    injection hj1 with hj1
    subst hj1
    have hst : t.step < 100000 := by omega
    refine ⟨by omega, _, nextE_go hM hj hd hst ho, ?_, mayR_iff.2 (hM.next (s := s) hj hn hg hl hst ho), ?_, by omega⟩
    · rw [show i - (q + 1) = p by omega]; exact h2
    · rw [show (nextS m es j s t).step = t.step + 1 from (behR_step j _ _ _ _).1, hs]; omega
theorem StI.end' (h : StI m es k s i T q t) (hd : t.done = true) : nextE m es k s t = (0, t) := by
  obtain ⟨j, hj, hM⟩ := mayR_iff.1 h.2.1
  exact nextE_end hM hj hd
end
/-- Every job over a small graph ends, within so many rounds. -/
theorem job_rounds {m : Nat} {es : List Ed} {k s : Int} (hm : 0 < m) (hm8 : m ≤ 8) (hk : 1 ≤ k ∧ k ≤ 3) (hs : 0 ≤ s ∧ s < (m : Int)) (hg : InG m es) (hw : ∀ e ∈ es, e.2.2 ≤ 9) :
    ∃ (i : Nat) (T : StS), 1 ≤ i ∧ i ≤ 160 ∧ GoesR m es k s i (beginS m) T ∧ T.done = true ∧ T.step = i ∧ T.vals.length = m := by
  rcases (show k = 1 ∨ k = 2 ∨ k = 3 by omega) with rfl | rfl | rfl
  · obtain ⟨i, T, h1, h2, h3, h4, h5, h6, _⟩ := dist_rounds (M := 9) hm hs hg (by omega) hw (by omega)
    exact ⟨i, T, h1, by omega, h3, h4, h5, h6⟩
  · obtain ⟨i, T, h1, h2, h3, h4, h5, h6, _⟩ := weak_rounds (s := s) hm (by omega) hg
    exact ⟨i, T, h1, by omega, h3, h4, h5, h6⟩
  · obtain ⟨i, T, h1, h2, h3, h4, h5, h6, _⟩ := strong_rounds (s := s) hm (by omega) hg
    refine ⟨i, T, h1, ?_, h3, h4, h5, h6⟩
    have : m * (2 * m + 2) ≤ 8 * 18 := Nat.mul_le_mul hm8 (by omega)
    omega
end Go.Proofs.Ytbmkgnlfccigpab

namespace Go.Proofs.Ytbmkgnlfccigpab
set_option maxRecDepth 100000

theorem hasB_same {m m' : List Int} {a : Int} (h : ∀ y, y ∈ m ↔ y ∈ m') : hasB m a = hasB m' a := by
  rw [Bool.eq_iff_iff, hasB_iff, hasB_iff]
  exact h a
/-- What a vertex does hangs on what is in its mail alone. -/
theorem wake_same : ∀ (j : Jb) {v s : Int} {x : Ml} {b : Bool} {m m' : List Int}, -1 ≤ x.1 → (∀ y ∈ m, 0 ≤ y) → (∀ y, y ∈ m ↔ y ∈ m') → wakeV j v s x b m = wakeV j v s x b m' := by
  have low : ∀ {x : Ml} {m m' : List Int}, -1 ≤ x.1 → (∀ y ∈ m, 0 ≤ y) → (∀ y, y ∈ m ↔ y ∈ m') → lowV x m = lowV x m' := fun h1 h2 h3 => by
    unfold lowV
    rw [lowF_same h1 h2 h3]
  refine jb_cases ?_ ?_ ?_ ?_ <;> intro v s x b m m' h1 h2 h3 <;> cases b
  · exact low h1 h2 h3
  · rfl
  · exact low h1 h2 h3
  · rfl
  · show (if x.2 = -1 then lowV x m else (x, false)) = if x.2 = -1 then lowV x m' else (x, false)
    rw [low h1 h2 h3]
  · rfl
  · show (if x.2 = -1 then labF x (hasB m x.1) else (x, false)) = if x.2 = -1 then labF x (hasB m' x.1) else (x, false)
    rw [hasB_same h3]
  · rfl
/-- Two states that differ only in how often a piece of mail is there. -/
structure SimI (n : Nat) (t t' : StS) : Prop where
  step : t'.step = t.step
  phase : t'.phase = t.phase
  fresh : t'.fresh = t.fresh
  done : t'.done = t.done
  vals : t'.vals = t.vals
  mail : ∀ v : Int, 0 ≤ v ∧ v < (n : Int) → ∀ x, x ∈ mlA t.mail v ↔ x ∈ mlA t'.mail v
section
variable {n : Nat} {es es' : List Ed} {j : Jb} {k s : Int} {t t' : StS}
theorem SimI.rnd (h : SimI n t t') (hM : MayI n j t) {v : Int} (hv : 0 ≤ v ∧ v < (n : Int)) : rndV j s t' v = rndV j s t v := by
  have hm := h.mail v hv
  have he : (mlA t'.mail v).isEmpty = (mlA t.mail v).isEmpty := by
    rw [Bool.eq_iff_iff, List.isEmpty_iff, List.isEmpty_iff, List.eq_nil_iff_forall_not_mem, List.eq_nil_iff_forall_not_mem]
    exact ⟨fun g x hx => g x ((hm x).1 hx), fun g x hx => g x ((hm x).2 hx)⟩
  unfold rndV
  rw [h.fresh, h.vals, he]
  split
  · exact (wake_same j (valB_iff.1 (hM.val _ (vlA_in hM.lv hv))).1.1 (fun y hy => (mailB_iff.1 (hM.mls _ (mlA_in hM.lm hv)).1 y hy).1) hm).symm
  · rfl
theorem msgs_same {r r' : Int → Ml × Bool} (hg : InG n es) (he : ∀ e, e ∈ es ↔ e ∈ es') (hr : ∀ v : Int, 0 ≤ v ∧ v < (n : Int) → r' v = r v) (u x : Int) : x ∈ msgs j r es u ↔ x ∈ msgs j r' es' u := by
  have hr1 : ∀ e ∈ es, r' e.1 = r e.1 ∧ r' e.2.1 = r e.2.1 := fun e h => by
    obtain ⟨f0, f1, t0, t1, _⟩ := hg e h
    exact ⟨hr _ ⟨f0, f1⟩, hr _ ⟨t0, t1⟩⟩
  rw [msgs_mem, msgs_mem]
  constructor
  · rintro (⟨e, h, h1, h2, h3, h4⟩ | ⟨e, h, h1, h2, h3, h4⟩)
    · exact .inl ⟨e, (he e).1 h, h1, h2, by rw [(hr1 e h).1]; exact h3, by rw [(hr1 e h).1]; exact h4⟩
    · exact .inr ⟨e, (he e).1 h, h1, h2, by rw [(hr1 e h).2]; exact h3, by rw [(hr1 e h).2]; exact h4⟩
  · rintro (⟨e, h, h1, h2, h3, h4⟩ | ⟨e, h, h1, h2, h3, h4⟩)
    · have h' := (he e).2 h
      rw [(hr1 e h').1] at h3 h4
      exact .inl ⟨e, h', h1, h2, h3, h4⟩
    · have h' := (he e).2 h
      rw [(hr1 e h').2] at h3 h4
      exact .inr ⟨e, h', h1, h2, h3, h4⟩
theorem over_same {r r' : Int → Ml × Bool} (hg : InG n es) (he : ∀ e, e ∈ es ↔ e ∈ es') (hr : ∀ v : Int, 0 ≤ v ∧ v < (n : Int) → r' v = r v) (ho : overR j r es = false) : overR j r' es' = false := by
  unfold overR at ho ⊢
  rw [List.any_eq_false] at ho ⊢
  intro e h
  have h' := (he e).2 h
  obtain ⟨f0, f1, _⟩ := hg e h'
  rw [hr _ ⟨f0, f1⟩]
  exact ho e h'
theorem vals_same {r r' : Int → Ml × Bool} (hr : ∀ v : Int, 0 ≤ v ∧ v < (n : Int) → r' v = r v) : valsR n r' = valsR n r := List.map_congr_left fun v hv => by
  have := List.mem_range.1 hv
  rw [hr (v : Int) ⟨by omega, by omega⟩]
theorem SimI.next (h : SimI n t t') (hM : MayI n j t) (hg : InG n es) (he : ∀ e, e ∈ es ↔ e ∈ es') : SimI n (nextS n es j s t) (nextS n es' j s t') := by
  have hr : ∀ v : Int, 0 ≤ v ∧ v < (n : Int) → rndV j s t' v = rndV j s t v := fun v hv => h.rnd hM hv
  have hm := msgs_same (j := j) hg he hr
  have hz : manyL (mailR n j (rndV j s t) es) = 0 ↔ manyL (mailR n j (rndV j s t') es') = 0 := by
    rw [mailR_zero, mailR_zero]
    constructor
    · intro g u hu
      refine List.eq_nil_iff_forall_not_mem.2 fun x hx => ?_
      have := (hm u x).2 hx
      rw [g u hu] at this
      simp at this
    · intro g u hu
      refine List.eq_nil_iff_forall_not_mem.2 fun x hx => ?_
      have := (hm u x).1 hx
      rw [g u hu] at this
      simp at this
  have hmail : ∀ v : Int, 0 ≤ v ∧ v < (n : Int) → ∀ x, x ∈ mlA (mailR n j (rndV j s t) es) v ↔ x ∈ mlA (mailR n j (rndV j s t') es') v := fun v hv x => by
    rw [mlA_mail hv, mlA_mail hv, sortN_mem, sortN_mem]
    exact hm v x
  unfold nextS behR
  rw [h.step, h.phase, vals_same hr]
  by_cases e : manyL (mailR n j (rndV j s t) es) = 0
  · rw [if_neg (show ¬ 0 < manyL (mailR n j (rndV j s t) es) by omega), if_neg (show ¬ 0 < manyL (mailR n j (rndV j s t') es') by rw [hz.1 e]; omega)]
    split <;> exact ⟨rfl, rfl, rfl, rfl, rfl, hmail⟩
  · have e' : ¬ manyL (mailR n j (rndV j s t') es') = 0 := fun g => e (hz.2 g)
    rw [if_pos (show 0 < manyL (mailR n j (rndV j s t) es) by omega), if_pos (show 0 < manyL (mailR n j (rndV j s t') es') by omega)]
    exact ⟨rfl, rfl, rfl, rfl, rfl, hmail⟩
/-- Edges in another order, or some of them twice: as many rounds, and the same values. -/
theorem goes_same (hn : n ≤ 200) (hg : InG n es) (hl : es.length ≤ 600) (he : ∀ e, e ∈ es ↔ e ∈ es') : ∀ (i : Nat) (t t1 t' : StS), GoesR n es k s i t t1 → mayR n k t = true → t.step + i ≤ 100000 → SimI n t t' → ∃ t1', GoesR n es' k s i t' t1' ∧ SimI n t1 t1'
  | 0, t, t1, t', h, _, _, hS => by
    have e : t = t1 := h
    subst e
    exact ⟨t', rfl, hS⟩
  | i + 1, t, t1, t', h, hm, hs, hS => by
    obtain ⟨hd, j, hj, ho, h2⟩ := h
    obtain ⟨j1, hj1, hM⟩ := mayR_iff.1 hm
    rw [hj] at hj1
    injection hj1 with hj1
    subst hj1
    have hst : t.step < 100000 := by omega
    have hN := hM.next (s := s) hj hn hg hl hst ho
    have hs1 : (nextS n es j s t).step = t.step + 1 := (behR_step j _ _ _ _).1
    have hr : ∀ v : Int, 0 ≤ v ∧ v < (n : Int) → rndV j s t' v = rndV j s t v := fun v hv => hS.rnd hM hv
    obtain ⟨t1', g1, g2⟩ := goes_same hn hg hl he i _ t1 _ h2 (mayR_iff.2 hN) (by rw [hs1]; omega) (hS.next (s := s) hM hg he)
    exact ⟨t1', ⟨by rw [hS.done]; exact hd, j, by rw [hS.phase]; exact hj, over_same hg he hr ho, g1⟩, g2⟩
theorem SimI.refl (n : Nat) (t : StS) : SimI n t t := ⟨rfl, rfl, rfl, rfl, rfl, fun _ _ _ => Iff.rfl⟩
end
/-- How much a vertex says. -/
def cntV (j : Jb) (r : Int → Ml × Bool) (es : List Ed) (v : Int) : Nat := if (r v).2 then (if (wayJ j).1 then es.countP (fun e => e.1 == v) else 0) + (if (wayJ j).2 then es.countP (fun e => e.2.1 == v) else 0) else 0
/-- Told vertex by vertex it is as much as told edge by edge. -/
theorem cnt_turn {n : Nat} {es : List Ed} (hg : InG n es) (j : Jb) (r : Int → Ml × Bool) : ((List.range n).map fun v : Nat => cntV j r es (v : Int)).sum = (es.map (cntE j r)).sum := by
  induction es with
  | nil =>
    rw [sum_none (f := fun v : Nat => cntV j r [] (v : Int)) fun v _ => by unfold cntV; simp]
    rfl
  | cons e es ih =>
    obtain ⟨f0, f1, t0, t1, _⟩ := hg e (by simp)
    have e2 : (fun v : Nat => cntV j r (e :: es) (v : Int)) = fun v : Nat => ((if e.1 = (v : Int) then (if (wayJ j).1 && (r e.1).2 then 1 else 0) else 0) + (if e.2.1 = (v : Int) then (if (wayJ j).2 && (r e.2.1).2 then 1 else 0) else 0)) + cntV j r es (v : Int) := by
      funext v
      unfold cntV
      rw [List.countP_cons, List.countP_cons]
      by_cases h1 : e.1 = (v : Int)
      · by_cases h2 : e.2.1 = (v : Int)
        · rw [if_pos h1, if_pos h2, h1, h2]
          cases (wayJ j).1 <;> cases (wayJ j).2 <;> cases (r (v : Int)).2 <;> simp <;> omega
        · rw [if_pos h1, if_neg h2, h1]
          have h2' : (e.2.1 == (v : Int)) = false := by simpa using h2
          rw [h2']
          cases (wayJ j).1 <;> cases (wayJ j).2 <;> cases (r (v : Int)).2 <;> simp <;> omega
      · have h1' : (e.1 == (v : Int)) = false := by simpa using h1
        rw [h1']
        by_cases h2 : e.2.1 = (v : Int)
        · rw [if_neg h1, if_pos h2, h2]
          cases (wayJ j).1 <;> cases (wayJ j).2 <;> cases (r (v : Int)).2 <;> simp <;> omega
        · rw [if_neg h1, if_neg h2]
          have h2' : (e.2.1 == (v : Int)) = false := by simpa using h2
          rw [h2']
          simp
    rw [e2, sum_add, sum_add, sum_one ⟨f0, f1⟩, sum_one ⟨t0, t1⟩, ih fun d hd => hg d (by simp [hd]), List.map_cons, List.sum_cons]
    rfl
end Go.Proofs.Ytbmkgnlfccigpab
