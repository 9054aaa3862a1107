/-
  Contract of pacelinekeep's own made: a graph that is right, out of raw numbers.
  A graph that is made of ways is right, and small.
  Which error P13.1 names, as a function: its cases.
  What P13.2, P13.4 and P13.7 answer, as functions.
  Contracts of slices.ContainsFunc with settled's two closures: is there mail, is a vertex open.
  Contract of rounds.settled.
  copy(d, s) of values, where both have as many elements.
  Contract of rounds.first.
  Contract of rounds.again.
  Contract of rounds.after: of a job that is right, and a state that may be.
  Contract of rounds.Check.
  Contract of rounds.Begin.
  P13.6 as a function: a job run to its end; so many rounds at most.
  Contract of rounds.Run.
  Contract of rounds.check: a job, then a state of it.
  make([]int, m).
  Contract of rounds.Answer.
  How a job's run ends, out of its rounds one by one.
  Contract of the keeping laws' own ran: a job that is right, run to its end, and what it answers.
  When a list is the one that P12 asks for, whichever way it was come by: no edge has anything left to tell, and nothing was told that is not so.
  What is reached, found by a list of vertices whose edges are to be looked at (a stack, a queue, whichever); paths of turned edges.
  The hops from a vertex, in plain mathematics.
  Distances by taking the least of a pool first: what holds ahead of each taking, and what it comes to. S: the vertices that are settled (a list of the program's, or a ghost).
  The hops of a vertex and its edges.
  The cells of hops in slices that read; append on rows of hops.
  Lists of lists of hops: what a call owns, what reads; append of one more list.
  A table of lists of hops that grow each by itself.
  A row of the call's own, cut off behind.
  Contract of paths.reached.
  Contract of paths.nones.
  P12.4 in plain mathematics: the least vertex that is reached and reaches, as the document finds it.
  Contract of paths.bothWays.
-/
import Derived.Test.YtbmkgnlfccigpaaGreatPicked
import Derived.Test.YtbmkgnlfccigpaaGreatRowAppend
import Derived.Test.YtbmkgnlfccigpaaGreatGraphTwo
import Derived.Test.YtbmkgnlfccigpaaGreatRegionLast
import Derived.Shelf.Abstract
import Derived.Deep.CutRange
import Derived.Test.YtbmkgnlfccigpaaGreatRoundMath
import Derived.Test.YtbmkgnlfccigpaaGreatMayMath
import Derived.Test.YtbmkgnlfccigpaaGreatRowCore
import Derived.Test.YtbmkgnlfccigpaaGreatStaMem
import Derived.Test.YtbmkgnlfccigpaaGreatValRow
import Derived.Laws.CopyRow
import Derived.Lib.SlBuf
import Derived.Test.YtbmkgnlfccigpaaGreatMailTable
import Derived.Test.YtbmkgnlfccigpaaGreatRegionCall
import Derived.Test.YtbmkgnlfccigpaaGreatRndSent
import Derived.Test.YtbmkgnlfccigpaaGreatCheckFace
import Derived.Test.YtbmkgnlfccigpaaGreatProgOpen
import Derived.Test.YtbmkgnlfccigpaaGreatBoxMem
import Derived.Test.YtbmkgnlfccigpaaGreatRoundMay
import Derived.Deep.LoopGhost
import Derived.Test.YtbmkgnlfccigpaaGreatRndMay
import Derived.Test.YtbmkgnlfccigpaaGreatRowNew
import Derived.Test.YtbmkgnlfccigpaaGreatIntRow
import Derived.Test.YtbmkgnlfccigpaaGreatPathLists
import Derived.Test.YtbmkgnlfccigpaaGreatRowMem
import Derived.Test.YtbmkgnlfccigpaaGreatAptMem
import Derived.Deep.AppendLies
import Derived.Test.YtbmkgnlfccigpaaGreatRowLies
import Derived.Test.YtbmkgnlfccigpaaGreatRowBase
import Derived.Test.YtbmkgnlfccigpaaGreatBoolRow

namespace Go.Proofs.YtbmkgnlfccigpaaGreat
set_option maxRecDepth 100000
open Go.ChangeShapes Go.WideShapes Go.ChangeAt Go.RowKit

/-- A graph's box behind a store of its edges. -/
theorem heap_set1 {w : World} {b : Nat} {n : Int} {u v : Value} (h : w.heap[b]? = some (.cells #[.int .i64 n, u] 25 (0, 0))) : (w.setCell ⟨b, 1, none⟩ v).heap[b]? = some (.cells #[.int .i64 n, v] 25 (0, 0)) := by
  simp only [World.setCell, Array.getElem?_modify, if_true]
  rw [h]
  rfl
/-- What made makes of one way, in a graph of N vertices. -/
def wayE (N : Int) (x : Ed) : Ed := (pickF x.1 N, pickF x.2.1 N, pickF x.2.2 10)
def madeL (N : Int) (ws : List Ed) : List Ed := (ws.take 10).map (wayE N)

set_option maxHeartbeats 4000000 in
set_option maxRecDepth 100000 in
theorem made_any (n most : Int) (v : Value) (ws : List Ed) (w : World) (h : EdR w v ws) (hB : ∀ x ∈ ws, edB x) (hn : i64B n) (hm0 : 0 < most) (hm1 : most ≤ 199) :
    Calls Tryz.prog 4 #[.int .i64 n, v, .int .i64 most] w fun e w' => ∃ v', e = .returned (.agg #[.int .i64 (1 + pickF n most), v']) ∧
      w'.ownsRow w.heap.size 44 3 v' (madeL (1 + pickF n most) ws).length ((madeL (1 + pickF n most) ws).flatMap encE) ∧ Below w.heap.size w w' := by
  have HR : Hid (EdR w v ws) := h
  obtain ⟨a, cap, rfl, hcc, hcm, _, _⟩ := h
  unfold maxLen at hcm
  have HP : Hid (∀ X, Calls Tryz.prog 8 #[.int .i64 n, .int .i64 most] X fun e w' => e = .returned (.int .i64 (pickF n most)) ∧ w' = X) := fun X => picked_any n most X hn.1 hn.2 hm0 (by omega)
  have hpb := pickF_bd n most hm0
  have hw1 : IntKind.i64.wrap (1 + pickF n most) = 1 + pickF n most := wrap_id64 (by omega) (by omega)
  have hN0 : 0 < 1 + pickF n most := by omega
  have hN1 : 1 + pickF n most ≤ 200 := by omega
  have HPB : Hid (∀ x ∈ ws, edB x) := hB
  clear hB hpb
  generalize pickF n most = p at *
  go_enter Tryz.func4, Tryz.ntmps4
  go_wp2_with fail
  refine (HP.out _).mono ?_
  rintro e w1 ⟨rfl, rfl⟩
  clear HP
  go_wp2_with fail
  go_loopw [8] (fun i wr => ∃ (k : Nat) (u : Value), k ≤ ws.length ∧ k ≤ 10 ∧ i = .int .i64 k ∧ wr.ownsRow (w.heap.size + 2) 44 3 u ((ws.take k).map (wayE (1 + p))).length (((ws.take k).map (wayE (1 + p))).flatMap encE) ∧ wr.heap[w.heap.size + 1]? = some (.cells #[.int .i64 (1 + p), u] 25 (0, 0)) ∧ Below (w.heap.size + 1) (w.alloc (.cells #[.int .i64 0, .slice none 0 0] 25)) wr) (fun i _ => ws.length - (intOf i).toNat)
  case atStart => exact ⟨0, _, by omega, by omega, rfl, World.ownsRow_nil _ _ _ _, heap_second _ _ _ _, (Below.refl _ _).alloc (by simp) _⟩
  case round =>
    obtain ⟨k, u, hk, hk10, rfl, hown, hbox, hbel⟩ := hrel
    have OW : Hid (wr.ownsRow (w.heap.size + 2) 44 3 u ((ws.take k).map (wayE (1 + p))).length (((ws.take k).map (wayE (1 + p))).flatMap encE)) := hown
    have HB : Hid (Below (w.heap.size + 1) (w.alloc (.cells #[.int .i64 0, .slice none 0 0] 25)) wr) := hbel
    have HX : Hid (wr.heap[w.heap.size + 1]? = some (.cells #[.int .i64 (1 + p), u] 25 (0, 0))) := hbox
    have x0 : wr.cell? ⟨w.heap.size + 1, 0, none⟩ = some (.int .i64 (1 + p)) := by rw [cell_of_row _ _ _ _ _ _ hbox]; rfl
    have x1 : wr.cell? ⟨w.heap.size + 1, 1, none⟩ = some u := by rw [cell_of_row _ _ _ _ _ _ hbox]; rfl
    have x2 : wr.frozen? ⟨w.heap.size + 1, 1, none⟩ = false := by simp only [World.frozen?, hbox]; simp
    have hsr : w.heap.size + 2 ≤ wr.heap.size := (Array.getElem?_eq_some_iff.1 hbox).1
    obtain ⟨ua, un, uc, rfl⟩ : ∃ a n c, u = .slice a n c := by obtain ⟨a, c, e, _⟩ := RowK.own encE_len hown; exact ⟨_, _, _, e⟩
    clear hown hbel hbox
    by_cases hlt : k < ws.length
    · by_cases hlt2 : k < 10
      · obtain ⟨b, off, cap', e1, _, _, lt, hv⟩ := EdR.at (HR.out.below (box_below HB.out) (Nat.le_refl _)) (by omega)
        have ltw : b < w.heap.size := by
          obtain ⟨b', off', cap'', e2, _, _, lt', _⟩ := EdR.at HR.out (by omega)
          rw [e1] at e2
          injection e2 with e2 _ _
          injection e2 with e2
          injection e2 with e2
          omega
        injection e1 with e1 _ e3
        subst e1 e3
        obtain ⟨x, hx⟩ := getE hlt
        obtain ⟨c1, c2, c3⟩ := hv k x hx
        have hxb := HPB.out x (List.mem_of_getElem? hx)
        have HT : Hid ((ws.take (k + 1)).map (wayE (1 + p)) = (ws.take k).map (wayE (1 + p)) ++ [wayE (1 + p) x]) := by show _ = _; rw [take_snoc hx, List.map_append]; rfl
        have hlk : ((ws.take k).map (wayE (1 + p))).length = k := by simp; omega
        obtain ⟨⟨b0, b1⟩, ⟨b2, b3⟩, ⟨b4, b5⟩⟩ := hxb
        have p0 : (0 : Int) ≤ (k : Int) := by omega
        have p1 : (k : Int) < (ws.length : Int) := by omega
        clear hv hx
        generalize (ws.take k).map (wayE (1 + p)) = f at *
        go_upto_region 5 with fail
        have hsz : (wr.alloc (.cells #[.int .i64 (pickF x.1 (1 + p)), .int .i64 (pickF x.2.1 (1 + p)), .int .i64 (pickF x.2.2 10)] 44)).drew.heap.size = wr.heap.size + 1 := by simp
        obtain ⟨g, gc, w2, hrun, hown2, hgr⟩ := run_append_newK kE (w := (wr.alloc (.cells #[.int .i64 (pickF x.1 (1 + p)), .int .i64 (pickF x.2.1 (1 + p)), .int .i64 (pickF x.2.2 10)] 44)).drew) 23 (w.heap.size + 2) (.slice ua un uc) f ((OW.out.alloc _).drew) wr.heap.size (wayE (1 + p) x) #[.int .i64 (pickF x.1 (1 + p)), .int .i64 (pickF x.2.1 (1 + p)), .int .i64 (pickF x.2.2 10)] rfl (0, 0) (heap_alloc_new wr _) (by simp only [kE]; omega) (by unfold maxLen; omega) (by rw [hsz]; omega)
        unfold kE at hrun
        simp only at hrun
        have hbb : Below (w.heap.size + 2) wr w2 := (((Below.refl _ _).alloc hsr _).drew).grown hgr (by rw [hsz]; omega) (fun j hj => (OW.out.lt j hj).1)
        have y0 : w2.cell? ⟨w.heap.size + 1, 1, none⟩ = some (.slice ua un uc) := (hbb.cell (p := ⟨w.heap.size + 1, 1, none⟩) (Nat.lt_succ_self _)).trans x1
        have y1 : w2.frozen? ⟨w.heap.size + 1, 1, none⟩ = false := (hbb.frozen (p := ⟨w.heap.size + 1, 1, none⟩) (Nat.lt_succ_self _)).trans x2
        have O2 : Hid (w2.ownsRow (w.heap.size + 2) 44 3 (.slice (some ⟨g, 0, none⟩) (f.length + 1) gc) ((ws.take (k + 1)).map (wayE (1 + p))).length (((ws.take (k + 1)).map (wayE (1 + p))).flatMap encE)) := by
          show World.ownsRow _ _ _ _ _ _ _
          rw [HT.out]; exact hown2
        have B2 : Hid (Below (w.heap.size + 2) wr w2) := hbb
        clear hown2 hgr hsz hbb
        have O2' : Hid (w2.ownsRow (w.heap.size + 2) 44 3 (.slice (some ⟨g, 0, none⟩) (k + 1) gc) ((ws.take (k + 1)).map (wayE (1 + p))).length (((ws.take (k + 1)).map (wayE (1 + p))).flatMap encE)) := by have := O2.out; rwa [hlk] at this
        have HX2 : Hid (w2.heap[w.heap.size + 1]? = some (.cells #[.int .i64 (1 + p), .slice ua un uc] 25 (0, 0))) := (B2.out.block _ (Nat.lt_succ_self _)).trans HX.out
        have KEEP : Hid (∀ V : World, (∀ q, q < wr.heap.size → q < w.heap.size + 2 → V.heap[q]? = wr.heap[q]?) → V.cell? ⟨w.heap.size + 1, 1, none⟩ = some (.slice ua un uc) ∧ V.cell? ⟨w.heap.size + 1, 0, none⟩ = some (.int .i64 (1 + p)) ∧ V.cell? ⟨b, off + k * 3, none⟩ = some (.int .i64 x.1) ∧ V.cell? ⟨b, off + k * 3 + 1, none⟩ = some (.int .i64 x.2.1) ∧ V.cell? ⟨b, off + k * 3 + 2, none⟩ = some (.int .i64 x.2.2)) := fun V hV => by
          have cc : ∀ (q j : Nat) (u : Value), q < w.heap.size + 2 → wr.cell? ⟨q, j, none⟩ = some u → V.cell? ⟨q, j, none⟩ = some u := fun q j u hq hu => (World.cell?_of_block (a := ⟨q, j, none⟩) (hV q (World.block_lt_of_cell? wr _ hu) hq)).trans hu
          exact ⟨cc _ _ _ (by omega) x1, cc _ _ _ (by omega) x0, cc _ _ _ (by omega) c1, cc _ _ _ (by omega) c2, cc _ _ _ (by omega) c3⟩
        have HSD : Hid (wr.drew.cell? ⟨w.heap.size + 1, 1, none⟩ = some (.slice ua un uc) ∧ wr.drew.cell? ⟨w.heap.size + 1, 0, none⟩ = some (.int .i64 (1 + p)) ∧ wr.drew.cell? ⟨b, off + k * 3, none⟩ = some (.int .i64 x.1) ∧ wr.drew.cell? ⟨b, off + k * 3 + 1, none⟩ = some (.int .i64 x.2.1) ∧ wr.drew.cell? ⟨b, off + k * 3 + 2, none⟩ = some (.int .i64 x.2.2)) := KEEP.out _ (fun _ _ _ => rfl)
        have HSE : Hid ((wr.alloc (.cells #[.int .i64 (pickF x.1 (1 + p)), .int .i64 (pickF x.2.1 (1 + p)), .int .i64 (pickF x.2.2 10)] 44)).drew.cell? ⟨w.heap.size + 1, 1, none⟩ = some (.slice ua un uc) ∧ (wr.alloc (.cells #[.int .i64 (pickF x.1 (1 + p)), .int .i64 (pickF x.2.1 (1 + p)), .int .i64 (pickF x.2.2 10)] 44)).drew.cell? ⟨w.heap.size + 1, 0, none⟩ = some (.int .i64 (1 + p)) ∧ (wr.alloc (.cells #[.int .i64 (pickF x.1 (1 + p)), .int .i64 (pickF x.2.1 (1 + p)), .int .i64 (pickF x.2.2 10)] 44)).drew.cell? ⟨b, off + k * 3, none⟩ = some (.int .i64 x.1) ∧ (wr.alloc (.cells #[.int .i64 (pickF x.1 (1 + p)), .int .i64 (pickF x.2.1 (1 + p)), .int .i64 (pickF x.2.2 10)] 44)).drew.cell? ⟨b, off + k * 3 + 1, none⟩ = some (.int .i64 x.2.1) ∧ (wr.alloc (.cells #[.int .i64 (pickF x.1 (1 + p)), .int .i64 (pickF x.2.1 (1 + p)), .int .i64 (pickF x.2.2 10)] 44)).drew.cell? ⟨b, off + k * 3 + 2, none⟩ = some (.int .i64 x.2.2)) := KEEP.out _ (fun q hq _ => (below_alloc wr _).block q hq)
        have HSF : Hid (w2.cell? ⟨w.heap.size + 1, 1, none⟩ = some (.slice ua un uc) ∧ w2.cell? ⟨w.heap.size + 1, 0, none⟩ = some (.int .i64 (1 + p)) ∧ w2.cell? ⟨b, off + k * 3, none⟩ = some (.int .i64 x.1) ∧ w2.cell? ⟨b, off + k * 3 + 1, none⟩ = some (.int .i64 x.2.1) ∧ w2.cell? ⟨b, off + k * 3 + 2, none⟩ = some (.int .i64 x.2.2)) := KEEP.out _ (fun q _ hq => B2.out.block q hq)
        have epk : ∀ args w, (callFunc 8 args).run Tryz.prog w = .ok (.enter 8 args) w := enters_of Tryz.func8 (by kernel_rfl) rfl
        refine region_lastF (S := fun V => V.cell? ⟨w.heap.size + 1, 1, none⟩ = some (.slice ua un uc) ∧ V.cell? ⟨w.heap.size + 1, 0, none⟩ = some (.int .i64 (1 + p)) ∧ V.cell? ⟨b, off + k * 3, none⟩ = some (.int .i64 x.1) ∧ V.cell? ⟨b, off + k * 3 + 1, none⟩ = some (.int .i64 x.2.1) ∧ V.cell? ⟨b, off + k * 3 + 2, none⟩ = some (.int .i64 x.2.2)) (by kernel_rfl) (by kernel_rfl) (by kernel_rfl) (by kernel_rfl) ?_
        simp only [List.pop_toArray, List.dropLast_cons_cons, List.dropLast_singleton, List.size_toArray, List.length_cons, List.length_nil, Nat.reduceAdd]
        refine takeH (i := 0) (v := .pointer (some ⟨w.heap.size + 1, 1, none⟩)) (d := 24) rfl rfl (by kernel_rfl) (by kernel_rfl) (by kernel_rfl) (fun _ _ _ h => h) (by rfl) (fun V hV => by obtain ⟨v1, v2, v3, v4, v5⟩ := hV; go_simp) HSD.out ?_
        simp only [Act.put, List.setIfInBounds_toArray, List.set_cons_zero, List.set_cons_succ]
        refine takeH (i := 1) (v := .slice ua un uc) (d := 25) rfl rfl (by kernel_rfl) (by kernel_rfl) (by kernel_rfl) (fun _ _ _ h => h) (by rfl) (fun V hV => by obtain ⟨v1, v2, v3, v4, v5⟩ := hV; go_simp) HSD.out ?_
        simp only [Act.put, List.setIfInBounds_toArray, List.set_cons_zero, List.set_cons_succ]
        refine takeH (i := 2) (v := .slice (some ⟨b, off, none⟩) ws.length cap) (d := 26) rfl rfl (by kernel_rfl) (by kernel_rfl) (by kernel_rfl) (fun _ _ _ h => h) (by rfl) (fun V hV => by obtain ⟨v1, v2, v3, v4, v5⟩ := hV; go_simp) HSD.out ?_
        simp only [Act.put, List.setIfInBounds_toArray, List.set_cons_zero, List.set_cons_succ]
        refine takeH (i := 3) (v := .int .i64 (k : Int)) (d := 27) rfl rfl (by kernel_rfl) (by kernel_rfl) (by kernel_rfl) (fun _ _ _ h => h) (by rfl) (fun V hV => by obtain ⟨v1, v2, v3, v4, v5⟩ := hV; go_simp) HSD.out ?_
        simp only [Act.put, List.setIfInBounds_toArray, List.set_cons_zero, List.set_cons_succ]
        refine takeH (i := 4) (v := .pointer (some ⟨b, off + k * 3, none⟩)) (d := 28) rfl rfl (by kernel_rfl) (by kernel_rfl) (by kernel_rfl) (fun _ _ _ h => h) (by rfl) (fun V hV => by obtain ⟨v1, v2, v3, v4, v5⟩ := hV; go_simp) HSD.out ?_
        simp only [Act.put, List.setIfInBounds_toArray, List.set_cons_zero, List.set_cons_succ]
        refine takeH (i := 5) (v := .pointer (some ⟨b, off + k * 3, none⟩)) (d := 29) rfl rfl (by kernel_rfl) (by kernel_rfl) (by kernel_rfl) (fun _ _ _ h => h) (by rfl) (fun V hV => by obtain ⟨v1, v2, v3, v4, v5⟩ := hV; go_simp) HSD.out ?_
        simp only [Act.put, List.setIfInBounds_toArray, List.set_cons_zero, List.set_cons_succ]
        refine takeH (i := 6) (v := .int .i64 x.1) (d := 30) rfl rfl (by kernel_rfl) (by kernel_rfl) (by kernel_rfl) (fun _ _ _ h => h) (by rfl) (fun V hV => by obtain ⟨v1, v2, v3, v4, v5⟩ := hV; go_simp) HSD.out ?_
        simp only [Act.put, List.setIfInBounds_toArray, List.set_cons_zero, List.set_cons_succ]
        refine takeH (i := 7) (v := .pointer (some ⟨w.heap.size + 1, 0, none⟩)) (d := 31) rfl rfl (by kernel_rfl) (by kernel_rfl) (by kernel_rfl) (fun _ _ _ h => h) (by rfl) (fun V hV => by obtain ⟨v1, v2, v3, v4, v5⟩ := hV; go_simp) HSD.out ?_
        simp only [Act.put, List.setIfInBounds_toArray, List.set_cons_zero, List.set_cons_succ]
        refine takeH (i := 8) (v := .int .i64 (1 + p)) (d := 32) rfl rfl (by kernel_rfl) (by kernel_rfl) (by kernel_rfl) (fun _ _ _ h => h) (by rfl) (fun V hV => by obtain ⟨v1, v2, v3, v4, v5⟩ := hV; go_simp) HSD.out ?_
        simp only [Act.put, List.setIfInBounds_toArray, List.set_cons_zero, List.set_cons_succ]
        refine takeH (i := 10) (v := .slice (some ⟨b, off, none⟩) ws.length cap) (d := 34) rfl rfl (by kernel_rfl) (by kernel_rfl) (by kernel_rfl) (fun _ _ _ h => h) (by rfl) (fun V hV => by obtain ⟨v1, v2, v3, v4, v5⟩ := hV; go_simp) HSD.out ?_
        simp only [Act.put, List.setIfInBounds_toArray, List.set_cons_zero, List.set_cons_succ]
        refine takeH (i := 11) (v := .int .i64 (k : Int)) (d := 35) rfl rfl (by kernel_rfl) (by kernel_rfl) (by kernel_rfl) (fun _ _ _ h => h) (by rfl) (fun V hV => by obtain ⟨v1, v2, v3, v4, v5⟩ := hV; go_simp) HSD.out ?_
        simp only [Act.put, List.setIfInBounds_toArray, List.set_cons_zero, List.set_cons_succ]
        refine takeH (i := 12) (v := .pointer (some ⟨b, off + k * 3, none⟩)) (d := 36) rfl rfl (by kernel_rfl) (by kernel_rfl) (by kernel_rfl) (fun _ _ _ h => h) (by rfl) (fun V hV => by obtain ⟨v1, v2, v3, v4, v5⟩ := hV; go_simp) HSD.out ?_
        simp only [Act.put, List.setIfInBounds_toArray, List.set_cons_zero, List.set_cons_succ]
        refine takeH (i := 13) (v := .pointer (some ⟨b, off + k * 3 + 1, none⟩)) (d := 37) rfl rfl (by kernel_rfl) (by kernel_rfl) (by kernel_rfl) (fun _ _ _ h => h) (by rfl) (fun V hV => by obtain ⟨v1, v2, v3, v4, v5⟩ := hV; go_simp) HSD.out ?_
        simp only [Act.put, List.setIfInBounds_toArray, List.set_cons_zero, List.set_cons_succ]
        refine takeH (i := 14) (v := .int .i64 x.2.1) (d := 38) rfl rfl (by kernel_rfl) (by kernel_rfl) (by kernel_rfl) (fun _ _ _ h => h) (by rfl) (fun V hV => by obtain ⟨v1, v2, v3, v4, v5⟩ := hV; go_simp) HSD.out ?_
        simp only [Act.put, List.setIfInBounds_toArray, List.set_cons_zero, List.set_cons_succ]
        refine takeH (i := 15) (v := .pointer (some ⟨w.heap.size + 1, 0, none⟩)) (d := 39) rfl rfl (by kernel_rfl) (by kernel_rfl) (by kernel_rfl) (fun _ _ _ h => h) (by rfl) (fun V hV => by obtain ⟨v1, v2, v3, v4, v5⟩ := hV; go_simp) HSD.out ?_
        simp only [Act.put, List.setIfInBounds_toArray, List.set_cons_zero, List.set_cons_succ]
        refine takeH (i := 16) (v := .int .i64 (1 + p)) (d := 40) rfl rfl (by kernel_rfl) (by kernel_rfl) (by kernel_rfl) (fun _ _ _ h => h) (by rfl) (fun V hV => by obtain ⟨v1, v2, v3, v4, v5⟩ := hV; go_simp) HSD.out ?_
        simp only [Act.put, List.setIfInBounds_toArray, List.set_cons_zero, List.set_cons_succ]
        refine takeH (i := 18) (v := .slice (some ⟨b, off, none⟩) ws.length cap) (d := 42) rfl rfl (by kernel_rfl) (by kernel_rfl) (by kernel_rfl) (fun _ _ _ h => h) (by rfl) (fun V hV => by obtain ⟨v1, v2, v3, v4, v5⟩ := hV; go_simp) HSD.out ?_
        simp only [Act.put, List.setIfInBounds_toArray, List.set_cons_zero, List.set_cons_succ]
        refine takeH (i := 19) (v := .int .i64 (k : Int)) (d := 43) rfl rfl (by kernel_rfl) (by kernel_rfl) (by kernel_rfl) (fun _ _ _ h => h) (by rfl) (fun V hV => by obtain ⟨v1, v2, v3, v4, v5⟩ := hV; go_simp) HSD.out ?_
        simp only [Act.put, List.setIfInBounds_toArray, List.set_cons_zero, List.set_cons_succ]
        refine takeH (i := 20) (v := .pointer (some ⟨b, off + k * 3, none⟩)) (d := 44) rfl rfl (by kernel_rfl) (by kernel_rfl) (by kernel_rfl) (fun _ _ _ h => h) (by rfl) (fun V hV => by obtain ⟨v1, v2, v3, v4, v5⟩ := hV; go_simp) HSD.out ?_
        simp only [Act.put, List.setIfInBounds_toArray, List.set_cons_zero, List.set_cons_succ]
        refine takeH (i := 21) (v := .pointer (some ⟨b, off + k * 3 + 2, none⟩)) (d := 45) rfl rfl (by kernel_rfl) (by kernel_rfl) (by kernel_rfl) (fun _ _ _ h => h) (by rfl) (fun V hV => by obtain ⟨v1, v2, v3, v4, v5⟩ := hV; go_simp) HSD.out ?_
        simp only [Act.put, List.setIfInBounds_toArray, List.set_cons_zero, List.set_cons_succ]
        refine takeH (i := 22) (v := .int .i64 x.2.2) (d := 46) rfl rfl (by kernel_rfl) (by kernel_rfl) (by kernel_rfl) (fun _ _ _ h => h) (by rfl) (fun V hV => by obtain ⟨v1, v2, v3, v4, v5⟩ := hV; go_simp) HSD.out ?_
        simp only [Act.put, List.setIfInBounds_toArray, List.set_cons_zero, List.set_cons_succ]
        refine oneH (i := 9) rfl (by kernel_rfl) rfl (call_same (d := 33) (f := 8) (xs := #[.tmp 30, .tmp 32]) (ats := #[3, 3]) rfl rfl epk (vs := #[.int .i64 x.1, .int .i64 (1 + p)]) (by simp [Act.eval]) (picked_any _ _ _ (by omega) (by omega) (by omega) (by omega)) ⟨HSD.out, ?_⟩)
        simp only [Act.put, List.setIfInBounds_toArray, List.set_cons_zero, List.set_cons_succ]
        refine oneH (i := 17) rfl (by kernel_rfl) rfl (call_same (d := 41) (f := 8) (xs := #[.tmp 38, .tmp 40]) (ats := #[3, 3]) rfl rfl epk (vs := #[.int .i64 x.2.1, .int .i64 (1 + p)]) (by simp [Act.eval]) (picked_any _ _ _ (by omega) (by omega) (by omega) (by omega)) ⟨HSD.out, ?_⟩)
        simp only [Act.put, List.setIfInBounds_toArray, List.set_cons_zero, List.set_cons_succ]
        refine oneH (i := 23) rfl (by kernel_rfl) rfl (call_same (d := 47) (f := 8) (xs := #[.tmp 46, .const (.int .i64 10)]) (ats := #[3, 3]) rfl rfl epk (vs := #[.int .i64 x.2.2, .int .i64 10]) (by simp [Act.eval]) (picked_any _ _ _ (by omega) (by omega) (by omega) (by omega)) ⟨HSD.out, ?_⟩)
        simp only [Act.put, List.setIfInBounds_toArray, List.set_cons_zero, List.set_cons_succ]
        refine takeH (i := 24) (v := .agg #[.int .i64 (pickF x.1 (1 + p)), .int .i64 (pickF x.2.1 (1 + p)), .int .i64 (pickF x.2.2 10)]) (d := 48) rfl rfl (by kernel_rfl) (by kernel_rfl) (by kernel_rfl) (fun _ _ _ h => h) (by rfl) (fun V hV => by go_simp) HSD.out ?_
        simp only [Act.put, List.setIfInBounds_toArray, List.set_cons_zero, List.set_cons_succ]
        refine oneH (i := 25) rfl (by kernel_rfl) rfl (op_run (d := 49) (v' := .slice (some ⟨wr.heap.size, 0, none⟩) 1 1) (w' := (wr.alloc (.cells #[.int .i64 (pickF x.1 (1 + p)), .int .i64 (pickF x.2.1 (1 + p)), .int .i64 (pickF x.2.2 10)] 44)).drew) rfl (by go_simp) ⟨HSE.out, ?_⟩)
        simp only [Act.put, List.setIfInBounds_toArray, List.set_cons_zero, List.set_cons_succ]
        refine oneH (i := 26) rfl (by kernel_rfl) rfl (call_append (d := 50) (s := .tmp 25) (x := .tmp 49) (t := 23) rfl rfl (v := .slice ua un uc) (v2 := .slice (some ⟨wr.heap.size, 0, none⟩) 1 1) (by simp [Act.eval]) (by simp [Act.eval]) hrun ⟨HSF.out, ?_⟩)
        simp only [Act.put, List.setIfInBounds_toArray, List.set_cons_zero, List.set_cons_succ]
        refine takeH (i := 27) (v := .pointer (some ⟨w.heap.size + 1, 1, none⟩)) (d := 51) rfl rfl (by kernel_rfl) (by kernel_rfl) (by kernel_rfl) (fun _ _ _ h => h) (by rfl) (fun V hV => by go_simp) HSF.out ?_
        simp only [Act.put, List.setIfInBounds_toArray, List.set_cons_zero, List.set_cons_succ]
        refine wpAnyH_done (by kernel_rfl) ?_ _
        clear HSD HSE HSF
        show Oper.wp _ _ _ _ _ _
        go_wp2_with fail
        go_roundw
        case rel => exact ⟨k + 1, .slice (some ⟨g, 0, none⟩) (k + 1) gc, by omega, by omega, by go_num, RowK.setBelow O2'.out (show w.heap.size + 1 < w.heap.size + 2 by omega) _, heap_set1 HX2.out, (HB.out.trans (B2.out.mono (by omega))).setCell (Nat.le_refl _) _⟩
        case measure => simp [intOf]; omega
      · -- ten ways are had
        have O3 : Hid (wr.ownsRow (w.heap.size + 2) 44 3 (.slice ua un uc) (madeL (1 + p) ws).length ((madeL (1 + p) ws).flatMap encE)) := by
          have e : (ws.take k).map (wayE (1 + p)) = madeL (1 + p) ws := by
            unfold madeL
            congr 1
            rw [show k = 10 by omega]
          rw [← e]; exact OW.out
        obtain ⟨q0, q1⟩ := gbox_cells HB.out
        have q2 : wr.frozen? ⟨w.heap.size, 0, none⟩ = false := (HB.out.frozen (p := ⟨w.heap.size, 0, none⟩) (Nat.lt_succ_self _)).trans (by simp only [World.frozen?, heap_alloc_new]; simp)
        have q3 : wr.frozen? ⟨w.heap.size, 1, none⟩ = false := (HB.out.frozen (p := ⟨w.heap.size, 1, none⟩) (Nat.lt_succ_self _)).trans (by simp only [World.frozen?, heap_alloc_new]; simp)
        clear OW
        go_wp2_with fail
        obtain ⟨r0, r1⟩ := gput_cells (n := 1 + p) (v := .slice ua un uc) q0 q1
        refine bodyPost_ret (v := .agg #[.int .i64 (1 + p), .slice ua un uc]) (by simp [results, Tryz.results4, go_sem, r0, r1]) rfl ⟨_, rfl, ?_, ?_⟩
        · exact own_lower (RowK.setBelow (RowK.setBelow O3.out (show w.heap.size < w.heap.size + 2 by omega) _) (show w.heap.size < w.heap.size + 2 by omega) _) (by omega)
        · exact ((box_below HB.out).setCell (Nat.le_refl _) _).setCell (Nat.le_refl _) _
    · have O3 : Hid (wr.ownsRow (w.heap.size + 2) 44 3 (.slice ua un uc) (madeL (1 + p) ws).length ((madeL (1 + p) ws).flatMap encE)) := by
        have e : (ws.take k).map (wayE (1 + p)) = madeL (1 + p) ws := by
          unfold madeL
          congr 1
          rw [List.take_of_length_le (by omega), List.take_of_length_le (by omega)]
        rw [← e]; exact OW.out
      obtain ⟨q0, q1⟩ := gbox_cells HB.out
      have q2 : wr.frozen? ⟨w.heap.size, 0, none⟩ = false := (HB.out.frozen (p := ⟨w.heap.size, 0, none⟩) (Nat.lt_succ_self _)).trans (by simp only [World.frozen?, heap_alloc_new]; simp)
      have q3 : wr.frozen? ⟨w.heap.size, 1, none⟩ = false := (HB.out.frozen (p := ⟨w.heap.size, 1, none⟩) (Nat.lt_succ_self _)).trans (by simp only [World.frozen?, heap_alloc_new]; simp)
      clear OW
      go_wp2_with fail
      obtain ⟨r0, r1⟩ := gput_cells (n := 1 + p) (v := .slice ua un uc) q0 q1
      refine bodyPost_ret (v := .agg #[.int .i64 (1 + p), .slice ua un uc]) (by simp [results, Tryz.results4, go_sem, r0, r1]) rfl ⟨_, rfl, ?_, ?_⟩
      · exact own_lower (RowK.setBelow (RowK.setBelow O3.out (show w.heap.size < w.heap.size + 2 by omega) _) (show w.heap.size < w.heap.size + 2 by omega) _) (by omega)
      · exact ((box_below HB.out).setCell (Nat.le_refl _) _).setCell (Nat.le_refl _) _
end Go.Proofs.YtbmkgnlfccigpaaGreat

namespace Go.Proofs.YtbmkgnlfccigpaaGreat
set_option maxRecDepth 100000
open Go.ChangeShapes Go.WideShapes Go.ChangeAt Go.RowKit

theorem made_len (N : Int) (ws : List Ed) : (madeL N ws).length ≤ 10 := by simp [madeL]; omega
theorem made_wgt {N : Int} {ws : List Ed} : ∀ e ∈ madeL N ws, e.2.2 ≤ 9 := fun e he => by
  unfold madeL at he
  obtain ⟨x, _, rfl⟩ := List.mem_map.1 he
  have := (pickF_bd x.2.2 10 (by omega)).2
  show pickF x.2.2 10 ≤ 9
  omega
theorem made_right {N : Int} {ws : List Ed} (h0 : 0 < N) (h1 : N ≤ 200) : faultE N (madeL N ws) = 0 := by
  refine ok_fault (by omega) h1 (by have := made_len N ws; omega) fun e he => ?_
  unfold madeL at he
  obtain ⟨x, _, rfl⟩ := List.mem_map.1 he
  have a := pickF_bd x.1 N h0
  have b := pickF_bd x.2.1 N h0
  have c := pickF_bd x.2.2 10 (by omega)
  refine out_of_in a b ?_
  show 0 ≤ pickF x.2.2 10 ∧ pickF x.2.2 10 ≤ 1099511627776
  omega
end Go.Proofs.YtbmkgnlfccigpaaGreat

namespace Go.Proofs.YtbmkgnlfccigpaaGreat
set_option maxRecDepth 100000

theorem jobE_bad {n k s : Int} {es : List Ed} (h : faultE n es ≠ 0) : jobE n es k s = faultE n es := by unfold jobE; rw [if_pos h]
theorem jobE_kind {n k s : Int} {es : List Ed} (h : faultE n es = 0) (hk : ¬ (1 ≤ k ∧ k ≤ 3)) : jobE n es k s = 3 := by unfold jobE; rw [if_neg (by omega), if_pos hk]
theorem jobE_src {n k s : Int} {es : List Ed} (h : faultE n es = 0) (hk : k = 1) (hs : ¬ (0 ≤ s ∧ s < n)) : jobE n es k s = 2 := by unfold jobE; rw [if_neg (by omega), if_neg (by omega), if_pos ⟨hk, hs⟩]
theorem jobE_ok {n k s : Int} {es : List Ed} (h : faultE n es = 0) (hk : 1 ≤ k ∧ k ≤ 3) (hs : k = 1 → 0 ≤ s ∧ s < n) : jobE n es k s = 0 := by unfold jobE; rw [if_neg (by omega), if_neg (by omega), if_neg (fun g => g.2 (hs g.1))]
theorem jobE_zero {n k s : Int} {es : List Ed} (h : jobE n es k s = 0) : faultE n es = 0 ∧ (1 ≤ k ∧ k ≤ 3) ∧ (k = 1 → 0 ≤ s ∧ s < n) := by
  by_cases h1 : faultE n es = 0
  · by_cases h2 : 1 ≤ k ∧ k ≤ 3
    · refine ⟨h1, h2, fun hk => ?_⟩
      apply Classical.byContradiction
      intro hs
      rw [jobE_src h1 hk hs] at h
      cases h
    · rw [jobE_kind h1 h2] at h; cases h
  · rw [jobE_bad h1] at h; exact absurd h h1
end Go.Proofs.YtbmkgnlfccigpaaGreat

namespace Go.Proofs.YtbmkgnlfccigpaaGreat
set_option maxRecDepth 100000
open Go.ChangeShapes Go.WideShapes Go.ChangeAt Go.RowKit

/-- P13.2: what is answered. -/
def begE (n : Int) (es : List Ed) (k s : Int) : Int × StS := if jobE n es k s = 0 then (0, beginS n.toNat) else (jobE n es k s, st0)

/-- What a value tells of its vertex. -/
def tellV (k : Int) (x : Ml) : Int := if k = 3 then x.2 else x.1
/-- P13.7. -/
def ansE (n : Int) (es : List Ed) (k s : Int) (T : StS) : Int × List Int :=
  if jobE n es k s ≠ 0 then (jobE n es k s, []) else if mayR n.toNat k T = false then (9, []) else if T.done = false then (12, []) else (0, T.vals.map (tellV k))
/-- Numbers that are answered, and an error. -/
def NumP (w : World) (r : Int × List Int) (e : Ending) (w' : World) : Prop :=
  ∃ v', e = .returned (.tuple #[v', .int .i64 r.1]) ∧ w'.ownsRow w.heap.size 3 1 v' r.2.length (r.2.flatMap encI) ∧ Below w.heap.size w w'
theorem NumP.no {w w' : World} {f : Int} (hb : Below w.heap.size w w') : NumP w (f, []) (.returned (.tuple #[.slice none 0 0, .int .i64 f])) w' := ⟨_, rfl, World.ownsRow_nil _ _ _ _, hb⟩

/-- P13.4. -/
def folE (n : Int) (es : List Ed) (k s : Int) (T : StS) : Int × StS := if jobE n es k s ≠ 0 then (jobE n es k s, st0) else nextE n.toNat es k s T
theorem folE_bad {n k s : Int} {es : List Ed} {T : StS} (h : jobE n es k s ≠ 0) : folE n es k s T = (jobE n es k s, st0) := if_pos h
theorem folE_no {n k s : Int} {es : List Ed} {T : StS} (h : jobE n es k s = 0) (h2 : mayR n.toNat k T = false) : folE n es k s T = (9, st0) := by
  unfold folE nextE; rw [if_neg (by simp [h]), if_neg (by simp [h2])]
theorem folE_done {n k s : Int} {es : List Ed} {T : StS} (h : jobE n es k s = 0) (h2 : mayR n.toNat k T = true) (h3 : T.done = true) : folE n es k s T = (0, T) := by
  unfold folE nextE; rw [if_neg (by simp [h]), if_pos h2, if_pos h3]
theorem folE_full {n k s : Int} {es : List Ed} {T : StS} (h : jobE n es k s = 0) (h2 : mayR n.toNat k T = true) (h3 : T.done = false) (h4 : 100000 ≤ T.step) : folE n es k s T = (10, st0) := by
  unfold folE nextE; rw [if_neg (by simp [h]), if_pos h2, if_neg (by simp [h3]), if_pos h4]
theorem folE_over {n k s : Int} {es : List Ed} {T : StS} {j : Jb} (h : jobE n es k s = 0) (h2 : mayR n.toNat k T = true) (h3 : T.done = false) (h4 : ¬ 100000 ≤ T.step) (h5 : jobF k T.phase = some j) (h6 : overR j (rndV j s T) es = true) : folE n es k s T = (6, st0) := by
  unfold folE nextE; rw [if_neg (by simp [h]), if_pos h2, if_neg (by simp [h3]), if_neg h4, h5]; simp only; rw [if_pos h6]
theorem folE_go {n k s : Int} {es : List Ed} {T : StS} {j : Jb} (h : jobE n es k s = 0) (h2 : mayR n.toNat k T = true) (h3 : T.done = false) (h4 : ¬ 100000 ≤ T.step) (h5 : jobF k T.phase = some j) (h6 : overR j (rndV j s T) es = false) : folE n es k s T = (0, nextS n.toNat es j s T) := by
  unfold folE nextE; rw [if_neg (by simp [h]), if_pos h2, if_neg (by simp [h3]), if_neg h4, h5]; simp only; rw [if_neg (by simp [h6])]
/-- What a state that may be holds, for its memory. -/
theorem mayR_size {n : Nat} {k : Int} {T : StS} (h : mayR n k T = true) : T.vals.length = n ∧ T.mail.length = n ∧ manyL T.mail ≤ 5000 := by
  have hl : T.vals.length = n ∧ T.mail.length = n := by
    by_cases g : T.vals.length = n ∧ T.mail.length = n
    · exact g
    · rw [mayR_len g] at h; cases h
  refine ⟨hl.1, hl.2, ?_⟩
  unfold mayR at h
  cases hj : jobF k T.phase with
  | none => rw [hj] at h; cases h
  | some j => rw [hj] at h; simp only [Bool.and_eq_true, decide_eq_true_eq] at h; exact h.2
theorem manyL_mem {m : List (List Int)} {l : List Int} (h : l ∈ m) : l.length ≤ manyL m := by
  unfold manyL
  induction m with
  | nil => cases h
  | cons x m ih =>
    rw [List.map_cons, List.sum_cons]
    rcases List.mem_cons.1 h with rfl | h
    · omega
    · have := ih h
      omega
end Go.Proofs.YtbmkgnlfccigpaaGreat

namespace Go.Proofs.YtbmkgnlfccigpaaGreat
set_option maxRecDepth 100000
open Go.ChangeShapes Go.WideShapes Go.ChangeAt Go.RowKit

def hasL (l : List Int) : Bool := decide (0 < l.length)
theorem many_any (ms : List (List Int)) : ms.any hasL = decide (0 < manyL ms) := by
  rw [Bool.eq_iff_iff, List.any_eq_true, decide_eq_true_eq]
  constructor
  · rintro ⟨l, hl, h⟩
    have := manyL_mem hl
    unfold hasL at h
    have := of_decide_eq_true h
    omega
  · intro h
    apply Classical.byContradiction
    intro g
    have : manyL ms = 0 := manyL_zero.2 fun l hl => List.eq_nil_of_length_eq_zero (by
      apply Classical.byContradiction
      intro h2
      exact g ⟨l, hl, decide_eq_true (by omega)⟩)
    omega
set_option maxHeartbeats 400000 in
theorem waits_any (a : Option Addr) (c : Nat) (l : List Int) (w : World) (hl : l.length ≤ 9223372036854775807) : Calls Tryz.prog 35 #[.slice a l.length c] w fun e w' => e = .returned (.bool (hasL l)) ∧ w' = w := by
  by_cases h : 0 < l.length
  · have H : Hid (hasL l = true) := decide_eq_true h
    generalize hasL l = b at *
    have t : (0 : Int) < (l.length : Int) := by omega
    go_enter Tryz.func35, Tryz.ntmps35
    go_wp2_with fail
    go_ret
    exact ⟨ret_bool H.out.symm, rfl⟩
  · have H : Hid (hasL l = false) := decide_eq_false h
    generalize hasL l = b at *
    have t : ¬ (0 : Int) < (l.length : Int) := by omega
    go_enter Tryz.func35, Tryz.ntmps35
    go_wp2_with fail
    go_ret
    exact ⟨ret_bool H.out.symm, rfl⟩
def opnB (x : Ml) : Bool := x.2 == -1
theorem open_any {vs : List Ml} (h : ∀ x ∈ vs, -1 ≤ x.2) : vs.any opnB = openV vs := by
  unfold openV
  rw [Bool.eq_iff_iff, List.any_eq_true, List.any_eq_true]
  constructor
  · rintro ⟨x, hx, hb⟩
    refine ⟨x, hx, ?_⟩
    unfold opnB at hb
    have := eq_of_beq hb
    exact decide_eq_true (by omega)
  · rintro ⟨x, hx, hb⟩
    refine ⟨x, hx, ?_⟩
    have h1 := of_decide_eq_true hb
    have h2 := h x hx
    unfold opnB
    exact beq_iff_eq.2 (by omega)
set_option maxHeartbeats 400000 in
theorem opens_any (x : Ml) (w : World) : Calls Tryz.prog 36 #[.agg #[.int .i64 x.1, .int .i64 x.2]] w fun e w' => e = .returned (.bool (opnB x)) ∧ Below w.heap.size w w' := by
  have H : Hid ((x.2 == -1) = opnB x) := rfl
  obtain ⟨b, hb⟩ : ∃ b, (x.2 == -1) = b := ⟨_, rfl⟩
  rw [hb] at H
  generalize opnB x = ob at *
  have BH : Hid (Below w.heap.size w (w.alloc (.cells #[.int .i64 x.1, .int .i64 x.2] 56))) := below_alloc _ _
  go_enter Tryz.func36, Tryz.ntmps36
  go_wp2_with fail
  go_ret
  exact ⟨ret_bool (by rw [← H.out]), BH.out⟩

theorem any_take {α : Type} {l : List α} {p : α → Bool} {k : Nat} {x : α} (h : l[k]? = some x) : (l.take (k + 1)).any p = ((l.take k).any p || p x) := by
  rw [take_snoc h, List.any_append]; simp
theorem any_hitX {α : Type} {l : List α} {p : α → Bool} {k : Nat} {x : α} (h : l[k]? = some x) (hp : p x = true) : l.any p = true := List.any_eq_true.2 ⟨x, List.mem_of_getElem? h, hp⟩

set_option maxHeartbeats 800000 in
theorem indexL_any (v : Value) (ms : List (List Int)) (w : World) (h : LiR w v ms) :
    Calls Tryz.prog 52 #[v, .func (.func 35) #[] #[]] w fun e w' => ∃ r : Int, e = .returned (.int .i64 r) ∧ (0 ≤ r ↔ ms.any hasL = true) ∧ w' = w := by
  have HM : Hid (LiR w v ms) := h
  obtain ⟨ma, mc, rfl, hmc, hmm, _⟩ := h
  unfold maxLen at hmm
  have HH : Hid (∀ (k : Nat) (l : List Int), ms[k]? = some l → hasL l = true → ms.any hasL = true) := fun k l h1 h2 => any_hitX h1 h2
  have HN : Hid ((ms.take ms.length).any hasL = ms.any hasL) := by show List.any _ _ = _; rw [List.take_of_length_le (Nat.le_refl _)]
  have HT : Hid (∀ (k : Nat) (l : List Int), ms[k]? = some l → (ms.take (k + 1)).any hasL = ((ms.take k).any hasL || hasL l)) := fun k l h1 => any_take h1
  generalize ms.any hasL = ab at *
  go_enter Tryz.func52, Tryz.ntmps52
  go_wp2_with fail
  go_loop [8] (fun i => ∃ k : Nat, k ≤ ms.length ∧ i = .int .i64 k ∧ (ms.take k).any hasL = false) (fun i => ms.length - (intOf i).toNat)
  case atStart => exact ⟨0, by omega, rfl, rfl⟩
  case round =>
    obtain ⟨k, hk, rfl, hs⟩ := hrel
    have HS : Hid ((ms.take k).any hasL = false) := hs
    clear hs
    by_cases hlt : k < ms.length
    · obtain ⟨b1, o1, cap1, e1, lt1, hc1, hc2, hv1⟩ := HM.out.at (by omega)
      injection e1 with e1 _ e3
      subst e1 e3
      obtain ⟨l, hl⟩ := getX hlt
      obtain ⟨u, hu, hur⟩ := hv1 k l hl
      obtain ⟨ua, uc, rfl, huc, hum, _⟩ := hur
      unfold maxLen at hum
      have HY : Hid (hasL l = true → ab = true) := HH.out k l hl
      have HX : Hid (hasL l = false → (ms.take (k + 1)).any hasL = false) := fun h => by rw [HT.out k l hl, HS.out, h]; rfl
      have CC : Hid (∀ X, Calls Tryz.prog 35 #[.slice ua l.length uc] X fun e w' => e = .returned (.bool (hasL l)) ∧ w' = X) := fun X => waits_any ua uc l X (by omega)
      have p0 : (0 : Int) ≤ (k : Int) := by omega
      have p1 : (k : Int) < (ms.length : Int) := by omega
      clear hv1 hl
      generalize hasL l = hb at *
      go_wp2_with fail
      refine (CC.out _).mono ?_
      rintro e w' ⟨rfl, rfl⟩
      cases hb
      · have HX2 : Hid _ := HX.out rfl
        go_wp2_with fail
        go_round
        case rel => exact ⟨k + 1, by omega, by go_num, HX2.out⟩
        case measure => simp [intOf]; omega
      · have HY2 : Hid (ab = true) := HY.out rfl
        go_wp2_with fail
        go_ret
        exact ⟨_, rfl, ⟨fun _ => HY2.out, fun _ => by omega⟩, rfl⟩
    · have ek : k = ms.length := by omega
      have HE : Hid (ab = false) := by
        have := HS.out
        rw [ek, HN.out] at this
        exact this
      clear ek
      go_wp2_with fail
      go_ret
      exact ⟨_, rfl, ⟨fun h => by omega, fun h => by rw [HE.out] at h; cases h⟩, rfl⟩

set_option maxHeartbeats 400000 in
theorem containsL_any (v : Value) (ms : List (List Int)) (w : World) (h : LiR w v ms) :
    Calls Tryz.prog 37 #[v, .func (.func 35) #[] #[]] w fun e w' => e = .returned (.bool (decide (0 < manyL ms))) ∧ w' = w := by
  rw [← many_any]
  have CC : Hid (∀ X, LiR X v ms → Calls Tryz.prog 52 #[v, .func (.func 35) #[] #[]] X fun e w' => ∃ r : Int, e = .returned (.int .i64 r) ∧ (0 ≤ r ↔ ms.any hasL = true) ∧ w' = X) := fun X hX => indexL_any v ms X hX
  have HL : Hid (LiR w v ms) := h
  obtain ⟨ma, mc, rfl, hmc, hmm, _⟩ := h
  generalize ms.any hasL = ab at *
  go_enter Tryz.func37, Tryz.ntmps37
  go_wp2_with fail
  refine (CC.out _ HL.out).mono ?_
  rintro e w1 ⟨r, rfl, hr, hw⟩
  have HR : Hid (0 ≤ r ↔ ab = true) := hr
  have HW : Hid (w1 = w) := hw
  clear hr hw
  by_cases h0 : 0 ≤ r
  · have HA : Hid (ab = true) := HR.out.1 h0
    go_wp2_with fail
    go_ret
    exact ⟨by rw [HA.out]; rfl, HW.out⟩
  · have HA : Hid (ab = false) := by
      show ab = false
      cases hab : ab
      · rfl
      · exact absurd (HR.out.2 hab) h0
    have td : decide (0 ≤ r) = false := decide_eq_false h0
    go_wp2_with fail
    go_ret
    exact ⟨by rw [HA.out]; rfl, HW.out⟩

set_option maxHeartbeats 800000 in
theorem indexV_any (v : Value) (vs : List Ml) (w : World) (h : MlR w v vs) :
    Calls Tryz.prog 53 #[v, .func (.func 36) #[] #[]] w fun e w' => ∃ r : Int, e = .returned (.int .i64 r) ∧ (0 ≤ r ↔ vs.any opnB = true) ∧ Below w.heap.size w w' := by
  have HM : Hid (MlR w v vs) := h
  obtain ⟨ma, mc, rfl, hmc, hmm, _⟩ := h
  unfold maxLen at hmm
  have HH : Hid (∀ (k : Nat) (l : Ml), vs[k]? = some l → opnB l = true → vs.any opnB = true) := fun k l h1 h2 => any_hitX h1 h2
  have HN : Hid ((vs.take vs.length).any opnB = vs.any opnB) := by show List.any _ _ = _; rw [List.take_of_length_le (Nat.le_refl _)]
  have HT : Hid (∀ (k : Nat) (l : Ml), vs[k]? = some l → (vs.take (k + 1)).any opnB = ((vs.take k).any opnB || opnB l)) := fun k l h1 => any_take h1
  generalize vs.any opnB = ab at *
  go_enter Tryz.func53, Tryz.ntmps53
  go_wp2_with fail
  go_loopw [8] (fun i wr => ∃ k : Nat, k ≤ vs.length ∧ i = .int .i64 k ∧ (vs.take k).any opnB = false ∧ Below w.heap.size w wr) (fun i _ => vs.length - (intOf i).toNat)
  case atStart => exact ⟨0, by omega, rfl, rfl, Below.refl _ _⟩
  case round =>
    obtain ⟨k, hk, rfl, hs, hbel⟩ := hrel
    have HS : Hid ((vs.take k).any opnB = false) := hs
    have AB : Hid (Below w.heap.size w wr) := hbel
    clear hs hbel
    by_cases hlt : k < vs.length
    · obtain ⟨b1, o1, cap1, e1, lt1, hv1⟩ := MlR.read (HM.out.below AB.out (Nat.le_refl _)) (by omega)
      injection e1 with e1 _ e3
      subst e1 e3
      obtain ⟨x, hx⟩ := getX hlt
      obtain ⟨d0, d1⟩ := hv1 k x hx
      have HY : Hid (opnB x = true → ab = true) := HH.out k x hx
      have HX : Hid (opnB x = false → (vs.take (k + 1)).any opnB = false) := fun h => by rw [HT.out k x hx, HS.out, h]; rfl
      have CC : Hid (∀ X, Calls Tryz.prog 36 #[.agg #[.int .i64 x.1, .int .i64 x.2]] X fun e w' => e = .returned (.bool (opnB x)) ∧ Below X.heap.size X w') := fun X => opens_any x X
      have p0 : (0 : Int) ≤ (k : Int) := by omega
      have p1 : (k : Int) < (vs.length : Int) := by omega
      clear hv1 hx
      generalize opnB x = hb at *
      go_wp2_with fail
      refine (CC.out _).mono ?_
      rintro e w1 ⟨rfl, hb1⟩
      have A1 : Hid (Below w.heap.size w w1) := AB.out.trans (hb1.mono AB.out.size)
      clear hb1 d0 d1
      cases hb
      · have HX2 : Hid _ := HX.out rfl
        go_wp2_with fail
        go_roundw
        case rel => exact ⟨k + 1, by omega, by go_num, HX2.out, A1.out⟩
        case measure => simp [intOf]; omega
      · have HY2 : Hid (ab = true) := HY.out rfl
        go_wp2_with fail
        go_ret
        exact ⟨_, rfl, ⟨fun _ => HY2.out, fun _ => by omega⟩, A1.out⟩
    · have ek : k = vs.length := by omega
      have HE : Hid (ab = false) := by
        have := HS.out
        rw [ek, HN.out] at this
        exact this
      clear ek
      go_wp2_with fail
      go_ret
      exact ⟨_, rfl, ⟨fun h => by omega, fun h => by rw [HE.out] at h; cases h⟩, AB.out⟩

set_option maxHeartbeats 400000 in
theorem containsV_any (v : Value) (vs : List Ml) (w : World) (h : MlR w v vs) :
    Calls Tryz.prog 38 #[v, .func (.func 36) #[] #[]] w fun e w' => e = .returned (.bool (vs.any opnB)) ∧ Below w.heap.size w w' := by
  have CC : Hid (∀ X, MlR X v vs → Calls Tryz.prog 53 #[v, .func (.func 36) #[] #[]] X fun e w' => ∃ r : Int, e = .returned (.int .i64 r) ∧ (0 ≤ r ↔ vs.any opnB = true) ∧ Below X.heap.size X w') := fun X hX => indexV_any v vs X hX
  have HL : Hid (MlR w v vs) := h
  obtain ⟨ma, mc, rfl, hmc, hmm, _⟩ := h
  generalize vs.any opnB = ab at *
  go_enter Tryz.func38, Tryz.ntmps38
  go_wp2_with fail
  refine (CC.out _ HL.out).mono ?_
  rintro e w1 ⟨r, rfl, hr, hw⟩
  have HR : Hid (0 ≤ r ↔ ab = true) := hr
  have HW : Hid (Below w.heap.size w w1) := hw
  clear hr hw
  by_cases h0 : 0 ≤ r
  · have HA : Hid (ab = true) := HR.out.1 h0
    go_wp2_with fail
    go_ret
    exact ⟨by rw [HA.out]; rfl, HW.out⟩
  · have HA : Hid (ab = false) := by
      show ab = false
      cases hab : ab
      · rfl
      · exact absurd (HR.out.2 hab) h0
    have td : decide (0 ≤ r) = false := decide_eq_false h0
    go_wp2_with fail
    go_ret
    exact ⟨by rw [HA.out]; rfl, HW.out⟩
end Go.Proofs.YtbmkgnlfccigpaaGreat

namespace Go.Proofs.YtbmkgnlfccigpaaGreat
set_option maxRecDepth 100000
open Go.ChangeShapes Go.WideShapes Go.ChangeAt Go.RowKit

/-- A state that is answered, its lists those that were handed in. -/
def SetP (w : World) (t : StS) (vv vm : Value) (e : Ending) (w' : World) : Prop :=
  e = .returned (.agg #[.int .i64 t.step, .int .i64 t.phase, .bool t.fresh, .bool t.done, vv, vm]) ∧ Below w.heap.size w w'
theorem beh_mail {j : Jb} {a p : Int} {vs : List Ml} {ms : List (List Int)} (h : 0 < manyL ms) : behR j a p vs ms = ⟨a + 1, p, false, false, vs, ms⟩ := by unfold behR; rw [if_pos h]
theorem beh_done {j : Jb} {a p : Int} {vs : List Ml} {ms : List (List Int)} (h : ¬ 0 < manyL ms) (h2 : (!j.1 || (j.2 && !openV vs)) = true) : behR j a p vs ms = ⟨a + 1, p, false, true, vs, ms⟩ := by unfold behR; rw [if_neg h, if_pos h2]
theorem beh_turn {j : Jb} {a p : Int} {vs : List Ml} {ms : List (List Int)} (h : ¬ 0 < manyL ms) (h2 : (!j.1 || (j.2 && !openV vs)) = false) : behR j a p vs ms = ⟨a + 1, 1 - p, true, false, vs, ms⟩ := by unfold behR; rw [if_neg h, if_neg (by rw [h2]; simp)]

set_option maxHeartbeats 4000000 in
set_option maxRecDepth 100000 in
theorem settled_any (j : Jb) (k a step ph : Int) (vs : List Ml) (ms : List (List Int)) (vv vm : Value) (w : World) (hk : k = Jb.k j) (hp : ph = Jb.p j) (hst : step = a + 1) (hv : MlR w vv vs) (hm : LiR w vm ms) (hlab : ∀ x ∈ vs, -1 ≤ x.2) :
    Calls Tryz.prog 26 #[.int .i64 k, .agg #[.int .i64 step, .int .i64 ph, .bool false, .bool false, vv, vm]] w (SetP w (behR j a ph vs ms) vv vm) := by
  have HV : Hid (MlR w vv vs) := hv
  have HM : Hid (LiR w vm ms) := hm
  obtain ⟨va, vc, rfl, hvc, hvm, _, _⟩ := hv
  obtain ⟨ma, mc, rfl, hmc, hmm, _⟩ := hm
  have HO : Hid (vs.any opnB = openV vs) := open_any hlab
  clear hlab
  obtain ⟨W0, hW0⟩ : ∃ W0, W0 = (w.alloc (.cells #[.int .i64 step, .int .i64 ph, .bool false, .bool false, .slice va vs.length vc, .slice ma ms.length mc] 31)).alloc (.cells #[.int .i64 0, .int .i64 0, .bool false, .bool false, .slice none 0 0, .slice none 0 0] 31) := ⟨_, rfl⟩
  obtain ⟨Q0, T0, B0, s1, s2⟩ := boxes2 w #[.int .i64 step, .int .i64 ph, .bool false, .bool false, .slice va vs.length vc, .slice ma ms.length mc] #[.int .i64 0, .int .i64 0, .bool false, .bool false, .slice none 0 0, .slice none 0 0] 31 31 W0 hW0
  have BH : Hid (Below w.heap.size w W0) := B0
  have X0 : Hid (BX 31 W0 w.heap.size #[.int .i64 step, .int .i64 ph, .bool false, .bool false, .slice va vs.length vc, .slice ma ms.length mc]) := Q0
  have Z0 : Hid (BX 31 W0 (w.heap.size + 1) #[.int .i64 0, .int .i64 0, .bool false, .bool false, .slice none 0 0, .slice none 0 0]) := T0
  have CL : Hid (∀ X, LiR X (.slice ma ms.length mc) ms → Calls Tryz.prog 37 #[.slice ma ms.length mc, .func (.func 35) #[] #[]] X fun e w' => e = .returned (.bool (decide (0 < manyL ms))) ∧ w' = X) := fun X hX => containsL_any _ ms X hX
  have CV : Hid (∀ X, MlR X (.slice va vs.length vc) vs → Calls Tryz.prog 38 #[.slice va vs.length vc, .func (.func 36) #[] #[]] X fun e w' => e = .returned (.bool (openV vs)) ∧ Below X.heap.size X w') := fun X hX => by rw [← HO.out]; exact containsV_any _ vs X hX
  have HML : Hid (LiR W0 (.slice ma ms.length mc) ms) := HM.out.below BH.out (Nat.le_refl _)
  have HVL : Hid (MlR W0 (.slice va vs.length vc) vs) := HV.out.below BH.out (Nat.le_refl _)
  obtain ⟨⟨c0, c1, c2, c3, c4, c5⟩, f0, f1, f2, f3, f4, f5⟩ := Q0.all6
  obtain ⟨⟨d0, d1, d2, d3, d4, d5⟩, e0, e1, e2, e3, e4, e5⟩ := T0.all6
  clear Q0 T0 B0
  by_cases hmy : 0 < manyL ms
  · have HE : Hid (behR j a ph vs ms = ⟨step, ph, false, false, vs, ms⟩) := by show behR j a ph vs ms = _; rw [hst]; exact beh_mail hmy
    rw [show decide (0 < manyL ms) = true from decide_eq_true hmy] at CL
    generalize behR j a ph vs ms = R at *
    clear hmy hk hp hst
    go_enter Tryz.func26, Tryz.ntmps26
    go_upto_region 4 with fail
    rw [← hW0]
    clear hW0
    go_wp2_with fail
    refine (CL.out _ HML.out).mono ?_
    rintro e w1 ⟨rfl, hw⟩
    replace hw := hw.symm
    subst hw
    have XX := X0.out
    have ZZ := Z0.out
    have BB := BH.out
    have hsz : w.heap.size + 2 ≤ W0.heap.size := s2
    have x2 : BX 31 W0 w.heap.size #[.int .i64 step, .int .i64 ph, .bool false, .bool false, .slice va vs.length vc, .slice ma ms.length mc] := XX
    have kp : Kept (fun k => k = w.heap.size) W0 W0 := Kept.refl _ _
    have z2 : BX 31 W0 (w.heap.size + 1) #[.int .i64 0, .int .i64 0, .bool false, .bool false, .slice none 0 0, .slice none 0 0] := ZZ.kept kp (by omega)
    have RX : Hid (BX 31 (put6 W0 (w.heap.size + 1) (.int .i64 step) (.int .i64 ph) (.bool false) (.bool false) (.slice va vs.length vc) (.slice ma ms.length mc)) (w.heap.size + 1) #[.int .i64 step, .int .i64 ph, .bool false, .bool false, .slice va vs.length vc, .slice ma ms.length mc]) := z2.put6
    have HP : Hid (SetP w R (.slice va vs.length vc) (.slice ma ms.length mc) (.returned (.agg #[.int .i64 step, .int .i64 ph, .bool false, .bool false, .slice va vs.length vc, .slice ma ms.length mc])) (put6 W0 (w.heap.size + 1) (.int .i64 step) (.int .i64 ph) (.bool false) (.bool false) (.slice va vs.length vc) (.slice ma ms.length mc))) := by
      show SetP _ _ _ _ _ _
      rw [HE.out]
      exact ⟨rfl, below_put6 (BB.trans (kp.below (by omega) (fun k hk => by omega))) (by omega) z2.lt _ _ _ _ _ _⟩
    clear c0 c1 c2 c3 c4 c5 f0 f1 f2 f3 f4 f5 d0 d1 d2 d3 d4 d5 e0 e1 e2 e3 e4 e5
    obtain ⟨⟨c0, c1, c2, c3, c4, c5⟩, _⟩ := x2.all6
    obtain ⟨⟨d0, d1, d2, d3, d4, d5⟩, e0, e1, e2, e3, e4, e5⟩ := z2.all6
    obtain ⟨⟨r0, r1, r2, r3, r4, r5⟩, _⟩ := RX.out.all6
    unfold put6 at r0 r1 r2 r3 r4 r5
    obtain ⟨⟨m0, m1, m2, m3, m4, m5⟩, g0, g1, g2, g3, g4, g5⟩ := XX.all6
    go_wp2_with fail
    exact bodyPost_ret (v := .agg #[.int .i64 step, .int .i64 ph, .bool false, .bool false, .slice va vs.length vc, .slice ma ms.length mc]) (by simp [results, Tryz.results26, go_sem, r0, r1, r2, r3, r4, r5]) rfl HP.out
  · rw [show decide (0 < manyL ms) = false from decide_eq_false hmy] at CL
    rcases j with ⟨j1, j2⟩
    cases j1
    · have HE : Hid (behR (false, j2) a ph vs ms = ⟨step, ph, false, true, vs, ms⟩) := by show behR (false, j2) a ph vs ms = _; rw [hst]; exact beh_done hmy rfl
      have t3 : (k == 3) = false := by
        rw [hk]; cases j2 <;> rfl
      generalize behR (false, j2) a ph vs ms = R at *
      clear hmy hk hp hst
      go_enter Tryz.func26, Tryz.ntmps26
      go_upto_region 4 with fail
      rw [← hW0]
      clear hW0
      go_wp2_with fail
      refine (CL.out _ HML.out).mono ?_
      rintro e w1 ⟨rfl, hw⟩
      replace hw := hw.symm
      subst hw
      have XX := X0.out
      have ZZ := Z0.out
      have BB := BH.out
      have hsz : w.heap.size + 2 ≤ W0.heap.size := s2
      have x2 : BX 31 (W0.setCell ⟨w.heap.size, 3, none⟩ (.bool true)) w.heap.size #[.int .i64 step, .int .i64 ph, .bool false, .bool true, .slice va vs.length vc, .slice ma ms.length mc] := XX.set 3 _
      have kp : Kept (fun k => k = w.heap.size) W0 (W0.setCell ⟨w.heap.size, 3, none⟩ (.bool true)) := Kept.box _ _ _ _
      have z2 : BX 31 (W0.setCell ⟨w.heap.size, 3, none⟩ (.bool true)) (w.heap.size + 1) #[.int .i64 0, .int .i64 0, .bool false, .bool false, .slice none 0 0, .slice none 0 0] := ZZ.kept kp (by omega)
      have RX : Hid (BX 31 (put6 (W0.setCell ⟨w.heap.size, 3, none⟩ (.bool true)) (w.heap.size + 1) (.int .i64 step) (.int .i64 ph) (.bool false) (.bool true) (.slice va vs.length vc) (.slice ma ms.length mc)) (w.heap.size + 1) #[.int .i64 step, .int .i64 ph, .bool false, .bool true, .slice va vs.length vc, .slice ma ms.length mc]) := z2.put6
      have HP : Hid (SetP w R (.slice va vs.length vc) (.slice ma ms.length mc) (.returned (.agg #[.int .i64 step, .int .i64 ph, .bool false, .bool true, .slice va vs.length vc, .slice ma ms.length mc])) (put6 (W0.setCell ⟨w.heap.size, 3, none⟩ (.bool true)) (w.heap.size + 1) (.int .i64 step) (.int .i64 ph) (.bool false) (.bool true) (.slice va vs.length vc) (.slice ma ms.length mc))) := by
        show SetP _ _ _ _ _ _
        rw [HE.out]
        exact ⟨rfl, below_put6 (BB.trans (kp.below (by omega) (fun k hk => by omega))) (by omega) z2.lt _ _ _ _ _ _⟩
      clear c0 c1 c2 c3 c4 c5 f0 f1 f2 f3 f4 f5 d0 d1 d2 d3 d4 d5 e0 e1 e2 e3 e4 e5
      obtain ⟨⟨c0, c1, c2, c3, c4, c5⟩, _⟩ := x2.all6
      obtain ⟨⟨d0, d1, d2, d3, d4, d5⟩, e0, e1, e2, e3, e4, e5⟩ := z2.all6
      obtain ⟨⟨r0, r1, r2, r3, r4, r5⟩, _⟩ := RX.out.all6
      unfold put6 at r0 r1 r2 r3 r4 r5
      obtain ⟨⟨m0, m1, m2, m3, m4, m5⟩, g0, g1, g2, g3, g4, g5⟩ := XX.all6
      go_wp2_with fail
      exact bodyPost_ret (v := .agg #[.int .i64 step, .int .i64 ph, .bool false, .bool true, .slice va vs.length vc, .slice ma ms.length mc]) (by simp [results, Tryz.results26, go_sem, r0, r1, r2, r3, r4, r5]) rfl HP.out
    · cases j2
      · have HE : Hid (behR (true, false) a ph vs ms = ⟨step, 1, true, false, vs, ms⟩) := by
          show behR (true, false) a ph vs ms = _
          rw [hst, beh_turn hmy rfl, show ph = 0 from hp]; rfl
        have t3 : (k == 3) = true := by rw [hk]; rfl
        have t0 : (ph == 0) = true := by rw [hp]; rfl
        generalize behR (true, false) a ph vs ms = R at *
        clear hmy hk hp hst
        go_enter Tryz.func26, Tryz.ntmps26
        go_upto_region 4 with fail
        rw [← hW0]
        clear hW0
        go_wp2_with fail
        refine (CL.out _ HML.out).mono ?_
        rintro e w1 ⟨rfl, hw⟩
        replace hw := hw.symm
        subst hw
        have XX := X0.out
        have ZZ := Z0.out
        have BB := BH.out
        have hsz : w.heap.size + 2 ≤ W0.heap.size := s2
        have x2 : BX 31 ((W0.setCell ⟨w.heap.size, 1, none⟩ (.int .i64 1)).setCell ⟨w.heap.size, 2, none⟩ (.bool true)) w.heap.size #[.int .i64 step, .int .i64 1, .bool true, .bool false, .slice va vs.length vc, .slice ma ms.length mc] := (XX.set 1 _).set 2 _
        have kp : Kept (fun k => k = w.heap.size) W0 ((W0.setCell ⟨w.heap.size, 1, none⟩ (.int .i64 1)).setCell ⟨w.heap.size, 2, none⟩ (.bool true)) := (Kept.box _ _ _ _).trans (Kept.box _ _ _ _)
        have z2 : BX 31 ((W0.setCell ⟨w.heap.size, 1, none⟩ (.int .i64 1)).setCell ⟨w.heap.size, 2, none⟩ (.bool true)) (w.heap.size + 1) #[.int .i64 0, .int .i64 0, .bool false, .bool false, .slice none 0 0, .slice none 0 0] := ZZ.kept kp (by omega)
        have RX : Hid (BX 31 (put6 ((W0.setCell ⟨w.heap.size, 1, none⟩ (.int .i64 1)).setCell ⟨w.heap.size, 2, none⟩ (.bool true)) (w.heap.size + 1) (.int .i64 step) (.int .i64 1) (.bool true) (.bool false) (.slice va vs.length vc) (.slice ma ms.length mc)) (w.heap.size + 1) #[.int .i64 step, .int .i64 1, .bool true, .bool false, .slice va vs.length vc, .slice ma ms.length mc]) := z2.put6
        have HP : Hid (SetP w R (.slice va vs.length vc) (.slice ma ms.length mc) (.returned (.agg #[.int .i64 step, .int .i64 1, .bool true, .bool false, .slice va vs.length vc, .slice ma ms.length mc])) (put6 ((W0.setCell ⟨w.heap.size, 1, none⟩ (.int .i64 1)).setCell ⟨w.heap.size, 2, none⟩ (.bool true)) (w.heap.size + 1) (.int .i64 step) (.int .i64 1) (.bool true) (.bool false) (.slice va vs.length vc) (.slice ma ms.length mc))) := by
          show SetP _ _ _ _ _ _
          rw [HE.out]
          exact ⟨rfl, below_put6 (BB.trans (kp.below (by omega) (fun k hk => by omega))) (by omega) z2.lt _ _ _ _ _ _⟩
        clear c0 c1 c2 c3 c4 c5 f0 f1 f2 f3 f4 f5 d0 d1 d2 d3 d4 d5 e0 e1 e2 e3 e4 e5
        obtain ⟨⟨c0, c1, c2, c3, c4, c5⟩, _⟩ := x2.all6
        obtain ⟨⟨d0, d1, d2, d3, d4, d5⟩, e0, e1, e2, e3, e4, e5⟩ := z2.all6
        obtain ⟨⟨r0, r1, r2, r3, r4, r5⟩, _⟩ := RX.out.all6
        unfold put6 at r0 r1 r2 r3 r4 r5
        obtain ⟨⟨m0, m1, m2, m3, m4, m5⟩, g0, g1, g2, g3, g4, g5⟩ := XX.all6
        go_wp2_with fail
        exact bodyPost_ret (v := .agg #[.int .i64 step, .int .i64 1, .bool true, .bool false, .slice va vs.length vc, .slice ma ms.length mc]) (by simp [results, Tryz.results26, go_sem, r0, r1, r2, r3, r4, r5]) rfl HP.out
      · have t3 : (k == 3) = true := by rw [hk]; rfl
        have t0 : (ph == 0) = false := by rw [hp]; rfl
        cases ho : openV vs
        · have HE : Hid (behR (true, true) a ph vs ms = ⟨step, ph, false, true, vs, ms⟩) := by
            show behR (true, true) a ph vs ms = _
            rw [hst]; exact beh_done hmy (by rw [ho]; rfl)
          rw [ho] at CV
          generalize behR (true, true) a ph vs ms = R at *
          clear hmy hk hp hst ho
          go_enter Tryz.func26, Tryz.ntmps26
          go_upto_region 4 with fail
          rw [← hW0]
          clear hW0
          go_wp2_with fail
          refine (CL.out _ HML.out).mono ?_
          rintro e w1 ⟨rfl, hw⟩
          replace hw := hw.symm
          subst hw
          go_wp2_with fail
          refine (CV.out _ HVL.out).mono ?_
          rintro e w1 ⟨rfl, hb1⟩
          have XX := X0.out.below hb1 (by omega)
          have ZZ := Z0.out.below hb1 (by omega)
          have BB : Below w.heap.size w w1 := BH.out.trans (hb1.mono (by omega))
          have hsz : w.heap.size + 2 ≤ w1.heap.size := Nat.le_trans s2 hb1.size
          have x2 : BX 31 (w1.setCell ⟨w.heap.size, 3, none⟩ (.bool true)) w.heap.size #[.int .i64 step, .int .i64 ph, .bool false, .bool true, .slice va vs.length vc, .slice ma ms.length mc] := XX.set 3 _
          have kp : Kept (fun k => k = w.heap.size) w1 (w1.setCell ⟨w.heap.size, 3, none⟩ (.bool true)) := Kept.box _ _ _ _
          have z2 : BX 31 (w1.setCell ⟨w.heap.size, 3, none⟩ (.bool true)) (w.heap.size + 1) #[.int .i64 0, .int .i64 0, .bool false, .bool false, .slice none 0 0, .slice none 0 0] := ZZ.kept kp (by omega)
          have RX : Hid (BX 31 (put6 (w1.setCell ⟨w.heap.size, 3, none⟩ (.bool true)) (w.heap.size + 1) (.int .i64 step) (.int .i64 ph) (.bool false) (.bool true) (.slice va vs.length vc) (.slice ma ms.length mc)) (w.heap.size + 1) #[.int .i64 step, .int .i64 ph, .bool false, .bool true, .slice va vs.length vc, .slice ma ms.length mc]) := z2.put6
          have HP : Hid (SetP w R (.slice va vs.length vc) (.slice ma ms.length mc) (.returned (.agg #[.int .i64 step, .int .i64 ph, .bool false, .bool true, .slice va vs.length vc, .slice ma ms.length mc])) (put6 (w1.setCell ⟨w.heap.size, 3, none⟩ (.bool true)) (w.heap.size + 1) (.int .i64 step) (.int .i64 ph) (.bool false) (.bool true) (.slice va vs.length vc) (.slice ma ms.length mc))) := by
            show SetP _ _ _ _ _ _
            rw [HE.out]
            exact ⟨rfl, below_put6 (BB.trans (kp.below (by omega) (fun k hk => by omega))) (by omega) z2.lt _ _ _ _ _ _⟩
          clear c0 c1 c2 c3 c4 c5 f0 f1 f2 f3 f4 f5 d0 d1 d2 d3 d4 d5 e0 e1 e2 e3 e4 e5
          obtain ⟨⟨c0, c1, c2, c3, c4, c5⟩, _⟩ := x2.all6
          obtain ⟨⟨d0, d1, d2, d3, d4, d5⟩, e0, e1, e2, e3, e4, e5⟩ := z2.all6
          obtain ⟨⟨r0, r1, r2, r3, r4, r5⟩, _⟩ := RX.out.all6
          unfold put6 at r0 r1 r2 r3 r4 r5
          obtain ⟨⟨m0, m1, m2, m3, m4, m5⟩, g0, g1, g2, g3, g4, g5⟩ := XX.all6
          go_wp2_with fail
          exact bodyPost_ret (v := .agg #[.int .i64 step, .int .i64 ph, .bool false, .bool true, .slice va vs.length vc, .slice ma ms.length mc]) (by simp [results, Tryz.results26, go_sem, r0, r1, r2, r3, r4, r5]) rfl HP.out
        · have HE : Hid (behR (true, true) a ph vs ms = ⟨step, 0, true, false, vs, ms⟩) := by
            show behR (true, true) a ph vs ms = _
            rw [hst, beh_turn hmy (by rw [ho]; rfl), show ph = 1 from hp]; rfl
          rw [ho] at CV
          generalize behR (true, true) a ph vs ms = R at *
          clear hmy hk hp hst ho
          go_enter Tryz.func26, Tryz.ntmps26
          go_upto_region 4 with fail
          rw [← hW0]
          clear hW0
          go_wp2_with fail
          refine (CL.out _ HML.out).mono ?_
          rintro e w1 ⟨rfl, hw⟩
          replace hw := hw.symm
          subst hw
          go_wp2_with fail
          refine (CV.out _ HVL.out).mono ?_
          rintro e w1 ⟨rfl, hb1⟩
          have XX := X0.out.below hb1 (by omega)
          have ZZ := Z0.out.below hb1 (by omega)
          have BB : Below w.heap.size w w1 := BH.out.trans (hb1.mono (by omega))
          have hsz : w.heap.size + 2 ≤ w1.heap.size := Nat.le_trans s2 hb1.size
          have x2 : BX 31 ((w1.setCell ⟨w.heap.size, 1, none⟩ (.int .i64 0)).setCell ⟨w.heap.size, 2, none⟩ (.bool true)) w.heap.size #[.int .i64 step, .int .i64 0, .bool true, .bool false, .slice va vs.length vc, .slice ma ms.length mc] := (XX.set 1 _).set 2 _
          have kp : Kept (fun k => k = w.heap.size) w1 ((w1.setCell ⟨w.heap.size, 1, none⟩ (.int .i64 0)).setCell ⟨w.heap.size, 2, none⟩ (.bool true)) := (Kept.box _ _ _ _).trans (Kept.box _ _ _ _)
          have z2 : BX 31 ((w1.setCell ⟨w.heap.size, 1, none⟩ (.int .i64 0)).setCell ⟨w.heap.size, 2, none⟩ (.bool true)) (w.heap.size + 1) #[.int .i64 0, .int .i64 0, .bool false, .bool false, .slice none 0 0, .slice none 0 0] := ZZ.kept kp (by omega)
          have RX : Hid (BX 31 (put6 ((w1.setCell ⟨w.heap.size, 1, none⟩ (.int .i64 0)).setCell ⟨w.heap.size, 2, none⟩ (.bool true)) (w.heap.size + 1) (.int .i64 step) (.int .i64 0) (.bool true) (.bool false) (.slice va vs.length vc) (.slice ma ms.length mc)) (w.heap.size + 1) #[.int .i64 step, .int .i64 0, .bool true, .bool false, .slice va vs.length vc, .slice ma ms.length mc]) := z2.put6
          have HP : Hid (SetP w R (.slice va vs.length vc) (.slice ma ms.length mc) (.returned (.agg #[.int .i64 step, .int .i64 0, .bool true, .bool false, .slice va vs.length vc, .slice ma ms.length mc])) (put6 ((w1.setCell ⟨w.heap.size, 1, none⟩ (.int .i64 0)).setCell ⟨w.heap.size, 2, none⟩ (.bool true)) (w.heap.size + 1) (.int .i64 step) (.int .i64 0) (.bool true) (.bool false) (.slice va vs.length vc) (.slice ma ms.length mc))) := by
            show SetP _ _ _ _ _ _
            rw [HE.out]
            exact ⟨rfl, below_put6 (BB.trans (kp.below (by omega) (fun k hk => by omega))) (by omega) z2.lt _ _ _ _ _ _⟩
          clear c0 c1 c2 c3 c4 c5 f0 f1 f2 f3 f4 f5 d0 d1 d2 d3 d4 d5 e0 e1 e2 e3 e4 e5
          obtain ⟨⟨c0, c1, c2, c3, c4, c5⟩, _⟩ := x2.all6
          obtain ⟨⟨d0, d1, d2, d3, d4, d5⟩, e0, e1, e2, e3, e4, e5⟩ := z2.all6
          obtain ⟨⟨r0, r1, r2, r3, r4, r5⟩, _⟩ := RX.out.all6
          unfold put6 at r0 r1 r2 r3 r4 r5
          obtain ⟨⟨m0, m1, m2, m3, m4, m5⟩, g0, g1, g2, g3, g4, g5⟩ := XX.all6
          go_wp2_with fail
          exact bodyPost_ret (v := .agg #[.int .i64 step, .int .i64 0, .bool true, .bool false, .slice va vs.length vc, .slice ma ms.length mc]) (by simp [results, Tryz.results26, go_sem, r0, r1, r2, r3, r4, r5]) rfl HP.out
end Go.Proofs.YtbmkgnlfccigpaaGreat

namespace Go.Proofs.YtbmkgnlfccigpaaGreat
set_option maxRecDepth 100000
open Go.ChangeShapes Go.WideShapes Go.ChangeAt Go.RowKit

theorem setRow_kept (w : World) (g : Nat) (cur : Array Value) : Kept (fun k => k = g) w (w.setRow g cur) := by
  refine ⟨rfl, rfl, rfl, by simp [World.setRow], fun k _ hk => ?_⟩
  unfold World.setRow
  simp only [Array.getElem?_modify]
  rw [if_neg (fun e => hk e.symm)]
theorem copy_vals {w : World} {base g m cap : Nat} {xs zs : List Ml} {v : Value} (ty : TypeId) (hd : w.ownsRow base 56 2 (.slice (some ⟨g, 0, none⟩) m cap) m (zs.flatMap encM)) (hr : MlR w v xs) (hx : xs.length = m) :
    ∃ w', (Builtin.copy_ #[28, 28] ty #[.slice (some ⟨g, 0, none⟩) m cap, v]).run Tryz.prog w = .ok (goInt xs.length) w' ∧ w'.ownsRow base 56 2 (.slice (some ⟨g, 0, none⟩) m cap) m (xs.flatMap encM) ∧ Kept (fun k => k = g) w w' := by
  obtain ⟨i0, hi, hz0, hz1, hz2⟩ := info_parts Tryz.infoV
  have hdc := hd
  rcases hd.2 with ⟨hv, _⟩ | ⟨g', cap', cur, hv, hg, hgg, hc, hm, hcur, htk⟩
  · cases hv
  injection hv with h1 h2 h3
  injection h1 with h1
  injection h1 with h1
  subst h1 h3
  have hlen : (xs.flatMap encM).length = m * 2 := by rw [flat_len encM_len, hx]
  have hfit : 0 + (xs.flatMap encM).length ≤ cur.size := by
    have h5 := hdc.1
    rw [hlen, hcur]
    omega
  have hone : ∀ u ∈ xs.flatMap encM, u.oneCell' = true := flat_one kV xs
  have hst := run_storeCells_at Tryz.prog g 0 56 (xs.flatMap encM) 0 cur w hgg (by simpa using hfit) hone
  refine ⟨w.setRow g (cur.toList.take 0 ++ xs.flatMap encM ++ cur.toList.drop (0 + (xs.flatMap encM).length)).toArray, ?_, ?_, setRow_kept _ _ _⟩
  · have hld : ∃ a c, v = .slice a m c ∧ (m = 0 ∨ ∃ b off, a = some ⟨b, off, none⟩ ∧ ∀ j u, (xs.flatMap encM)[j]? = some u → w.cell? ((⟨b, off, none⟩ : Addr).add j) = some u) := by
      obtain ⟨a, c, rfl, _, _, _, hel⟩ := hr
      refine ⟨a, c, by rw [hx], ?_⟩
      rcases Nat.eq_zero_or_pos m with h0 | h0
      · exact .inl h0
      · obtain ⟨b, off, rfl, _, hv⟩ := hel (by omega)
        refine .inr ⟨b, off, rfl, fun j u hu => ?_⟩
        have hj : j < m * 2 := by rw [← hlen]; exact (List.getElem?_eq_some_iff.1 hu).1
        obtain ⟨y, hy⟩ := getX (show j / 2 < xs.length by omega)
        have hz : j % 2 < (encM y).length := by rw [encM_len]; omega
        have h6 := flat_at encM_len hy (List.getElem?_eq_getElem hz)
        rw [show j / 2 * 2 + j % 2 = j by omega, hu] at h6
        injection h6 with h6
        have := hv (j / 2) y hy (j % 2) _ (List.getElem?_eq_getElem hz)
        have ea : (⟨b, off, none⟩ : Addr).add j = ⟨b, off + j, none⟩ := by unfold Addr.add; split <;> simp_all
        rw [ea, h6]
        rw [show off + j / 2 * 2 + j % 2 = off + j by omega] at this
        exact this
    obtain ⟨a, c, rfl, hz⟩ := hld
    rcases hz with h0 | ⟨b, off, rfl, hcell⟩
    · subst h0
      have hx0 : xs = [] := List.eq_nil_of_length_eq_zero hx
      subst hx0
      simp only [List.flatMap_nil, List.append_nil, List.length_nil, List.take_zero, List.nil_append, Nat.add_zero, List.drop_zero, Array.toArray_toList] at *
      rw [setRow_self w g cur _ _ hgg]
      cases a with
      | none => simp [Builtin.copy_, run_underlying Tryz.underlying28, Builtin.lenOf, Builtin.firstCells, sizeOf, typeInfo, hi, storeCells]
      | some a =>
        have hl := run_loadCells_list (P := Tryz.prog) w a [] (fun j v h => by simp at h)
        simp only [List.length_nil] at hl
        simp [Builtin.copy_, run_underlying Tryz.underlying28, Builtin.lenOf, Builtin.firstCells, sizeOf, typeInfo, hi, storeCells, hl]
    · have hl := run_loadCells_list (P := Tryz.prog) w ⟨b, off, none⟩ (xs.flatMap encM) hcell
      rw [hlen] at hl
      simp only [Nat.zero_add] at hst
      simp [Builtin.copy_, run_underlying Tryz.underlying28, Builtin.lenOf, Builtin.firstCells, sizeOf, typeInfo, hi, hz1, hl, hst, hx]
  · refine ⟨by rw [hlen], .inr ⟨g, cap, (cur.toList.take 0 ++ xs.flatMap encM ++ cur.toList.drop (0 + (xs.flatMap encM).length)).toArray, rfl, hg, ?_, hc, hm, ?_, ?_⟩⟩
    · exact _root_.Go.setRow_heap w g cur _ _ _ hgg
    · simp only [List.take_zero, List.nil_append, Nat.zero_add, List.size_toArray, List.length_append, List.length_drop, Array.length_toList]
      omega
    · simp only [List.take_zero, List.nil_append, Nat.zero_add]
      rw [List.take_append_of_le_length (by omega), List.take_of_length_le (by omega)]
end Go.Proofs.YtbmkgnlfccigpaaGreat

namespace Go.Proofs.YtbmkgnlfccigpaaGreat
set_option maxRecDepth 100000
open Go.ChangeShapes Go.WideShapes Go.ChangeAt Go.RowKit

/-- A state that is answered alone. -/
def StoP (w : World) (t : StS) (e : Ending) (w' : World) : Prop :=
  ∃ vv vm, e = .returned (.agg #[.int .i64 t.step, .int .i64 t.phase, .bool t.fresh, .bool t.done, vv, vm]) ∧ w'.ownsRow w.heap.size 56 2 vv t.vals.length (t.vals.flatMap encM) ∧ OwnLi w' w.heap.size vm t.mail ∧ Below w.heap.size w w'
/-- So many values are told, the others not yet. -/
def fstV (m i : Nat) : List Ml := List.replicate i (-1, -1) ++ List.replicate (m - i) (0, 0)
theorem fstV_len {m i : Nat} (h : i ≤ m) : (fstV m i).length = m := by simp [fstV]; omega
theorem fstV_zero (m : Nat) : fstV m 0 = List.replicate m (0, 0) := by simp [fstV]
theorem fstV_all (m : Nat) : fstV m m = List.replicate m (-1, -1) := by simp [fstV]
theorem fstV_set {m i : Nat} (h : i < m) : fstV m (i + 1) = (fstV m i).set i (-1, -1) := by
  unfold fstV
  rw [List.replicate_succ', List.append_assoc, show m - i = (m - (i + 1)) + 1 by omega, List.replicate_succ, List.set_append_right _ _ (by simp)]
  simp

set_option maxHeartbeats 2000000 in
set_option maxRecDepth 100000 in
theorem first_any (m : Nat) (w : World) (hm : m ≤ 200) :
    Calls Tryz.prog 22 #[.int .i64 m] w (StoP w (beginS m)) := by
  obtain ⟨bf, hbf⟩ : ∃ b, decide (0 < m) = b := ⟨_, rfl⟩
  obtain ⟨bd, hbd⟩ : ∃ b, decide (m = 0) = b := ⟨_, rfl⟩
  have td : ((m : Int) == 0) = bd := by
    rw [← hbd, Bool.eq_iff_iff]
    simp
  have HP : Hid (∀ (w' : World) vv vm, w'.ownsRow w.heap.size 56 2 vv m ((List.replicate m ((-1, -1) : Ml)).flatMap encM) → OwnLi w' w.heap.size vm (List.replicate m []) → Below w.heap.size w w' → StoP w (beginS m) (.returned (.agg #[.int .i64 0, .int .i64 0, .bool bf, .bool bd, vv, vm])) w') := fun w' vv vm h1 h2 h3 => by
    rw [← hbf, ← hbd]
    exact ⟨vv, vm, rfl, by simpa [beginS] using h1, h2, h3⟩
  generalize StoP w (beginS m) = P at *
  obtain ⟨W0, hW0⟩ : ∃ W0, W0 = (w.alloc (.cells #[.int .i64 0, .int .i64 0, .bool false, .bool false, .slice none 0 0, .slice none 0 0] 31)).alloc (.cells #[.int .i64 0, .int .i64 0, .bool bf, .bool bd, .slice none 0 0, .slice none 0 0] 31) := ⟨_, rfl⟩
  obtain ⟨Q0, T0, B0, s1, s2⟩ := boxes2 w #[.int .i64 0, .int .i64 0, .bool false, .bool false, .slice none 0 0, .slice none 0 0] #[.int .i64 0, .int .i64 0, .bool bf, .bool bd, .slice none 0 0, .slice none 0 0] 31 31 W0 hW0
  have BH : Hid (Below w.heap.size w W0) := B0
  have X0 : Hid (BX 31 W0 (w.heap.size + 1) #[.int .i64 0, .int .i64 0, .bool bf, .bool bd, .slice none 0 0, .slice none 0 0]) := T0
  have R0 : Hid (BX 31 W0 w.heap.size #[.int .i64 0, .int .i64 0, .bool false, .bool false, .slice none 0 0, .slice none 0 0]) := Q0
  clear Q0 T0 B0 hbd
  go_enter Tryz.func22, Tryz.ntmps22
  go_upto_region 2 with fail
  rw [← hW0]
  clear hW0
  apply Hid.cut
  case h =>
    intro HG
    refine region_lastF (S := fun _ => True) (by kernel_rfl) rfl (by kernel_rfl) (by kernel_rfl) ?_
    simp only [List.pop_toArray, List.dropLast_cons_cons, List.dropLast_singleton, List.size_toArray, List.length_cons, List.length_nil, Nat.reduceAdd]
    refine takeH (i := 0) (v := .int .i64 (m : Int)) (d := 10) rfl rfl (by kernel_rfl) (by kernel_rfl) (by kernel_rfl) (fun _ _ _ h => h) (by rfl) (fun V hV => by clear hV; go_simp) trivial ?_
    simp only [Act.put, List.setIfInBounds_toArray, List.set_cons_zero, List.set_cons_succ]
    refine takeH (i := 2) (v := .int .i64 (m : Int)) (d := 12) rfl rfl (by kernel_rfl) (by kernel_rfl) (by kernel_rfl) (fun _ _ _ h => h) (by rfl) (fun V hV => by clear hV; go_simp) trivial ?_
    simp only [Act.put, List.setIfInBounds_toArray, List.set_cons_zero, List.set_cons_succ]
    refine twoH (i := 1) (j := 3) rfl rfl (by kernel_rfl) rfl rfl ?wA ?wB
    case wA =>
      obtain ⟨X1, mk1, ov1, hb1⟩ := make_vals W0.drew m (by omega)
      have z1 : W0.drew.heap.size = W0.heap.size := rfl
      have k1 : Kept (fun k => k = (w.heap.size + 1)) W0 X1 := (Kept.refl _ W0).drew.trans (.of hb1)
      have x1 : BX 31 X1 (w.heap.size + 1) #[.int .i64 0, .int .i64 0, .bool bf, .bool bd, .slice none 0 0, .slice none 0 0] := X0.out.below ((Below.refl _ W0).drew.trans hb1) (by omega)
      refine op_run (d := 11) (v' := .slice (some ⟨W0.drew.heap.size, 0, none⟩) m m) (w' := X1) rfl (by go_simp) ⟨trivial, ?_⟩
      simp only [Act.put, List.setIfInBounds_toArray, List.set_cons_zero, List.set_cons_succ]
      refine takeH (i := 4) (v := .pointer (some ⟨(w.heap.size + 1), 4, none⟩)) (d := 14) rfl rfl (by kernel_rfl) (by kernel_rfl) (by kernel_rfl) (fun _ _ _ h => h) (by rfl) (fun V hV => by clear hV; go_simp) trivial ?_
      simp only [Act.put, List.setIfInBounds_toArray, List.set_cons_zero, List.set_cons_succ]
      refine twoH (i := 3) (j := 5) rfl rfl (by kernel_rfl) rfl rfl ?wA1 ?wA2
      case wA1 =>
        obtain ⟨X2, mk2, ot2, hb2⟩ := make_tbi X1 m (by omega)
        have k2 : Kept (fun k => k = (w.heap.size + 1)) W0 X2 := k1.trans (.of hb2)
        have x2 : BX 31 X2 (w.heap.size + 1) #[.int .i64 0, .int .i64 0, .bool bf, .bool bd, .slice none 0 0, .slice none 0 0] := x1.below hb2 x1.lt
        have v2 : X2.ownsRow W0.heap.size 56 2 (.slice (some ⟨W0.drew.heap.size, 0, none⟩) m m) m ((List.replicate m ((0, 0) : Ml)).flatMap encM) := own_below ov1 hb2 (Nat.le_refl _)
        refine op_run (d := 13) (v' := .slice (some ⟨X1.heap.size, 0, none⟩) m m) (w' := X2) rfl (by go_simp) ⟨trivial, ?_⟩
        simp only [Act.put, List.setIfInBounds_toArray, List.set_cons_zero, List.set_cons_succ]
        obtain ⟨⟨c0, c1, c2, c3, c4, c5⟩, e0, e1, e2, e3, e4, e5⟩ := x2.all6
        refine oneH (i := 5) rfl (by kernel_rfl) rfl (op_skip (w' := X2.setCell ⟨(w.heap.size + 1), 4, none⟩ (.slice (some ⟨W0.drew.heap.size, 0, none⟩) m m)) rfl (by go_simp) ⟨trivial, ?_⟩)
        clear c0 c1 c2 c3 c4 c5 e0 e1 e2 e3 e4 e5
        have x3 : BX 31 (X2.setCell ⟨(w.heap.size + 1), 4, none⟩ (.slice (some ⟨W0.drew.heap.size, 0, none⟩) m m)) (w.heap.size + 1) #[.int .i64 0, .int .i64 0, .bool bf, .bool bd, .slice (some ⟨W0.drew.heap.size, 0, none⟩) m m, .slice none 0 0] := x2.set 4 _
        have k3 : Kept (fun k => k = (w.heap.size + 1)) W0 (X2.setCell ⟨(w.heap.size + 1), 4, none⟩ (.slice (some ⟨W0.drew.heap.size, 0, none⟩) m m)) := k2.trans (Kept.box _ _ _ _)
        have v3 : (X2.setCell ⟨(w.heap.size + 1), 4, none⟩ (.slice (some ⟨W0.drew.heap.size, 0, none⟩) m m)).ownsRow W0.heap.size 56 2 (.slice (some ⟨W0.drew.heap.size, 0, none⟩) m m) m ((List.replicate m ((0, 0) : Ml)).flatMap encM) := own_off v2 x2 (by decide) (Kept.box _ _ _ _)
        have t3 : TbI (X2.setCell ⟨(w.heap.size + 1), 4, none⟩ (.slice (some ⟨W0.drew.heap.size, 0, none⟩) m m)) W0.heap.size X1.heap.size m (List.replicate m (.slice none 0 0)) (List.replicate m []) := (ot2.lower k1.size).off (Kept.box _ _ _ _) (fun k hk => by subst hk; exact ⟨_, _, _, x2, by decide, by decide⟩)
        generalize X2.setCell ⟨(w.heap.size + 1), 4, none⟩ (.slice (some ⟨W0.drew.heap.size, 0, none⟩) m m) = X3 at *
        refine takeH (i := 6) (v := .pointer (some ⟨(w.heap.size + 1), 5, none⟩)) (d := 15) rfl rfl (by kernel_rfl) (by kernel_rfl) (by kernel_rfl) (fun _ _ _ h => h) (by rfl) (fun V hV => by clear hV; go_simp) trivial ?_
        simp only [Act.put, List.setIfInBounds_toArray, List.set_cons_zero, List.set_cons_succ]
        refine wpAnyH_done (by kernel_rfl) ?_ _
        show Oper.wp _ _ _ _ _ _
        obtain ⟨⟨c0, c1, c2, c3, c4, c5⟩, e0, e1, e2, e3, e4, e5⟩ := x3.all6
        refine op_skip (w' := X3.setCell ⟨(w.heap.size + 1), 5, none⟩ (.slice (some ⟨X1.heap.size, 0, none⟩) m m)) rfl (by go_simp) ?_
        clear c0 c1 c2 c3 c4 c5 e0 e1 e2 e3 e4 e5
        have FX : Hid (BX 31 (X3.setCell ⟨(w.heap.size + 1), 5, none⟩ (.slice (some ⟨X1.heap.size, 0, none⟩) m m)) (w.heap.size + 1) #[.int .i64 0, .int .i64 0, .bool bf, .bool bd, .slice (some ⟨W0.drew.heap.size, 0, none⟩) m m, .slice (some ⟨X1.heap.size, 0, none⟩) m m]) := x3.set 5 _
        have FK : Hid (Kept (fun k => k = (w.heap.size + 1)) W0 (X3.setCell ⟨(w.heap.size + 1), 5, none⟩ (.slice (some ⟨X1.heap.size, 0, none⟩) m m))) := k3.trans (Kept.box _ _ _ _)
        have FV : Hid ((X3.setCell ⟨(w.heap.size + 1), 5, none⟩ (.slice (some ⟨X1.heap.size, 0, none⟩) m m)).ownsRow W0.heap.size 56 2 (.slice (some ⟨W0.drew.heap.size, 0, none⟩) m m) m ((List.replicate m ((0, 0) : Ml)).flatMap encM)) := own_off v3 x3 (by decide) (Kept.box _ _ _ _)
        have FT : Hid (TbI (X3.setCell ⟨(w.heap.size + 1), 5, none⟩ (.slice (some ⟨X1.heap.size, 0, none⟩) m m)) W0.heap.size X1.heap.size m (List.replicate m (.slice none 0 0)) (List.replicate m [])) := t3.off (Kept.box _ _ _ _) (fun k hk => by subst hk; exact ⟨_, _, _, x3, by decide, by decide⟩)
        clear x3 k3 v3 t3
        clear mk1 mk2 ov1 hb1 z1 k1 x1 ot2 hb2 k2 x2 v2
        generalize X3.setCell ⟨(w.heap.size + 1), 5, none⟩ (.slice (some ⟨X1.heap.size, 0, none⟩) m m) = XX at *
        generalize W0.drew.heap.size = g1 at *
        generalize X1.heap.size = g2 at *
        revert FT
        revert FV
        revert FK
        revert FX
        revert XX
        revert g2
        revert g1
        exact HG.out
      case wA2 =>
        obtain ⟨⟨c0, c1, c2, c3, c4, c5⟩, e0, e1, e2, e3, e4, e5⟩ := x1.all6
        refine op_skip (w' := X1.setCell ⟨(w.heap.size + 1), 4, none⟩ (.slice (some ⟨W0.drew.heap.size, 0, none⟩) m m)) rfl (by go_simp) ⟨trivial, ?_⟩
        clear c0 c1 c2 c3 c4 c5 e0 e1 e2 e3 e4 e5
        have x2 : BX 31 (X1.setCell ⟨(w.heap.size + 1), 4, none⟩ (.slice (some ⟨W0.drew.heap.size, 0, none⟩) m m)) (w.heap.size + 1) #[.int .i64 0, .int .i64 0, .bool bf, .bool bd, .slice (some ⟨W0.drew.heap.size, 0, none⟩) m m, .slice none 0 0] := x1.set 4 _
        have k2 : Kept (fun k => k = (w.heap.size + 1)) W0 (X1.setCell ⟨(w.heap.size + 1), 4, none⟩ (.slice (some ⟨W0.drew.heap.size, 0, none⟩) m m)) := k1.trans (Kept.box _ _ _ _)
        have v2 : (X1.setCell ⟨(w.heap.size + 1), 4, none⟩ (.slice (some ⟨W0.drew.heap.size, 0, none⟩) m m)).ownsRow W0.heap.size 56 2 (.slice (some ⟨W0.drew.heap.size, 0, none⟩) m m) m ((List.replicate m ((0, 0) : Ml)).flatMap encM) := own_off ov1 x1 (by decide) (Kept.box _ _ _ _)
        generalize X1.setCell ⟨(w.heap.size + 1), 4, none⟩ (.slice (some ⟨W0.drew.heap.size, 0, none⟩) m m) = X2 at *
        obtain ⟨X3, mk3, ot3, hb3⟩ := make_tbi X2 m (by omega)
        have x3 : BX 31 X3 (w.heap.size + 1) #[.int .i64 0, .int .i64 0, .bool bf, .bool bd, .slice (some ⟨W0.drew.heap.size, 0, none⟩) m m, .slice none 0 0] := x2.below hb3 x2.lt
        have k3 : Kept (fun k => k = (w.heap.size + 1)) W0 X3 := k2.trans (.of hb3)
        have v3 : X3.ownsRow W0.heap.size 56 2 (.slice (some ⟨W0.drew.heap.size, 0, none⟩) m m) m ((List.replicate m ((0, 0) : Ml)).flatMap encM) := own_below v2 hb3 (Nat.le_refl _)
        have t3 : TbI X3 W0.heap.size X2.heap.size m (List.replicate m (.slice none 0 0)) (List.replicate m []) := ot3.lower k2.size
        refine oneH (i := 3) rfl (by kernel_rfl) rfl (op_run (d := 13) (v' := .slice (some ⟨X2.heap.size, 0, none⟩) m m) (w' := X3) rfl (by go_simp) ⟨trivial, ?_⟩)
        simp only [Act.put, List.setIfInBounds_toArray, List.set_cons_zero, List.set_cons_succ]
        refine takeH (i := 6) (v := .pointer (some ⟨(w.heap.size + 1), 5, none⟩)) (d := 15) rfl rfl (by kernel_rfl) (by kernel_rfl) (by kernel_rfl) (fun _ _ _ h => h) (by rfl) (fun V hV => by clear hV; go_simp) trivial ?_
        simp only [Act.put, List.setIfInBounds_toArray, List.set_cons_zero, List.set_cons_succ]
        refine wpAnyH_done (by kernel_rfl) ?_ _
        show Oper.wp _ _ _ _ _ _
        obtain ⟨⟨c0, c1, c2, c3, c4, c5⟩, e0, e1, e2, e3, e4, e5⟩ := x3.all6
        refine op_skip (w' := X3.setCell ⟨(w.heap.size + 1), 5, none⟩ (.slice (some ⟨X2.heap.size, 0, none⟩) m m)) rfl (by go_simp) ?_
        clear c0 c1 c2 c3 c4 c5 e0 e1 e2 e3 e4 e5
        have FX : Hid (BX 31 (X3.setCell ⟨(w.heap.size + 1), 5, none⟩ (.slice (some ⟨X2.heap.size, 0, none⟩) m m)) (w.heap.size + 1) #[.int .i64 0, .int .i64 0, .bool bf, .bool bd, .slice (some ⟨W0.drew.heap.size, 0, none⟩) m m, .slice (some ⟨X2.heap.size, 0, none⟩) m m]) := x3.set 5 _
        have FK : Hid (Kept (fun k => k = (w.heap.size + 1)) W0 (X3.setCell ⟨(w.heap.size + 1), 5, none⟩ (.slice (some ⟨X2.heap.size, 0, none⟩) m m))) := k3.trans (Kept.box _ _ _ _)
        have FV : Hid ((X3.setCell ⟨(w.heap.size + 1), 5, none⟩ (.slice (some ⟨X2.heap.size, 0, none⟩) m m)).ownsRow W0.heap.size 56 2 (.slice (some ⟨W0.drew.heap.size, 0, none⟩) m m) m ((List.replicate m ((0, 0) : Ml)).flatMap encM)) := own_off v3 x3 (by decide) (Kept.box _ _ _ _)
        have FT : Hid (TbI (X3.setCell ⟨(w.heap.size + 1), 5, none⟩ (.slice (some ⟨X2.heap.size, 0, none⟩) m m)) W0.heap.size X2.heap.size m (List.replicate m (.slice none 0 0)) (List.replicate m [])) := t3.off (Kept.box _ _ _ _) (fun k hk => by subst hk; exact ⟨_, _, _, x3, by decide, by decide⟩)
        exact HG.out _ _ _ FX FK FV FT
    case wB =>
      obtain ⟨X1, mk1, ot1, hb1⟩ := make_tbi W0.drew m (by omega)
      have z1 : W0.drew.heap.size = W0.heap.size := rfl
      have k1 : Kept (fun k => k = (w.heap.size + 1)) W0 X1 := (Kept.refl _ W0).drew.trans (.of hb1)
      have x1 : BX 31 X1 (w.heap.size + 1) #[.int .i64 0, .int .i64 0, .bool bf, .bool bd, .slice none 0 0, .slice none 0 0] := X0.out.below ((Below.refl _ W0).drew.trans hb1) (by omega)
      refine op_run (d := 13) (v' := .slice (some ⟨W0.drew.heap.size, 0, none⟩) m m) (w' := X1) rfl (by go_simp) ⟨trivial, ?_⟩
      simp only [Act.put, List.setIfInBounds_toArray, List.set_cons_zero, List.set_cons_succ]
      obtain ⟨X2, mk2, ov2, hb2⟩ := make_vals X1 m (by omega)
      have k2 : Kept (fun k => k = (w.heap.size + 1)) W0 X2 := k1.trans (.of hb2)
      have x2 : BX 31 X2 (w.heap.size + 1) #[.int .i64 0, .int .i64 0, .bool bf, .bool bd, .slice none 0 0, .slice none 0 0] := x1.below hb2 x1.lt
      have t2 : TbI X2 W0.heap.size W0.drew.heap.size m (List.replicate m (.slice none 0 0)) (List.replicate m []) := ot1.kept (.of hb2)
      refine oneH (i := 1) rfl (by kernel_rfl) rfl (op_run (d := 11) (v' := .slice (some ⟨X1.heap.size, 0, none⟩) m m) (w' := X2) rfl (by go_simp) ⟨trivial, ?_⟩)
      simp only [Act.put, List.setIfInBounds_toArray, List.set_cons_zero, List.set_cons_succ]
      refine takeH (i := 4) (v := .pointer (some ⟨(w.heap.size + 1), 4, none⟩)) (d := 14) rfl rfl (by kernel_rfl) (by kernel_rfl) (by kernel_rfl) (fun _ _ _ h => h) (by rfl) (fun V hV => by clear hV; go_simp) trivial ?_
      simp only [Act.put, List.setIfInBounds_toArray, List.set_cons_zero, List.set_cons_succ]
      obtain ⟨⟨c0, c1, c2, c3, c4, c5⟩, e0, e1, e2, e3, e4, e5⟩ := x2.all6
      refine oneH (i := 5) rfl (by kernel_rfl) rfl (op_skip (w' := X2.setCell ⟨(w.heap.size + 1), 4, none⟩ (.slice (some ⟨X1.heap.size, 0, none⟩) m m)) rfl (by go_simp) ⟨trivial, ?_⟩)
      clear c0 c1 c2 c3 c4 c5 e0 e1 e2 e3 e4 e5
      have x3 : BX 31 (X2.setCell ⟨(w.heap.size + 1), 4, none⟩ (.slice (some ⟨X1.heap.size, 0, none⟩) m m)) (w.heap.size + 1) #[.int .i64 0, .int .i64 0, .bool bf, .bool bd, .slice (some ⟨X1.heap.size, 0, none⟩) m m, .slice none 0 0] := x2.set 4 _
      have k3 : Kept (fun k => k = (w.heap.size + 1)) W0 (X2.setCell ⟨(w.heap.size + 1), 4, none⟩ (.slice (some ⟨X1.heap.size, 0, none⟩) m m)) := k2.trans (Kept.box _ _ _ _)
      have v3 : (X2.setCell ⟨(w.heap.size + 1), 4, none⟩ (.slice (some ⟨X1.heap.size, 0, none⟩) m m)).ownsRow W0.heap.size 56 2 (.slice (some ⟨X1.heap.size, 0, none⟩) m m) m ((List.replicate m ((0, 0) : Ml)).flatMap encM) := own_off (own_lower ov2 k1.size) x2 (by decide) (Kept.box _ _ _ _)
      have t3 : TbI (X2.setCell ⟨(w.heap.size + 1), 4, none⟩ (.slice (some ⟨X1.heap.size, 0, none⟩) m m)) W0.heap.size W0.drew.heap.size m (List.replicate m (.slice none 0 0)) (List.replicate m []) := t2.off (Kept.box _ _ _ _) (fun k hk => by subst hk; exact ⟨_, _, _, x2, by decide, by decide⟩)
      generalize X2.setCell ⟨(w.heap.size + 1), 4, none⟩ (.slice (some ⟨X1.heap.size, 0, none⟩) m m) = X3 at *
      refine takeH (i := 6) (v := .pointer (some ⟨(w.heap.size + 1), 5, none⟩)) (d := 15) rfl rfl (by kernel_rfl) (by kernel_rfl) (by kernel_rfl) (fun _ _ _ h => h) (by rfl) (fun V hV => by clear hV; go_simp) trivial ?_
      simp only [Act.put, List.setIfInBounds_toArray, List.set_cons_zero, List.set_cons_succ]
      refine wpAnyH_done (by kernel_rfl) ?_ _
      show Oper.wp _ _ _ _ _ _
      obtain ⟨⟨c0, c1, c2, c3, c4, c5⟩, e0, e1, e2, e3, e4, e5⟩ := x3.all6
      refine op_skip (w' := X3.setCell ⟨(w.heap.size + 1), 5, none⟩ (.slice (some ⟨W0.drew.heap.size, 0, none⟩) m m)) rfl (by go_simp) ?_
      clear c0 c1 c2 c3 c4 c5 e0 e1 e2 e3 e4 e5
      have FX : Hid (BX 31 (X3.setCell ⟨(w.heap.size + 1), 5, none⟩ (.slice (some ⟨W0.drew.heap.size, 0, none⟩) m m)) (w.heap.size + 1) #[.int .i64 0, .int .i64 0, .bool bf, .bool bd, .slice (some ⟨X1.heap.size, 0, none⟩) m m, .slice (some ⟨W0.drew.heap.size, 0, none⟩) m m]) := x3.set 5 _
      have FK : Hid (Kept (fun k => k = (w.heap.size + 1)) W0 (X3.setCell ⟨(w.heap.size + 1), 5, none⟩ (.slice (some ⟨W0.drew.heap.size, 0, none⟩) m m))) := k3.trans (Kept.box _ _ _ _)
      have FV : Hid ((X3.setCell ⟨(w.heap.size + 1), 5, none⟩ (.slice (some ⟨W0.drew.heap.size, 0, none⟩) m m)).ownsRow W0.heap.size 56 2 (.slice (some ⟨X1.heap.size, 0, none⟩) m m) m ((List.replicate m ((0, 0) : Ml)).flatMap encM)) := own_off v3 x3 (by decide) (Kept.box _ _ _ _)
      have FT : Hid (TbI (X3.setCell ⟨(w.heap.size + 1), 5, none⟩ (.slice (some ⟨W0.drew.heap.size, 0, none⟩) m m)) W0.heap.size W0.drew.heap.size m (List.replicate m (.slice none 0 0)) (List.replicate m [])) := t3.off (Kept.box _ _ _ _) (fun k hk => by subst hk; exact ⟨_, _, _, x3, by decide, by decide⟩)
      exact HG.out _ _ _ FX FK FV FT
  case g =>
    intro g1 g2 X FX FK FV FT
    have hx := FX.out
    obtain ⟨⟨c0, c1, c2, c3, c4, c5⟩, e0, e1, e2, e3, e4, e5⟩ := hx.all6
    have hbt : Hid (Below w.heap.size w X) := BH.out.trans (FK.out.below (by omega) (fun k hk => by omega))
    have hg1 := FV.out.lt g1 rfl
    have FV0 : Hid (X.ownsRow W0.heap.size 56 2 (.slice (some ⟨g1, 0, none⟩) m m) m ((fstV m 0).flatMap encM)) := by
      show World.ownsRow _ _ _ _ _ _ _
      rw [fstV_zero]; exact FV.out
    clear FV hx
    go_wp2_with fail
    clear c0 c1 c2 c3 c4 c5 e0 e1 e2 e3 e4 e5
    go_loopw [19] (fun i wr => ∃ j : Nat, j ≤ m ∧ i = .int .i64 j ∧ Kept (fun k => k = w.heap.size + 1 ∨ k = g1) W0 wr ∧ BX 31 wr (w.heap.size + 1) #[.int .i64 0, .int .i64 0, .bool bf, .bool bd, .slice (some ⟨g1, 0, none⟩) m m, .slice (some ⟨g2, 0, none⟩) m m] ∧ wr.ownsRow W0.heap.size 56 2 (.slice (some ⟨g1, 0, none⟩) m m) m ((fstV m j).flatMap encM) ∧ TbI wr W0.heap.size g2 m (List.replicate m (.slice none 0 0)) (List.replicate m [])) (fun i _ => m - (intOf i).toNat)
    case atStart => exact ⟨0, by omega, rfl, FK.out.mono (fun k hk => .inl hk), FX.out, FV0.out, FT.out⟩
    case round =>
      obtain ⟨j, hj, rfl, hk, hx, hv, ht⟩ := hrel
      have KB : Hid (Kept (fun k => k = w.heap.size + 1 ∨ k = g1) W0 wr) := hk
      have XB : Hid (BX 31 wr (w.heap.size + 1) #[.int .i64 0, .int .i64 0, .bool bf, .bool bd, .slice (some ⟨g1, 0, none⟩) m m, .slice (some ⟨g2, 0, none⟩) m m]) := hx
      have VB : Hid (wr.ownsRow W0.heap.size 56 2 (.slice (some ⟨g1, 0, none⟩) m m) m ((fstV m j).flatMap encM)) := hv
      have TB : Hid (TbI wr W0.heap.size g2 m (List.replicate m (.slice none 0 0)) (List.replicate m [])) := ht
      obtain ⟨⟨c0, c1, c2, c3, c4, c5⟩, _⟩ := hx.all6
      clear hk hx hv ht
      by_cases hlt : j < m
      · have p0 : (0 : Int) ≤ (j : Int) := by omega
        have p1 : (j : Int) < (m : Int) := by omega
        obtain ⟨cur, hcur⟩ : ∃ cur, wr.heap[g1]? = some (.cells cur 56 (0, 0)) := by
          rcases VB.out.2 with ⟨hv, _⟩ | ⟨g3, c3, cur, hv, _, hgg, _⟩
          · cases hv
          · injection hv with hv
            injection hv with hv
            injection hv with hv
            subst hv
            exact ⟨cur, hgg⟩
        obtain ⟨x, hx⟩ := getX (show j < (fstV m j).length by rw [fstV_len hj]; exact hlt)
        obtain ⟨d0, d1⟩ := own_atV VB.out hx
        have f0 := frozenK VB.out (j * 2)
        have f1 := frozenK VB.out (j * 2 + 1)
        have VN : Hid ((putV wr g1 (j * 2) (-1, -1)).ownsRow W0.heap.size 56 2 (.slice (some ⟨g1, 0, none⟩) m m) m ((fstV m (j + 1)).flatMap encM)) := by
          show World.ownsRow _ _ _ _ _ _ _
          rw [fstV_set hlt]; exact own_putV VB.out (by rw [fstV_len hj]; exact hlt) _
        have KN : Hid (Kept (fun k => k = w.heap.size + 1 ∨ k = g1) W0 (putV wr g1 (j * 2) (-1, -1))) := KB.out.trans ((kept_putV wr g1 (j * 2) (-1, -1)).mono fun k hk => .inr hk)
        have XN : Hid (BX 31 (putV wr g1 (j * 2) (-1, -1)) (w.heap.size + 1) #[.int .i64 0, .int .i64 0, .bool bf, .bool bd, .slice (some ⟨g1, 0, none⟩) m m, .slice (some ⟨g2, 0, none⟩) m m]) := XB.out.kept (kept_putV wr g1 (j * 2) (-1, -1)) (by omega)
        have TN : Hid (TbI (putV wr g1 (j * 2) (-1, -1)) W0.heap.size g2 m (List.replicate m (.slice none 0 0)) (List.replicate m [])) := TB.out.off (kept_putV wr g1 (j * 2) (-1, -1)) (fun k hk => by subst hk; exact ⟨_, _, _, hcur, by decide, by decide⟩)
        clear hx hcur cur
        unfold putV at VN KN XN TN
        go_wp2_with fail
        go_roundw
        case rel => exact ⟨j + 1, by omega, by go_num, KN.out, XN.out, VN.out, TN.out⟩
        case measure => simp [intOf]; omega
      · have ej : j = m := by omega
        have VE : Hid (wr.ownsRow W0.heap.size 56 2 (.slice (some ⟨g1, 0, none⟩) m m) m ((List.replicate m ((-1, -1) : Ml)).flatMap encM)) := by
          have := VB.out
          rw [ej, fstV_all] at this
          exact this
        have Z0 : BX 31 wr w.heap.size #[.int .i64 0, .int .i64 0, .bool false, .bool false, .slice none 0 0, .slice none 0 0] := R0.out.kept KB.out (by omega)
        have RX : Hid (BX 31 (put6 wr w.heap.size (.int .i64 0) (.int .i64 0) (.bool bf) (.bool bd) (.slice (some ⟨g1, 0, none⟩) m m) (.slice (some ⟨g2, 0, none⟩) m m)) w.heap.size #[.int .i64 0, .int .i64 0, .bool bf, .bool bd, .slice (some ⟨g1, 0, none⟩) m m, .slice (some ⟨g2, 0, none⟩) m m]) := Z0.put6
        have HE : Hid (P (.returned (.agg #[.int .i64 0, .int .i64 0, .bool bf, .bool bd, .slice (some ⟨g1, 0, none⟩) m m, .slice (some ⟨g2, 0, none⟩) m m])) (put6 wr w.heap.size (.int .i64 0) (.int .i64 0) (.bool bf) (.bool bd) (.slice (some ⟨g1, 0, none⟩) m m) (.slice (some ⟨g2, 0, none⟩) m m))) := by
          refine HP.out _ _ _ ?_ ?_ ?_
          · exact own_lower (own_off VE.out Z0 (by decide) (kept_put6 wr w.heap.size _ _ _ _ _ _)) (by omega)
          · exact (TB.out.own.off Z0 (by decide) (by decide) (kept_put6 wr w.heap.size _ _ _ _ _ _)).lower (by omega)
          · exact below_put6 (BH.out.trans (KB.out.below (by omega) (fun k hk => by omega))) (Nat.le_refl _) Z0.lt _ _ _ _ _ _
        obtain ⟨⟨d0, d1, d2, d3, d4, d5⟩, e0, e1, e2, e3, e4, e5⟩ := Z0.all6
        clear Z0 ej
        go_wp2_with fail
        obtain ⟨⟨r0, r1, r2, r3, r4, r5⟩, _⟩ := RX.out.all6
        unfold put6 at r0 r1 r2 r3 r4 r5
        exact bodyPost_ret (v := .agg #[.int .i64 0, .int .i64 0, .bool bf, .bool bd, .slice (some ⟨g1, 0, none⟩) m m, .slice (some ⟨g2, 0, none⟩) m m]) (by simp [results, Tryz.results22, go_sem, r0, r1, r2, r3, r4, r5]) rfl HE.out
end Go.Proofs.YtbmkgnlfccigpaaGreat

namespace Go.Proofs.YtbmkgnlfccigpaaGreat
set_option maxRecDepth 100000
open Go.ChangeShapes Go.WideShapes Go.ChangeAt Go.RowKit

set_option maxHeartbeats 2000000 in
set_option maxRecDepth 100000 in
theorem again_any (step phase : Int) (vs : List Ml) (vv vm : Value) (w : World) (hvm : ∃ a b c, vm = .slice a b c) (hv : MlR w vv vs) (hl : vs.length ≤ 200) :
    Calls Tryz.prog 23 #[.agg #[.int .i64 step, .int .i64 phase, .bool false, .bool true, vv, vm]] w (StoP w ⟨step, phase, false, true, vs, List.replicate vs.length []⟩) := by
  obtain ⟨ga, gb, gc, rfl⟩ := hvm
  generalize hvmx : Value.slice ga gb gc = vm
  have hone : vm.oneCell' = true := by rw [← hvmx]; rfl
  have HV : Hid (MlR w vv vs) := hv
  obtain ⟨va, vc, rfl, hvc, hvm, _, _⟩ := hv
  unfold maxLen at hvm
  have HP : Hid (∀ (w' : World) u1 u2, w'.ownsRow w.heap.size 56 2 u1 vs.length (vs.flatMap encM) → OwnLi w' w.heap.size u2 (List.replicate vs.length []) → Below w.heap.size w w' → StoP w ⟨step, phase, false, true, vs, List.replicate vs.length []⟩ (.returned (.agg #[.int .i64 step, .int .i64 phase, .bool false, .bool true, u1, u2])) w') := fun w' u1 u2 h1 h2 h3 => ⟨u1, u2, rfl, h1, h2, h3⟩
  generalize StoP w ⟨step, phase, false, true, vs, List.replicate vs.length []⟩ = P at *
  obtain ⟨W0, hW0⟩ : ∃ W0, W0 = (w.alloc (.cells #[.int .i64 step, .int .i64 phase, .bool false, .bool true, .slice va vs.length vc, vm] 31)).alloc (.cells #[.int .i64 0, .int .i64 0, .bool false, .bool false, .slice none 0 0, .slice none 0 0] 31) := ⟨_, rfl⟩
  obtain ⟨Q0, T0, B0, s1, s2⟩ := boxes2 w #[.int .i64 step, .int .i64 phase, .bool false, .bool true, .slice va vs.length vc, vm] #[.int .i64 0, .int .i64 0, .bool false, .bool false, .slice none 0 0, .slice none 0 0] 31 31 W0 hW0
  have BH : Hid (Below w.heap.size w W0) := B0
  have Z0 : Hid (BX 31 W0 (w.heap.size + 1) #[.int .i64 0, .int .i64 0, .bool false, .bool false, .slice none 0 0, .slice none 0 0]) := T0
  have X0 : Hid (BX 31 W0 w.heap.size #[.int .i64 step, .int .i64 phase, .bool false, .bool true, .slice va vs.length vc, vm]) := Q0
  obtain ⟨⟨c0, c1, c2, c3, c4, c5⟩, _⟩ := Q0.all6
  obtain ⟨w1, mk, ov, hb1⟩ := make_vals W0 vs.length (by omega)
  have x1 : BX 31 w1 w.heap.size #[.int .i64 step, .int .i64 phase, .bool false, .bool true, .slice va vs.length vc, vm] := Q0.below hb1 (by omega)
  have hr1 : MlR w1 (.slice va vs.length vc) vs := HV.out.below (B0.trans (hb1.mono (by omega))) (Nat.le_refl _)
  obtain ⟨w2, hcp, ov2, kp2⟩ := copy_vals 3 ov hr1 rfl
  obtain ⟨g1, hg1⟩ : ∃ g1, W0.heap.size = g1 := ⟨_, rfl⟩
  have hgl : w.heap.size + 2 ≤ g1 := by omega
  have K2 : Hid (Kept (fun k => k = g1) W0 w2) := (Kept.of hb1).trans (kp2.mono fun k hk => hk.trans hg1)
  have V2 : Hid (w2.ownsRow W0.heap.size 56 2 (.slice (some ⟨g1, 0, none⟩) vs.length vs.length) vs.length (vs.flatMap encM)) := by
    have := ov2
    rw [hg1] at this ⊢
    exact this
  have KEEP : Hid (∀ V, Kept (fun k => k = g1) W0 V → (V.cell? ⟨w.heap.size, 0, none⟩ = some (.int .i64 step) ∧ V.cell? ⟨w.heap.size, 1, none⟩ = some (.int .i64 phase))) := fun V hV => by
    obtain ⟨⟨c0, c1, c2, c3, c4, c5⟩, _⟩ := (X0.out.kept hV (by omega)).all6
    exact ⟨c0, c1⟩
  obtain ⟨⟨d0, d1, d2, d3, d4, d5⟩, _⟩ := x1.all6
  clear Q0 T0 B0 ov hb1 x1 hr1 ov2 kp2
  rw [hg1] at mk hcp
  go_enter Tryz.func23, Tryz.ntmps23
  go_upto_region 1 with fail
  rw [← hW0]
  clear hW0
  go_upto_region 2 with fail
  go_upto_region 3 with (at_builtin; refine Lib.wpList_copy_run _ rfl _ _ 28 28 rfl _ _ rfl rfl hcp ?_)
  clear c0 c1 c2 c3 c4 c5 d0 d1 d2 d3 d4 d5 mk hcp
  have HS0 : Hid (w2.drew.cell? ⟨w.heap.size, 0, none⟩ = some (.int .i64 step) ∧ w2.drew.cell? ⟨w.heap.size, 1, none⟩ = some (.int .i64 phase)) := KEEP.out w2.drew (K2.out.trans (Kept.refl _ w2).drew)
  refine region_lastF (S := fun V => (V.cell? ⟨w.heap.size, 0, none⟩ = some (.int .i64 step) ∧ V.cell? ⟨w.heap.size, 1, none⟩ = some (.int .i64 phase))) (by kernel_rfl) rfl (by kernel_rfl) (by kernel_rfl) ?_
  simp only [List.pop_toArray, List.dropLast_cons_cons, List.dropLast_singleton, List.size_toArray, List.length_cons, List.length_nil, Nat.reduceAdd]
  refine takeH (i := 0) (v := .pointer (some ⟨w.heap.size, 0, none⟩)) (d := 12) rfl rfl (by kernel_rfl) (by kernel_rfl) (by kernel_rfl) (fun _ _ _ h => h) (by rfl) (fun V hV => by obtain ⟨v1, v2⟩ := hV; go_simp) HS0.out ?_
  simp only [Act.put, List.setIfInBounds_toArray, List.set_cons_zero, List.set_cons_succ]
  refine takeH (i := 1) (v := .int .i64 step) (d := 13) rfl rfl (by kernel_rfl) (by kernel_rfl) (by kernel_rfl) (fun _ _ _ h => h) (by rfl) (fun V hV => by obtain ⟨v1, v2⟩ := hV; go_simp) HS0.out ?_
  simp only [Act.put, List.setIfInBounds_toArray, List.set_cons_zero, List.set_cons_succ]
  refine takeH (i := 2) (v := .pointer (some ⟨w.heap.size, 1, none⟩)) (d := 14) rfl rfl (by kernel_rfl) (by kernel_rfl) (by kernel_rfl) (fun _ _ _ h => h) (by rfl) (fun V hV => by obtain ⟨v1, v2⟩ := hV; go_simp) HS0.out ?_
  simp only [Act.put, List.setIfInBounds_toArray, List.set_cons_zero, List.set_cons_succ]
  refine takeH (i := 3) (v := .int .i64 phase) (d := 15) rfl rfl (by kernel_rfl) (by kernel_rfl) (by kernel_rfl) (fun _ _ _ h => h) (by rfl) (fun V hV => by obtain ⟨v1, v2⟩ := hV; go_simp) HS0.out ?_
  simp only [Act.put, List.setIfInBounds_toArray, List.set_cons_zero, List.set_cons_succ]
  refine takeH (i := 4) (v := .slice (some ⟨g1, 0, none⟩) vs.length vs.length) (d := 16) rfl rfl (by kernel_rfl) (by kernel_rfl) (by kernel_rfl) (fun _ _ _ h => h) (by rfl) (fun V hV => by obtain ⟨v1, v2⟩ := hV; go_simp) HS0.out ?_
  simp only [Act.put, List.setIfInBounds_toArray, List.set_cons_zero, List.set_cons_succ]
  refine takeH (i := 5) (v := .slice (some ⟨g1, 0, none⟩) vs.length vs.length) (d := 17) rfl rfl (by kernel_rfl) (by kernel_rfl) (by kernel_rfl) (fun _ _ _ h => h) (by rfl) (fun V hV => by obtain ⟨v1, v2⟩ := hV; go_simp) HS0.out ?_
  simp only [Act.put, List.setIfInBounds_toArray, List.set_cons_zero, List.set_cons_succ]
  refine takeH (i := 6) (v := .int .i64 (vs.length : Int)) (d := 18) rfl rfl (by kernel_rfl) (by kernel_rfl) (by kernel_rfl) (fun _ _ _ h => h) (by rfl) (fun V hV => by obtain ⟨v1, v2⟩ := hV; go_simp) HS0.out ?_
  simp only [Act.put, List.setIfInBounds_toArray, List.set_cons_zero, List.set_cons_succ]
  obtain ⟨X1, mk1, ot1, hb1⟩ := make_tbi w2.drew vs.length (by omega)
  have k1 : Kept (fun k => k = g1) W0 X1 := K2.out.trans ((Kept.refl _ w2).drew.trans (.of hb1))
  have HS1 : Hid (X1.cell? ⟨w.heap.size, 0, none⟩ = some (.int .i64 step) ∧ X1.cell? ⟨w.heap.size, 1, none⟩ = some (.int .i64 phase)) := KEEP.out X1 k1
  refine oneH (i := 7) rfl (by kernel_rfl) rfl (op_run (d := 19) (v' := .slice (some ⟨w2.drew.heap.size, 0, none⟩) vs.length vs.length) (w' := X1) rfl (by go_simp) ⟨HS1.out, ?_⟩)
  simp only [Act.put, List.setIfInBounds_toArray, List.set_cons_zero, List.set_cons_succ]
  refine takeH (i := 8) (v := .agg #[.int .i64 step, .int .i64 phase, .bool false, .bool true, .slice (some ⟨g1, 0, none⟩) vs.length vs.length, .slice (some ⟨w2.drew.heap.size, 0, none⟩) vs.length vs.length]) (d := 20) rfl rfl (by kernel_rfl) (by kernel_rfl) (by kernel_rfl) (fun _ _ _ h => h) (by rfl) (fun V hV => by obtain ⟨v1, v2⟩ := hV; go_simp) HS1.out ?_
  simp only [Act.put, List.setIfInBounds_toArray, List.set_cons_zero, List.set_cons_succ]
  refine wpAnyH_done (by kernel_rfl) ?_ _
  show Oper.wp _ _ _ _ _ _
  have z1 : BX 31 X1 (w.heap.size + 1) #[.int .i64 0, .int .i64 0, .bool false, .bool false, .slice none 0 0, .slice none 0 0] := Z0.out.kept k1 (by omega)
  have o1 : X1.ownsRow W0.heap.size 56 2 (.slice (some ⟨g1, 0, none⟩) vs.length vs.length) vs.length (vs.flatMap encM) := own_below V2.out ((Below.refl _ w2).drew.trans hb1) (Nat.le_refl _)
  obtain ⟨⟨d0, d1, d2, d3, d4, d5⟩, e0, e1, e2, e3, e4, e5⟩ := z1.all6
  refine op_skip (w' := put6 X1 (w.heap.size + 1) (.int .i64 step) (.int .i64 phase) (.bool false) (.bool true) (.slice (some ⟨g1, 0, none⟩) vs.length vs.length) (.slice (some ⟨w2.drew.heap.size, 0, none⟩) vs.length vs.length)) rfl (by unfold put6; go_simp) ?_
  have RX : Hid (BX 31 (put6 X1 (w.heap.size + 1) (.int .i64 step) (.int .i64 phase) (.bool false) (.bool true) (.slice (some ⟨g1, 0, none⟩) vs.length vs.length) (.slice (some ⟨w2.drew.heap.size, 0, none⟩) vs.length vs.length)) (w.heap.size + 1) #[.int .i64 step, .int .i64 phase, .bool false, .bool true, .slice (some ⟨g1, 0, none⟩) vs.length vs.length, .slice (some ⟨w2.drew.heap.size, 0, none⟩) vs.length vs.length]) := z1.put6
  have HE : Hid (P (.returned (.agg #[.int .i64 step, .int .i64 phase, .bool false, .bool true, .slice (some ⟨g1, 0, none⟩) vs.length vs.length, .slice (some ⟨w2.drew.heap.size, 0, none⟩) vs.length vs.length])) (put6 X1 (w.heap.size + 1) (.int .i64 step) (.int .i64 phase) (.bool false) (.bool true) (.slice (some ⟨g1, 0, none⟩) vs.length vs.length) (.slice (some ⟨w2.drew.heap.size, 0, none⟩) vs.length vs.length))) := by
    refine HP.out _ _ _ ?_ ?_ ?_
    · exact own_lower (own_off o1 z1 (by decide) (kept_put6 X1 (w.heap.size + 1) _ _ _ _ _ _)) (by omega)
    · have hz : w2.drew.heap.size = w2.heap.size := rfl
      have hz2 := K2.out.size
      exact (ot1.own.off z1 (by decide) (by decide) (kept_put6 X1 (w.heap.size + 1) _ _ _ _ _ _)).lower (by omega)
    · exact below_put6 (BH.out.trans (k1.below (by omega) (fun k hk => by omega))) (by omega) z1.lt _ _ _ _ _ _
  clear d0 d1 d2 d3 d4 d5 e0 e1 e2 e3 e4 e5 z1 o1 k1 HS1 ot1 hb1 mk1
  generalize put6 X1 (w.heap.size + 1) (.int .i64 step) (.int .i64 phase) (.bool false) (.bool true) (.slice (some ⟨g1, 0, none⟩) vs.length vs.length) (.slice (some ⟨w2.drew.heap.size, 0, none⟩) vs.length vs.length) = X at *
  go_wp2_with fail
  obtain ⟨⟨r0, r1, r2, r3, r4, r5⟩, _⟩ := RX.out.all6
  exact bodyPost_ret (v := .agg #[.int .i64 step, .int .i64 phase, .bool false, .bool true, .slice (some ⟨g1, 0, none⟩) vs.length vs.length, .slice (some ⟨w2.drew.heap.size, 0, none⟩) vs.length vs.length]) (by simp [results, Tryz.results23, go_sem, r0, r1, r2, r3, r4, r5]) rfl HE.out
end Go.Proofs.YtbmkgnlfccigpaaGreat

namespace Go.Proofs.YtbmkgnlfccigpaaGreat
set_option maxRecDepth 100000
open Go.ChangeShapes Go.WideShapes Go.ChangeAt Go.RowKit

/-- No mail: lists of nothing. -/
theorem mail_none {ms : List (List Int)} (h : ¬ 0 < manyL ms) : ms = List.replicate ms.length [] := by
  refine List.ext_getElem? fun i => ?_
  rcases Nat.lt_or_ge i ms.length with hi | hi
  · rw [List.getElem?_eq_getElem hi, List.getElem?_replicate, if_pos hi]
    congr 1
    exact manyL_zero.1 (by omega) _ (List.getElem_mem hi)
  · rw [List.getElem?_eq_none hi, List.getElem?_eq_none (by simpa using hi)]
theorem job_of {k p : Int} {j : Jb} (h : jobF k p = some j) : k = Jb.k j ∧ p = Jb.p j := by
  rcases jobF_cases k p with hn | ⟨j', h1, h2⟩
  · rw [hn.1] at h; cases h
  · have h3 := jobF_of j'
    rw [← h1, ← h2, h] at h3
    injection h3 with h3
    subst h3
    exact ⟨h1, h2⟩

set_option maxHeartbeats 4000000 in
set_option maxRecDepth 100000 in
theorem after_any (v : Value) (es : List Ed) (n k s : Int) (T : StS) (vv vm : Value) (w : World) (h : EdR w v es) (hv : MlR w vv T.vals) (hm : LiR w vm T.mail) (hje : jobE n es k s = 0) (hmay : mayR n.toNat k T = true) :
    Calls Tryz.prog 15 #[.agg #[.int .i64 n, v, .int .i64 k, .int .i64 s], .agg #[.int .i64 T.step, .int .i64 T.phase, .bool T.fresh, .bool T.done, vv, vm]] w (StaP w (folE n es k s T)) := by
  have HR : Hid (EdR w v es) := h
  obtain ⟨a, cap, rfl, _, _, _, _⟩ := h
  have HV : Hid (MlR w vv T.vals) := hv
  have HM : Hid (LiR w vm T.mail) := hm
  obtain ⟨va, vc, rfl, hvc, hvm, _, _⟩ := hv
  obtain ⟨ma, mc, rfl, hmc, hmm, _⟩ := hm
  obtain ⟨hf, hk3, _⟩ := jobE_zero hje
  obtain ⟨hn0, hn1, hel, hed⟩ := fault_ok hf
  obtain ⟨m, rfl⟩ : ∃ m : Nat, n = m := ⟨n.toNat, by omega⟩
  rw [Int.toNat_natCast] at hmay
  obtain ⟨j, hj, hI⟩ := mayR_iff.1 hmay
  obtain ⟨hkj, hpj⟩ := job_of hj
  have HG : InG m es := fun e he => by have := in_of_out (hed e he); exact ⟨this.1, this.2.1, this.2.2.1, this.2.2.2.1, this.2.2.2.2.1⟩
  have HDN : Hid (T.done = true → folE m es k s T = (0, T) ∧ T.fresh = false ∧ T.mail = List.replicate T.vals.length []) := fun hd => by
    refine ⟨folE_done hje (by rw [Int.toNat_natCast]; exact hmay) hd, ?_, ?_⟩
    · cases hfr : T.fresh
      · rfl
      · exact absurd ⟨hfr, hd⟩ hI.fd
    · have h0 : ¬ 0 < manyL T.mail := fun g => by have := (hI.no g).2; rw [hd] at this; cases this
      have := mail_none h0
      rw [hI.lm] at this
      rw [hI.lv]
      exact this
  have HFU : Hid (T.done = false → 100000 ≤ T.step → folE m es k s T = (10, st0)) := fun h1 h2 => folE_full hje (by rw [Int.toNat_natCast]; exact hmay) h1 h2
  have HOV : Hid (T.done = false → ¬ 100000 ≤ T.step → overR j (rndV j s T) es = true → folE m es k s T = (6, st0)) := fun h1 h2 h3 => folE_over hje (by rw [Int.toNat_natCast]; exact hmay) h1 h2 hj h3
  have HGO : Hid (T.done = false → ¬ 100000 ≤ T.step → overR j (rndV j s T) es = false → folE m es k s T = (0, nextS m es j s T)) := fun h1 h2 h3 => by
    have := folE_go hje (by rw [Int.toNat_natCast]; exact hmay) h1 h2 hj h3
    rw [Int.toNat_natCast] at this
    exact this
  have CWK : Hid (∀ X, MlR X (.slice va T.vals.length vc) T.vals → LiR X (.slice ma T.mail.length mc) T.mail → Calls Tryz.prog 24 #[.agg #[.int .i64 (m : Int), .slice a es.length cap, .int .i64 k, .int .i64 s], .agg #[.int .i64 T.step, .int .i64 T.phase, .bool T.fresh, .bool T.done, .slice va T.vals.length vc, .slice ma T.mail.length mc]] X (WknP X m (rndV j s T))) := fun X h1 h2 => rWoken_any a es.length cap m (m : Int) k s j T _ _ X h1 h2 hj hI (by omega)
  have CAG : Hid (T.done = true → ∀ X, MlR X (.slice va T.vals.length vc) T.vals → Calls Tryz.prog 23 #[.agg #[.int .i64 T.step, .int .i64 T.phase, .bool false, .bool true, .slice va T.vals.length vc, .slice ma T.mail.length mc]] X (StoP X ⟨T.step, T.phase, false, true, T.vals, List.replicate T.vals.length []⟩)) := fun _ X h1 => again_any T.step T.phase T.vals _ _ X ⟨_, _, _, rfl⟩ h1 (by have := hI.lv; omega)
  have hrr : ∀ u : Int, 0 ≤ u ∧ u < (m : Int) → valB j (rndV j s T u).1 = true ∧ ((rndV j s T u).2 = true → 0 ≤ (rndV j s T u).1.1) := fun u hu => hI.rnd (by omega) hu
  have CSN : Hid (∀ X v1 v2, EdR X (.slice a es.length cap) es → MlR X v1 (valsR m (rndV j s T)) → BlR X v2 (sdR m (rndV j s T) m) → Calls Tryz.prog 25 #[.agg #[.int .i64 (m : Int), .slice a es.length cap, .int .i64 k, .int .i64 s], .int .i64 T.phase, v1, v2] X (SntP X m j (rndV j s T) es)) := fun X v1 v2 h0 h1 h2 => sent_any _ es m k s T.phase j (rndV j s T) v1 v2 X h0 HG (fun e he => (in_of_out (hed e he)).2.2.2.2) hkj hpj (by omega) (by omega) hrr h1 h2
  have CST : Hid (∀ X v1 v2, MlR X v1 (valsR m (rndV j s T)) → LiR X v2 (mailR m j (rndV j s T) es) → Calls Tryz.prog 26 #[.int .i64 k, .agg #[.int .i64 (T.step + 1), .int .i64 T.phase, .bool false, .bool false, v1, v2]] X (SetP X (nextS m es j s T) v1 v2)) := fun X v1 v2 h1 h2 => settled_any j k T.step (T.step + 1) T.phase (valsR m (rndV j s T)) (mailR m j (rndV j s T) es) v1 v2 X hkj hpj rfl h1 h2 (fun x hx => by
    obtain ⟨i, hi, rfl⟩ := List.getElem_of_mem hx
    have hi' : i < m := by rw [valsR_len] at hi; exact hi
    have h3 := valsR_at (r := rndV j s T) hi'
    rw [List.getElem?_eq_getElem hi] at h3
    injection h3 with h3
    rw [h3]
    exact (valB_iff.1 (hrr (i : Int) (by omega)).1).2.1)
  have HNV : Hid ((nextS m es j s T).vals = valsR m (rndV j s T) ∧ (nextS m es j s T).mail = mailR m j (rndV j s T) es) := (behR_step j T.step T.phase _ _).2
  have HST : Hid (0 ≤ T.step ∧ T.step ≤ 100000) := hI.stp
  have HLN : Hid ((valsR m (rndV j s T)).length = m) := valsR_len _ _
  have HLS : Hid ((sdR m (rndV j s T) m).length = m) := sdR_len _ _ _
  clear hf hk3 hel hed hmay hj hI hkj hpj HG hrr hje
  generalize nextS m es j s T = NX at *
  generalize folE m es k s T = R at *
  generalize rndV j s T = r at *
  obtain ⟨step, phase, fr, dn, vs, ms⟩ := T
  simp only at HV HM hvc hvm hmc hmm HDN HFU HOV HGO CWK CAG CSN CST HST ⊢
  have hst := HST.out
  obtain ⟨W0, hW0⟩ : ∃ W0, W0 = ((w.alloc (.cells #[.int .i64 (m : Int), .slice a es.length cap, .int .i64 k, .int .i64 s] 35)).alloc (.cells #[.int .i64 step, .int .i64 phase, .bool fr, .bool dn, .slice va vs.length vc, .slice ma ms.length mc] 31)).alloc (.cells #[.int .i64 0, .int .i64 0, .bool false, .bool false, .slice none 0 0, .slice none 0 0] 31) := ⟨_, rfl⟩
  obtain ⟨Q0, T0, Z0, B0, s1, s2⟩ := boxes3 w #[.int .i64 (m : Int), .slice a es.length cap, .int .i64 k, .int .i64 s] #[.int .i64 step, .int .i64 phase, .bool fr, .bool dn, .slice va vs.length vc, .slice ma ms.length mc] #[.int .i64 0, .int .i64 0, .bool false, .bool false, .slice none 0 0, .slice none 0 0] 35 31 31 W0 hW0
  have BH : Hid (Below w.heap.size w W0) := B0
  have HK : Hid (∀ X, Below W0.heap.size W0 X → BX 35 X w.heap.size #[.int .i64 (m : Int), .slice a es.length cap, .int .i64 k, .int .i64 s] ∧ BX 31 X (w.heap.size + 1) #[.int .i64 step, .int .i64 phase, .bool fr, .bool dn, .slice va vs.length vc, .slice ma ms.length mc] ∧ BX 31 X (w.heap.size + 2) #[.int .i64 0, .int .i64 0, .bool false, .bool false, .slice none 0 0, .slice none 0 0] ∧ Below w.heap.size w X) := fun X hX => ⟨Q0.below hX (by omega), T0.below hX (by omega), Z0.below hX (by omega), BH.out.trans (hX.mono (by omega))⟩
  have HNO : Hid (∀ X f, Below W0.heap.size W0 X → R = (f, st0) → BX 31 (put6 X (w.heap.size + 2) (.int .i64 0) (.int .i64 0) (.bool false) (.bool false) (.slice none 0 0) (.slice none 0 0)) (w.heap.size + 2) #[.int .i64 0, .int .i64 0, .bool false, .bool false, .slice none 0 0, .slice none 0 0] ∧ StaP w R (.returned (.tuple #[.agg #[.int .i64 0, .int .i64 0, .bool false, .bool false, .slice none 0 0, .slice none 0 0], .int .i64 f])) (put6 X (w.heap.size + 2) (.int .i64 0) (.int .i64 0) (.bool false) (.bool false) (.slice none 0 0) (.slice none 0 0))) := fun X f hX hR => by
    obtain ⟨_, _, Z1, b1⟩ := HK.out X hX
    refine ⟨Z1.put6, ?_⟩
    rw [hR]
    exact StaP.no (below_put6 b1 (by omega) Z1.lt _ _ _ _ _ _)
  have HYE : Hid (∀ X (t : StS) v1 v2, Below W0.heap.size W0 X → R = (0, t) → X.ownsRow W0.heap.size 56 2 v1 t.vals.length (t.vals.flatMap encM) → OwnLi X W0.heap.size v2 t.mail → BX 31 (put6 X (w.heap.size + 2) (.int .i64 t.step) (.int .i64 t.phase) (.bool t.fresh) (.bool t.done) v1 v2) (w.heap.size + 2) #[.int .i64 t.step, .int .i64 t.phase, .bool t.fresh, .bool t.done, v1, v2] ∧ StaP w R (.returned (.tuple #[.agg #[.int .i64 t.step, .int .i64 t.phase, .bool t.fresh, .bool t.done, v1, v2], .int .i64 0])) (put6 X (w.heap.size + 2) (.int .i64 t.step) (.int .i64 t.phase) (.bool t.fresh) (.bool t.done) v1 v2)) := fun X t v1 v2 hX hR h1 h2 => by
    obtain ⟨_, _, Z1, b1⟩ := HK.out X hX
    refine ⟨Z1.put6, ?_⟩
    rw [hR]
    exact StaP.yes (t := t) (own_lower (own_off h1 Z1 (by decide) (kept_put6 X (w.heap.size + 2) _ _ _ _ _ _)) (by omega)) ((h2.off Z1 (by decide) (by decide) (kept_put6 X (w.heap.size + 2) _ _ _ _ _ _)).lower (by omega)) (below_put6 b1 (by omega) Z1.lt _ _ _ _ _ _)
  have R0 : Hid (∀ X, Below W0.heap.size W0 X → EdR X (.slice a es.length cap) es ∧ MlR X (.slice va vs.length vc) vs ∧ LiR X (.slice ma ms.length mc) ms) := fun X hX => ⟨HR.out.below (HK.out _ hX).2.2.2 (Nat.le_refl _), HV.out.below (HK.out _ hX).2.2.2 (Nat.le_refl _), HM.out.below (HK.out _ hX).2.2.2 (Nat.le_refl _)⟩
  obtain ⟨q0, q1, q2, q3⟩ := Q0.all4
  obtain ⟨⟨c0, c1, c2, c3, c4, c5⟩, _⟩ := T0.all6
  obtain ⟨⟨d0, d1, d2, d3, d4, d5⟩, e0, e1, e2, e3, e4, e5⟩ := Z0.all6
  have A0 : Hid (Below W0.heap.size W0 W0) := Below.refl _ _
  have ML0 : Hid (MlR W0 (.slice va vs.length vc) vs) := (R0.out _ A0.out).2.1
  have LI0 : Hid (LiR W0 (.slice ma ms.length mc) ms) := (R0.out _ A0.out).2.2
  clear Q0 T0 Z0 B0
  cases dn
  · by_cases h5 : step = 100000
    · obtain ⟨rx, hp⟩ := HNO.out _ 10 A0.out (HFU.out rfl (by omega))
      have HP : Hid (StaP w R (.returned (.tuple #[.agg #[.int .i64 0, .int .i64 0, .bool false, .bool false, .slice none 0 0, .slice none 0 0], .int .i64 10])) (put6 W0 (w.heap.size + 2) (.int .i64 0) (.int .i64 0) (.bool false) (.bool false) (.slice none 0 0) (.slice none 0 0))) := hp
      have RX : Hid (BX 31 (put6 W0 (w.heap.size + 2) (.int .i64 0) (.int .i64 0) (.bool false) (.bool false) (.slice none 0 0) (.slice none 0 0)) (w.heap.size + 2) #[.int .i64 0, .int .i64 0, .bool false, .bool false, .slice none 0 0, .slice none 0 0]) := rx
      have t5 : (step == 100000) = true := by simpa using h5
      clear hp rx h5
      go_enter Tryz.func15, Tryz.ntmps15
      go_upto_region 1 with fail
      rw [← hW0]
      clear hW0
      go_wp2_with fail
      obtain ⟨⟨r0, r1, r2, r3, r4, r5⟩, _⟩ := RX.out.all6
      unfold put6 at r0 r1 r2 r3 r4 r5
      exact bodyPost_ret (v := .tuple #[.agg #[.int .i64 0, .int .i64 0, .bool false, .bool false, .slice none 0 0, .slice none 0 0], .int .i64 10]) (by simp [results, Tryz.results15, go_sem, r0, r1, r2, r3, r4, r5]) rfl HP.out
    · have t5 : (step == 100000) = false := by simpa using h5
      have wn : IntKind.i64.wrap (step + 1) = step + 1 := wrap_id64 (by omega) (by omega)
      have h6 : ¬ 100000 ≤ step := by omega
      have HO2 : Hid (overR j r es = true → R = (6, st0)) := HOV.out rfl h6
      have HG2 : Hid (overR j r es = false → R = (0, NX)) := HGO.out rfl h6
      clear h5 HFU HOV HGO HDN CAG h6
      go_enter Tryz.func15, Tryz.ntmps15
      go_upto_region 1 with fail
      rw [← hW0]
      clear hW0
      go_wp2_with fail
      refine (CWK.out _ ML0.out LI0.out).mono ?_
      rintro e w1 ⟨v1, v2, rfl, hv1, hv2, hb1⟩
      have A1 : Hid (Below W0.heap.size W0 w1) := hb1
      have V1 : Hid (w1.ownsRow W0.heap.size 56 2 v1 m ((valsR m r).flatMap encM)) := hv1
      have V2 : Hid (w1.ownsRow W0.heap.size 4 1 v2 m ((sdR m r m).flatMap encT)) := hv2
      obtain ⟨Q1, T1, Z1, _⟩ := HK.out _ hb1
      clear q0 q1 q2 q3 c0 c1 c2 c3 c4 c5 d0 d1 d2 d3 d4 d5 e0 e1 e2 e3 e4 e5
      obtain ⟨q0, q1, q2, q3⟩ := Q1.all4
      obtain ⟨⟨c0, c1, c2, c3, c4, c5⟩, _⟩ := T1.all6
      obtain ⟨a1, n1, k1, rfl⟩ : ∃ a n c, v1 = .slice a n c := by
        rcases own_shapeK hv1 with ⟨e, _⟩ | ⟨g', c', e, _⟩
        · exact ⟨_, _, _, e⟩
        · exact ⟨_, _, _, e⟩
      obtain ⟨a2, n2, k2, rfl⟩ : ∃ a n c, v2 = .slice a n c := by
        rcases own_shapeK hv2 with ⟨e, _⟩ | ⟨g', c', e, _⟩
        · exact ⟨_, _, _, e⟩
        · exact ⟨_, _, _, e⟩
      have M1 : Hid (MlR w1 (.slice a1 n1 k1) (valsR m r)) := RowK.own encM_len (by rw [HLN.out]; exact hv1)
      have M2 : Hid (BlR w1 (.slice a2 n2 k2) (sdR m r m)) := RowK.own encT_len (by rw [HLS.out]; exact hv2)
      clear Q1 T1 Z1 hv1 hv2 hb1 CWK ML0 LI0
      go_wp2_with fail
      refine (CSN.out _ _ _ (R0.out _ A1.out).1 M1.out M2.out).mono ?_
      rintro e w2 ⟨hor, hb2⟩
      have A2 : Hid (Below W0.heap.size W0 w2) := A1.out.trans (hb2.mono A1.out.size)
      have V3 : Hid (w2.ownsRow W0.heap.size 56 2 (.slice a1 n1 k1) m ((valsR m r).flatMap encM)) := own_below V1.out hb2 (Nat.le_refl _)
      obtain ⟨Q2, T2, Z2, _⟩ := HK.out _ A2.out
      clear q0 q1 q2 q3 c0 c1 c2 c3 c4 c5
      obtain ⟨q0, q1, q2, q3⟩ := Q2.all4
      obtain ⟨⟨c0, c1, c2, c3, c4, c5⟩, _⟩ := T2.all6
      obtain ⟨⟨d0, d1, d2, d3, d4, d5⟩, e0, e1, e2, e3, e4, e5⟩ := Z2.all6
      clear Q2 T2 Z2 CSN
      rcases hor with ⟨ho, rfl⟩ | ⟨ho, v3, rfl, hv3⟩
      · obtain ⟨rx, hp⟩ := HNO.out _ 6 A2.out (HO2.out ho)
        have HP : Hid (StaP w R (.returned (.tuple #[.agg #[.int .i64 0, .int .i64 0, .bool false, .bool false, .slice none 0 0, .slice none 0 0], .int .i64 6])) (put6 w2 (w.heap.size + 2) (.int .i64 0) (.int .i64 0) (.bool false) (.bool false) (.slice none 0 0) (.slice none 0 0))) := hp
        have RX : Hid (BX 31 (put6 w2 (w.heap.size + 2) (.int .i64 0) (.int .i64 0) (.bool false) (.bool false) (.slice none 0 0) (.slice none 0 0)) (w.heap.size + 2) #[.int .i64 0, .int .i64 0, .bool false, .bool false, .slice none 0 0, .slice none 0 0]) := rx
        clear ho hp rx hb2
        go_wp2_with fail
        obtain ⟨⟨r0, r1, r2, r3, r4, r5⟩, _⟩ := RX.out.all6
        unfold put6 at r0 r1 r2 r3 r4 r5
        exact bodyPost_ret (v := .tuple #[.agg #[.int .i64 0, .int .i64 0, .bool false, .bool false, .slice none 0 0, .slice none 0 0], .int .i64 6]) (by simp [results, Tryz.results15, go_sem, r0, r1, r2, r3, r4, r5]) rfl HP.out
      · have HRR : Hid (R = (0, NX)) := HG2.out ho
        have V4 : Hid (OwnLi w2 W0.heap.size v3 (mailR m j r es)) := hv3.lower A1.out.size
        have L3 : Hid (LiR w2 v3 (mailR m j r es)) := hv3.reads
        have M3 : Hid (MlR w2 (.slice a1 n1 k1) (valsR m r)) := M1.out.below hb2 (Nat.le_refl _)
        obtain ⟨a3, k3, rfl⟩ := hv3.shape
        clear ho hv3 hb2 HO2 HG2
        go_wp2_with fail
        refine (CST.out _ _ _ M3.out L3.out).mono ?_
        rintro e w3 ⟨rfl, hb3⟩
        have A3 : Hid (Below W0.heap.size W0 w3) := A2.out.trans (hb3.mono A2.out.size)
        have V5 : Hid (w3.ownsRow W0.heap.size 56 2 (.slice a1 n1 k1) NX.vals.length (NX.vals.flatMap encM)) := by
          show World.ownsRow _ _ _ _ _ _ _
          rw [HNV.out.1, HLN.out]; exact own_below V3.out hb3 (Nat.le_refl _)
        have V6 : Hid (OwnLi w3 W0.heap.size (.slice a3 (mailR m j r es).length k3) NX.mail) := by
          show OwnLi _ _ _ _
          rw [HNV.out.2]; exact V4.out.below hb3 (Nat.le_refl _)
        obtain ⟨rx, hp⟩ := HYE.out _ NX _ _ A3.out HRR.out V5.out V6.out
        obtain ⟨Q3, T3, Z3, _⟩ := HK.out _ A3.out
        clear q0 q1 q2 q3 c0 c1 c2 c3 c4 c5 d0 d1 d2 d3 d4 d5 e0 e1 e2 e3 e4 e5
        obtain ⟨⟨d0, d1, d2, d3, d4, d5⟩, e0, e1, e2, e3, e4, e5⟩ := Z3.all6
        obtain ⟨nst, nph, nfr, ndn, nvs, nms⟩ := NX
        simp only at rx hp ⊢
        have HP : Hid (StaP w R (.returned (.tuple #[.agg #[.int .i64 nst, .int .i64 nph, .bool nfr, .bool ndn, .slice a1 n1 k1, .slice a3 (mailR m j r es).length k3], .int .i64 0])) (put6 w3 (w.heap.size + 2) (.int .i64 nst) (.int .i64 nph) (.bool nfr) (.bool ndn) (.slice a1 n1 k1) (.slice a3 (mailR m j r es).length k3))) := hp
        have RX : Hid (BX 31 (put6 w3 (w.heap.size + 2) (.int .i64 nst) (.int .i64 nph) (.bool nfr) (.bool ndn) (.slice a1 n1 k1) (.slice a3 (mailR m j r es).length k3)) (w.heap.size + 2) #[.int .i64 nst, .int .i64 nph, .bool nfr, .bool ndn, .slice a1 n1 k1, .slice a3 (mailR m j r es).length k3]) := rx
        clear hp rx hb3 Q3 T3 Z3
        go_wp2_with fail
        obtain ⟨⟨r0, r1, r2, r3, r4, r5⟩, _⟩ := RX.out.all6
        unfold put6 at r0 r1 r2 r3 r4 r5
        exact bodyPost_ret (v := .tuple #[.agg #[.int .i64 nst, .int .i64 nph, .bool nfr, .bool ndn, .slice a1 n1 k1, .slice a3 (mailR m j r es).length k3], .int .i64 0]) (by simp [results, Tryz.results15, go_sem, r0, r1, r2, r3, r4, r5]) rfl HP.out
  · obtain ⟨hR, hfr, hms⟩ := HDN.out rfl
    subst hfr
    have HRR : Hid (R = (0, ⟨step, phase, false, true, vs, ms⟩)) := hR
    have HMS : Hid (ms = List.replicate vs.length []) := hms
    have CA2 : Hid (∀ X, MlR X (.slice va vs.length vc) vs → Calls Tryz.prog 23 #[.agg #[.int .i64 step, .int .i64 phase, .bool false, .bool true, .slice va vs.length vc, .slice ma ms.length mc]] X (StoP X ⟨step, phase, false, true, vs, List.replicate vs.length []⟩)) := CAG.out rfl
    clear hR hms HDN HFU HOV HGO CAG
    go_enter Tryz.func15, Tryz.ntmps15
    go_upto_region 1 with fail
    rw [← hW0]
    clear hW0
    go_wp2_with fail
    refine (CA2.out _ ML0.out).mono ?_
    rintro e w1 ⟨v1, v2, rfl, hv1, hv2, hb1⟩
    simp only at hv1 hv2 ⊢
    replace hv2 : OwnLi w1 W0.heap.size v2 ms := by rw [HMS.out]; exact hv2
    clear HMS
    obtain ⟨rx, hp⟩ := HYE.out w1 ⟨step, phase, false, true, vs, ms⟩ v1 v2 hb1 HRR.out hv1 hv2
    obtain ⟨Q3, T3, Z3, _⟩ := HK.out _ hb1
    clear q0 q1 q2 q3 c0 c1 c2 c3 c4 c5 d0 d1 d2 d3 d4 d5 e0 e1 e2 e3 e4 e5
    obtain ⟨⟨d0, d1, d2, d3, d4, d5⟩, e0, e1, e2, e3, e4, e5⟩ := Z3.all6
    obtain ⟨a1, n1, k1, rfl⟩ : ∃ a n c, v1 = .slice a n c := by
      rcases own_shapeK hv1 with ⟨e, _⟩ | ⟨g', c', e, _⟩
      · exact ⟨_, _, _, e⟩
      · exact ⟨_, _, _, e⟩
    obtain ⟨a2, k2, rfl⟩ := hv2.shape
    simp only at rx hp
    have HP : Hid (StaP w R (.returned (.tuple #[.agg #[.int .i64 step, .int .i64 phase, .bool false, .bool true, .slice a1 n1 k1, .slice a2 ms.length k2], .int .i64 0])) (put6 w1 (w.heap.size + 2) (.int .i64 step) (.int .i64 phase) (.bool false) (.bool true) (.slice a1 n1 k1) (.slice a2 ms.length k2))) := hp
    have RX : Hid (BX 31 (put6 w1 (w.heap.size + 2) (.int .i64 step) (.int .i64 phase) (.bool false) (.bool true) (.slice a1 n1 k1) (.slice a2 ms.length k2)) (w.heap.size + 2) #[.int .i64 step, .int .i64 phase, .bool false, .bool true, .slice a1 n1 k1, .slice a2 ms.length k2]) := rx
    clear hp rx hb1 Q3 T3 Z3 hv1 hv2
    go_wp2_with fail
    obtain ⟨⟨r0, r1, r2, r3, r4, r5⟩, _⟩ := RX.out.all6
    unfold put6 at r0 r1 r2 r3 r4 r5
    exact bodyPost_ret (v := .tuple #[.agg #[.int .i64 step, .int .i64 phase, .bool false, .bool true, .slice a1 n1 k1, .slice a2 ms.length k2], .int .i64 0]) (by simp [results, Tryz.results15, go_sem, r0, r1, r2, r3, r4, r5]) rfl HP.out
end Go.Proofs.YtbmkgnlfccigpaaGreat

namespace Go.Proofs.YtbmkgnlfccigpaaGreat
set_option maxRecDepth 100000
open Go.ChangeShapes Go.WideShapes Go.ChangeAt Go.RowKit

set_option maxHeartbeats 1000000 in
set_option maxRecDepth 100000 in
theorem rCheck_any (v : Value) (es : List Ed) (n k s : Int) (w : World) (h : EdR w v es) :
    Calls Tryz.prog 21 #[.agg #[.int .i64 n, v, .int .i64 k, .int .i64 s]] w fun e w' => e = .returned (.int .i64 (jobE n es k s)) ∧ Below w.heap.size w w' := by
  have HR : Hid (EdR w v es) := h
  obtain ⟨a, cap, rfl, _, _, _, _⟩ := h
  have HCK : Hid (∀ X, EdR X (.slice a es.length cap) es → Calls Tryz.prog 28 #[.agg #[.int .i64 n, .slice a es.length cap]] X fun e w' => e = .returned (.int .i64 (faultE n es)) ∧ Below X.heap.size X w') := fun X hX => check_any _ es n X hX
  obtain ⟨W0, hW0⟩ : ∃ W0, W0 = w.alloc (.cells #[.int .i64 n, .slice a es.length cap, .int .i64 k, .int .i64 s] 35) := ⟨_, rfl⟩
  have Q0 : BX 35 W0 w.heap.size #[.int .i64 n, .slice a es.length cap, .int .i64 k, .int .i64 s] := by rw [hW0]; exact BX.new _ _ _
  have BH : Hid (Below w.heap.size w W0) := by show Below _ _ _; rw [hW0]; exact below_alloc _ _
  have s1 : w.heap.size + 1 ≤ W0.heap.size := by rw [hW0]; simp
  have HK : Hid (∀ X, Below W0.heap.size W0 X → BX 35 X w.heap.size #[.int .i64 n, .slice a es.length cap, .int .i64 k, .int .i64 s] ∧ Below w.heap.size w X) := fun X hX => ⟨Q0.below hX (by omega), BH.out.trans (hX.mono (by omega))⟩
  have R0 : Hid (EdR W0 (.slice a es.length cap) es) := HR.out.below BH.out (Nat.le_refl _)
  obtain ⟨q0, q1, q2, q3⟩ := Q0.all4
  clear Q0
  by_cases hf : faultE n es = 0
  · rw [hf] at HCK
    by_cases hk : 1 ≤ k ∧ k ≤ 3
    · have CW : Hid (∀ X, ∃ x y, Calls Tryz.prog 31 #[.int .i64 k, .int .i64 0] X fun e w' => e = .returned (.tuple #[.bool x, .bool y, .int .i64 0]) ∧ Below X.heap.size X w') := fun X => by
        rcases (show k = 1 ∨ k = 2 ∨ k = 3 by omega) with rfl | rfl | rfl
        · exact ⟨_, _, waysP_any (false, false) X⟩
        · exact ⟨_, _, waysP_any (false, true) X⟩
        · exact ⟨_, _, waysP_any (true, false) X⟩
      by_cases h1 : k = 1
      · by_cases hs : s < 0
        · have HE : Hid (jobE n es k s = 2) := jobE_src hf h1 (by omega)
          have t1 : (k == 1) = true := by simpa using h1
          clear hk h1
          generalize jobE n es k s = je at *
          clear hf
          go_enter Tryz.func21, Tryz.ntmps21
          go_upto_region 1 with fail
          rw [← hW0]
          clear hW0
          go_wp2_with fail
          refine (HCK.out _ R0.out).mono ?_
          rintro e w1 ⟨rfl, hb1⟩
          obtain ⟨Q1, b1⟩ := HK.out _ hb1
          clear q0 q1 q2 q3 HCK
          obtain ⟨q0, q1, q2, q3⟩ := Q1.all4
          have A1 : Hid (Below W0.heap.size W0 w1) := hb1
          clear hb1 Q1 b1
          go_wp2_with fail
          obtain ⟨x, y, cw⟩ := CW.out w1
          refine cw.mono ?_
          rintro e w2 ⟨rfl, hb2⟩
          clear cw
          have A2 : Hid (Below W0.heap.size W0 w2) := A1.out.trans (hb2.mono A1.out.size)
          obtain ⟨Q2, b2⟩ := HK.out _ A2.out
          have B2 : Hid (Below w.heap.size w w2) := b2
          clear q0 q1 q2 q3
          obtain ⟨q0, q1, q2, q3⟩ := Q2.all4
          clear hb2 Q2 b2
          go_wp2_with fail
          go_ret
          exact ⟨by rw [HE.out]; rfl, B2.out⟩
        · by_cases hs2 : s ≥ n
          · have HE : Hid (jobE n es k s = 2) := jobE_src hf h1 (by omega)
            have t1 : (k == 1) = true := by simpa using h1
            clear hk h1
            generalize jobE n es k s = je at *
            clear hf
            go_enter Tryz.func21, Tryz.ntmps21
            go_upto_region 1 with fail
            rw [← hW0]
            clear hW0
            go_wp2_with fail
            refine (HCK.out _ R0.out).mono ?_
            rintro e w1 ⟨rfl, hb1⟩
            obtain ⟨Q1, b1⟩ := HK.out _ hb1
            clear q0 q1 q2 q3 HCK
            obtain ⟨q0, q1, q2, q3⟩ := Q1.all4
            have A1 : Hid (Below W0.heap.size W0 w1) := hb1
            clear hb1 Q1 b1
            go_wp2_with fail
            obtain ⟨x, y, cw⟩ := CW.out w1
            refine cw.mono ?_
            rintro e w2 ⟨rfl, hb2⟩
            clear cw
            have A2 : Hid (Below W0.heap.size W0 w2) := A1.out.trans (hb2.mono A1.out.size)
            obtain ⟨Q2, b2⟩ := HK.out _ A2.out
            have B2 : Hid (Below w.heap.size w w2) := b2
            clear q0 q1 q2 q3
            obtain ⟨q0, q1, q2, q3⟩ := Q2.all4
            clear hb2 Q2 b2
            go_wp2_with fail
            go_ret
            exact ⟨by rw [HE.out]; rfl, B2.out⟩
          · have HE : Hid (jobE n es k s = 0) := jobE_ok hf hk fun _ => ⟨by omega, by omega⟩
            have t1 : (k == 1) = true := by simpa using h1
            clear hk h1
            generalize jobE n es k s = je at *
            clear hf
            go_enter Tryz.func21, Tryz.ntmps21
            go_upto_region 1 with fail
            rw [← hW0]
            clear hW0
            go_wp2_with fail
            refine (HCK.out _ R0.out).mono ?_
            rintro e w1 ⟨rfl, hb1⟩
            obtain ⟨Q1, b1⟩ := HK.out _ hb1
            clear q0 q1 q2 q3 HCK
            obtain ⟨q0, q1, q2, q3⟩ := Q1.all4
            have A1 : Hid (Below W0.heap.size W0 w1) := hb1
            clear hb1 Q1 b1
            go_wp2_with fail
            obtain ⟨x, y, cw⟩ := CW.out w1
            refine cw.mono ?_
            rintro e w2 ⟨rfl, hb2⟩
            clear cw
            have A2 : Hid (Below W0.heap.size W0 w2) := A1.out.trans (hb2.mono A1.out.size)
            obtain ⟨Q2, b2⟩ := HK.out _ A2.out
            have B2 : Hid (Below w.heap.size w w2) := b2
            clear q0 q1 q2 q3
            obtain ⟨q0, q1, q2, q3⟩ := Q2.all4
            clear hb2 Q2 b2
            go_wp2_with fail
            go_ret
            exact ⟨by rw [HE.out]; rfl, B2.out⟩
      · have HE : Hid (jobE n es k s = 0) := jobE_ok hf hk fun g => absurd g h1
        have t1 : (k == 1) = false := by simpa using h1
        clear hk h1
        generalize jobE n es k s = je at *
        clear hf
        go_enter Tryz.func21, Tryz.ntmps21
        go_upto_region 1 with fail
        rw [← hW0]
        clear hW0
        go_wp2_with fail
        refine (HCK.out _ R0.out).mono ?_
        rintro e w1 ⟨rfl, hb1⟩
        obtain ⟨Q1, b1⟩ := HK.out _ hb1
        clear q0 q1 q2 q3 HCK
        obtain ⟨q0, q1, q2, q3⟩ := Q1.all4
        have A1 : Hid (Below W0.heap.size W0 w1) := hb1
        clear hb1 Q1 b1
        go_wp2_with fail
        obtain ⟨x, y, cw⟩ := CW.out w1
        refine cw.mono ?_
        rintro e w2 ⟨rfl, hb2⟩
        clear cw
        have A2 : Hid (Below W0.heap.size W0 w2) := A1.out.trans (hb2.mono A1.out.size)
        obtain ⟨Q2, b2⟩ := HK.out _ A2.out
        have B2 : Hid (Below w.heap.size w w2) := b2
        clear q0 q1 q2 q3
        obtain ⟨q0, q1, q2, q3⟩ := Q2.all4
        clear hb2 Q2 b2
        go_wp2_with fail
        go_ret
        exact ⟨by rw [HE.out]; rfl, B2.out⟩
    · have HE : Hid (jobE n es k s = 3) := jobE_kind hf hk
      have CW : Hid (∀ X, Calls Tryz.prog 31 #[.int .i64 k, .int .i64 0] X fun e w' => e = .returned (.tuple #[.bool false, .bool false, .int .i64 3]) ∧ Below X.heap.size X w') := fun X => waysP_none ⟨by omega, by omega, by omega, by omega⟩ X
      clear hk
      generalize jobE n es k s = je at *
      clear hf
      go_enter Tryz.func21, Tryz.ntmps21
      go_upto_region 1 with fail
      rw [← hW0]
      clear hW0
      go_wp2_with fail
      refine (HCK.out _ R0.out).mono ?_
      rintro e w1 ⟨rfl, hb1⟩
      obtain ⟨Q1, b1⟩ := HK.out _ hb1
      clear q0 q1 q2 q3 HCK
      obtain ⟨q0, q1, q2, q3⟩ := Q1.all4
      have A1 : Hid (Below W0.heap.size W0 w1) := hb1
      clear hb1 Q1 b1
      go_wp2_with fail
      refine (CW.out w1).mono ?_
      rintro e w2 ⟨rfl, hb2⟩
      have A2 : Hid (Below W0.heap.size W0 w2) := A1.out.trans (hb2.mono A1.out.size)
      obtain ⟨Q2, b2⟩ := HK.out _ A2.out
      have B2 : Hid (Below w.heap.size w w2) := b2
      clear q0 q1 q2 q3
      obtain ⟨q0, q1, q2, q3⟩ := Q2.all4
      clear hb2 Q2 b2
      go_wp2_with fail
      go_ret
      exact ⟨by rw [HE.out]; rfl, B2.out⟩
  · have HE : Hid (jobE n es k s = faultE n es) := jobE_bad hf
    generalize jobE n es k s = je at *
    generalize faultE n es = fe at *
    have t0 : (fe != 0) = true := by simpa using hf
    clear hf
    go_enter Tryz.func21, Tryz.ntmps21
    go_upto_region 1 with fail
    rw [← hW0]
    clear hW0
    go_wp2_with fail
    refine (HCK.out _ R0.out).mono ?_
    rintro e w1 ⟨rfl, hb1⟩
    have B1 : Hid (Below w.heap.size w w1) := (HK.out _ hb1).2
    clear hb1 q0 q1 q2 q3 HCK
    go_wp2_with fail
    go_ret
    exact ⟨by rw [HE.out]; rfl, B1.out⟩
end Go.Proofs.YtbmkgnlfccigpaaGreat

namespace Go.Proofs.YtbmkgnlfccigpaaGreat
set_option maxRecDepth 100000
open Go.ChangeShapes Go.WideShapes Go.ChangeAt Go.RowKit

set_option maxHeartbeats 2000000 in
set_option maxRecDepth 100000 in
theorem rBegin_any (v : Value) (es : List Ed) (n k s : Int) (w : World) (h : EdR w v es) :
    Calls Tryz.prog 14 #[.agg #[.int .i64 n, v, .int .i64 k, .int .i64 s]] w (StaP w (begE n es k s)) := by
  have HR : Hid (EdR w v es) := h
  obtain ⟨a, cap, rfl, _, _, _, _⟩ := h
  have HCK : Hid (∀ X, EdR X (.slice a es.length cap) es → Calls Tryz.prog 21 #[.agg #[.int .i64 n, .slice a es.length cap, .int .i64 k, .int .i64 s]] X fun e w' => e = .returned (.int .i64 (jobE n es k s)) ∧ Below X.heap.size X w') := fun X hX => rCheck_any _ es n k s X hX
  obtain ⟨W0, hW0⟩ : ∃ W0, W0 = (w.alloc (.cells #[.int .i64 n, .slice a es.length cap, .int .i64 k, .int .i64 s] 35)).alloc (.cells #[.int .i64 0, .int .i64 0, .bool false, .bool false, .slice none 0 0, .slice none 0 0] 31) := ⟨_, rfl⟩
  obtain ⟨Q0, T0, B0, s1, s2⟩ := boxes2 w #[.int .i64 n, .slice a es.length cap, .int .i64 k, .int .i64 s] #[.int .i64 0, .int .i64 0, .bool false, .bool false, .slice none 0 0, .slice none 0 0] 35 31 W0 hW0
  have BH : Hid (Below w.heap.size w W0) := B0
  have HK : Hid (∀ X, Below W0.heap.size W0 X → BX 35 X w.heap.size #[.int .i64 n, .slice a es.length cap, .int .i64 k, .int .i64 s] ∧ BX 31 X (w.heap.size + 1) #[.int .i64 0, .int .i64 0, .bool false, .bool false, .slice none 0 0, .slice none 0 0] ∧ Below w.heap.size w X) := fun X hX => ⟨Q0.below hX (by omega), T0.below hX (by omega), BH.out.trans (hX.mono (by omega))⟩
  have R0 : Hid (EdR W0 (.slice a es.length cap) es) := HR.out.below BH.out (Nat.le_refl _)
  obtain ⟨q0, q1, q2, q3⟩ := Q0.all4
  clear Q0 T0 B0
  by_cases hj : jobE n es k s = 0
  · obtain ⟨hf, _, _⟩ := jobE_zero hj
    obtain ⟨hn0, hn1, _, _⟩ := fault_ok hf
    obtain ⟨m, rfl⟩ : ∃ m : Nat, n = m := ⟨n.toNat, by omega⟩
    have HCF : Hid (∀ X, Calls Tryz.prog 22 #[.int .i64 m] X (StoP X (beginS m))) := fun X => first_any m X (by omega)
    have HE : Hid (begE m es k s = (0, beginS m)) := by show begE m es k s = _; unfold begE; rw [if_pos hj, Int.toNat_natCast]
    rw [hj] at HCK
    generalize begE m es k s = R at *
    generalize beginS m = T at *
    obtain ⟨step, phase, fr, dn, vs, ms⟩ := T
    clear hf hj
    go_enter Tryz.func14, Tryz.ntmps14
    go_upto_region 1 with fail
    rw [← hW0]
    clear hW0
    go_wp2_with fail
    refine (HCK.out _ R0.out).mono ?_
    rintro e w1 ⟨rfl, hb1⟩
    have A1 : Hid (Below W0.heap.size W0 w1) := hb1
    clear q0 q1 q2 q3 HCK hb1
    obtain ⟨Q1, _, _⟩ := HK.out _ A1.out
    obtain ⟨q0, q1, q2, q3⟩ := Q1.all4
    have hs1 := A1.out.size
    clear Q1
    go_wp2_with fail
    refine (HCF.out _).mono ?_
    rintro e w2 ⟨v1, v2, rfl, hv1, hv2, hb2⟩
    simp only at hv1 hv2 ⊢
    have A2 : Hid (Below W0.heap.size W0 w2) := A1.out.trans (hb2.mono hs1)
    obtain ⟨_, Z2, hbw⟩ := HK.out _ A2.out
    have HP : Hid (StaP w R (.returned (.tuple #[.agg #[.int .i64 step, .int .i64 phase, .bool fr, .bool dn, v1, v2], .int .i64 0])) (put6 w2 (w.heap.size + 1) (.int .i64 step) (.int .i64 phase) (.bool fr) (.bool dn) v1 v2)) := by
      show StaP _ _ _ _
      rw [HE.out]
      exact StaP.yes (t := ⟨step, phase, fr, dn, vs, ms⟩) (own_lower (own_off hv1 Z2 (by decide) (kept_put6 w2 (w.heap.size + 1) _ _ _ _ _ _)) (by omega)) ((hv2.off Z2 (by decide) (by decide) (kept_put6 w2 (w.heap.size + 1) _ _ _ _ _ _)).lower (by omega)) (below_put6 hbw (by omega) Z2.lt _ _ _ _ _ _)
    have RX : Hid (BX 31 (put6 w2 (w.heap.size + 1) (.int .i64 step) (.int .i64 phase) (.bool fr) (.bool dn) v1 v2) (w.heap.size + 1) #[.int .i64 step, .int .i64 phase, .bool fr, .bool dn, v1, v2]) := Z2.put6
    obtain ⟨a1, n1, k1, rfl⟩ : ∃ a n c, v1 = .slice a n c := by
      rcases own_shapeK hv1 with ⟨e, _⟩ | ⟨g', c', e, _⟩
      · exact ⟨_, _, _, e⟩
      · exact ⟨_, _, _, e⟩
    obtain ⟨a2, k2, rfl⟩ := hv2.shape
    obtain ⟨⟨d0, d1, d2, d3, d4, d5⟩, e0, e1, e2, e3, e4, e5⟩ := Z2.all6
    clear q0 q1 q2 q3 hv1 hv2 hb2 Z2 hbw
    go_wp2_with fail
    obtain ⟨⟨r0, r1, r2, r3, r4, r5⟩, _⟩ := RX.out.all6
    unfold put6 at r0 r1 r2 r3 r4 r5
    exact bodyPost_ret (v := .tuple #[.agg #[.int .i64 step, .int .i64 phase, .bool fr, .bool dn, .slice a1 n1 k1, .slice a2 ms.length k2], .int .i64 0]) (by simp [results, Tryz.results14, go_sem, r0, r1, r2, r3, r4, r5]) rfl HP.out
  · have HE : Hid (begE n es k s = (jobE n es k s, st0)) := by show begE n es k s = _; unfold begE; rw [if_neg hj]
    generalize begE n es k s = R at *
    generalize jobE n es k s = je at *
    have t0 : (je != 0) = true := by simpa using hj
    clear hj
    go_enter Tryz.func14, Tryz.ntmps14
    go_upto_region 1 with fail
    rw [← hW0]
    clear hW0
    go_wp2_with fail
    refine (HCK.out _ R0.out).mono ?_
    rintro e w1 ⟨rfl, hb1⟩
    obtain ⟨_, Z2, hbw⟩ := HK.out _ hb1
    have HP : Hid (StaP w R (.returned (.tuple #[.agg #[.int .i64 0, .int .i64 0, .bool false, .bool false, .slice none 0 0, .slice none 0 0], .int .i64 je])) (put6 w1 (w.heap.size + 1) (.int .i64 0) (.int .i64 0) (.bool false) (.bool false) (.slice none 0 0) (.slice none 0 0))) := by
      show StaP _ _ _ _
      rw [HE.out]
      exact StaP.no (below_put6 hbw (by omega) Z2.lt _ _ _ _ _ _)
    have RX : Hid (BX 31 (put6 w1 (w.heap.size + 1) (.int .i64 0) (.int .i64 0) (.bool false) (.bool false) (.slice none 0 0) (.slice none 0 0)) (w.heap.size + 1) #[.int .i64 0, .int .i64 0, .bool false, .bool false, .slice none 0 0, .slice none 0 0]) := Z2.put6
    obtain ⟨⟨d0, d1, d2, d3, d4, d5⟩, e0, e1, e2, e3, e4, e5⟩ := Z2.all6
    clear hb1 q0 q1 q2 q3 HCK Z2 hbw
    go_wp2_with fail
    obtain ⟨⟨r0, r1, r2, r3, r4, r5⟩, _⟩ := RX.out.all6
    unfold put6 at r0 r1 r2 r3 r4 r5
    exact bodyPost_ret (v := .tuple #[.agg #[.int .i64 0, .int .i64 0, .bool false, .bool false, .slice none 0 0, .slice none 0 0], .int .i64 je]) (by simp [results, Tryz.results14, go_sem, r0, r1, r2, r3, r4, r5]) rfl HP.out
end Go.Proofs.YtbmkgnlfccigpaaGreat

namespace Go.Proofs.YtbmkgnlfccigpaaGreat
set_option maxRecDepth 100000

/-- P13.6. -/
def ranE (n : Int) (es : List Ed) (k s : Int) : Int × StS := if jobE n es k s = 0 then runE n.toNat es k s 100001 (0, beginS n.toNat) else (jobE n es k s, st0)
section
variable {n : Nat} {es : List Ed} {k s : Int} {t : StS}
theorem begin_may (hk : 1 ≤ k ∧ k ≤ 3) (n : Nat) : mayR n k (beginS n) = true := by
  rcases (show k = 1 ∨ k = 2 ∨ k = 3 by omega) with rfl | rfl | rfl
  · exact mayR_iff.2 ⟨_, rfl, MayI.begin n (false, false)⟩
  · exact mayR_iff.2 ⟨_, rfl, MayI.begin n (false, true)⟩
  · exact mayR_iff.2 ⟨_, rfl, MayI.begin n (true, false)⟩
theorem next_may (hn : n ≤ 200) (hg : InG n es) (hl : es.length ≤ 600) (hm : mayR n k t = true) (hd : t.done = false) (h0 : (nextE n es k s t).1 = 0) : mayR n k (nextE n es k s t).2 = true ∧ (nextE n es k s t).2.step = t.step + 1 := by
  obtain ⟨j, hj, hI⟩ := mayR_iff.1 hm
  unfold nextE at h0 ⊢
  rw [if_pos hm, if_neg (by simp [hd])] at h0 ⊢
  by_cases hs : 100000 ≤ t.step
  · rw [if_pos hs] at h0; cases h0
  · rw [if_neg hs, hj] at h0 ⊢
    simp only at h0 ⊢
    by_cases ho : overR j (rndV j s t) es = true
    · rw [if_pos ho] at h0; cases h0
    · rw [if_neg ho]
      refine ⟨?_, (behR_step j t.step t.phase _ _).1⟩
      have h2 := MayI.next hI hj hn hg hl (by omega) (by simpa using ho)
      exact mayR_iff.2 h2
theorem next_step (hm : mayR n k t = true) (hd : t.done = false) (h0 : (nextE n es k s t).1 = 0) : t.step < 100000 := by
  unfold nextE at h0
  rw [if_pos hm, if_neg (by simp [hd])] at h0
  by_cases hs : 100000 ≤ t.step
  · rw [if_pos hs] at h0; cases h0
  · omega
theorem may_step (hm : mayR n k t = true) : t.step ≤ 100000 := by
  obtain ⟨j, hj, hI⟩ := mayR_iff.1 hm
  exact hI.stp.2
theorem run_go (f : Nat) {r : Int × StS} (h : r.1 = 0) (hd : r.2.done = false) : runE n es k s (f + 1) r = runE n es k s f (nextE n es k s r.2) := by
  show (if r.1 = 0 ∧ r.2.done = false then _ else _) = _
  rw [if_pos ⟨h, hd⟩]
theorem run_end (f : Nat) {r : Int × StS} (h : ¬ (r.1 = 0 ∧ r.2.done = false)) : runE n es k s f r = r := by
  cases f with
  | zero => rfl
  | succ f => show (if r.1 = 0 ∧ r.2.done = false then _ else _) = _; rw [if_neg h]
/-- What holds all along: so many rounds are left. -/
def RanI (n : Nat) (es : List Ed) (k s : Int) (R : Int × StS) (f : Nat) (r : Int × StS) : Prop := runE n es k s f r = R ∧ (r.1 = 0 → mayR n k r.2 = true ∧ 100001 ≤ (f : Int) + r.2.step)
theorem RanI.pos {R r : Int × StS} {f : Nat} (h : RanI n es k s R f r) (h0 : r.1 = 0) : ∃ f', f = f' + 1 := by
  obtain ⟨h1, h2⟩ := h.2 h0
  have := may_step h1
  exact ⟨f - 1, by omega⟩
theorem RanI.go (hn : n ≤ 200) (hg : InG n es) (hl : es.length ≤ 600) {R r : Int × StS} {f : Nat} (h : RanI n es k s R (f + 1) r) (h0 : r.1 = 0) (hd : r.2.done = false) : RanI n es k s R f (nextE n es k s r.2) := by
  obtain ⟨h1, h2⟩ := h.2 h0
  refine ⟨by rw [← run_go f h0 hd]; exact h.1, fun h3 => ?_⟩
  obtain ⟨h4, h5⟩ := next_may hn hg hl h1 hd h3
  exact ⟨h4, by rw [h5]; omega⟩
theorem RanI.out {R r : Int × StS} {f : Nat} (h : RanI n es k s R f r) (h0 : ¬ (r.1 = 0 ∧ r.2.done = false)) : R = r := by
  rw [← h.1]; exact run_end f h0
end
theorem RanI.start {n k s : Int} {es : List Ed} {m : Nat} (hm : n = m) (h : jobE n es k s = 0) : RanI m es k s (ranE n es k s) 100001 (0, beginS m) := by
  subst hm
  refine ⟨?_, fun _ => ⟨begin_may (jobE_zero h).2.1 m, by show (100001 : Int) ≤ ((100001 : Nat) : Int) + 0; omega⟩⟩
  unfold ranE
  rw [if_pos h, Int.toNat_natCast]
end Go.Proofs.YtbmkgnlfccigpaaGreat

namespace Go.Proofs.YtbmkgnlfccigpaaGreat
set_option maxRecDepth 100000
open Go.ChangeShapes Go.WideShapes Go.ChangeAt Go.RowKit

set_option maxHeartbeats 4000000 in
set_option maxRecDepth 100000 in
theorem rRun_any (v : Value) (es : List Ed) (n k s : Int) (w : World) (h : EdR w v es) :
    Calls Tryz.prog 9 #[.agg #[.int .i64 n, v, .int .i64 k, .int .i64 s]] w (StaP w (ranE n es k s)) := by
  have HR : Hid (EdR w v es) := h
  obtain ⟨a, cap, rfl, _, _, _, _⟩ := h
  have CB : Hid (∀ X, EdR X (.slice a es.length cap) es → Calls Tryz.prog 14 #[.agg #[.int .i64 n, .slice a es.length cap, .int .i64 k, .int .i64 s]] X (StaP X (begE n es k s))) := fun X hX => rBegin_any _ es n k s X hX
  have CA : Hid (∀ X (T : StS) vv vm, jobE n es k s = 0 → mayR n.toNat k T = true → EdR X (.slice a es.length cap) es → MlR X vv T.vals → LiR X vm T.mail → Calls Tryz.prog 15 #[.agg #[.int .i64 n, .slice a es.length cap, .int .i64 k, .int .i64 s], .agg #[.int .i64 T.step, .int .i64 T.phase, .bool T.fresh, .bool T.done, vv, vm]] X (StaP X (nextE n.toNat es k s T))) := fun X T vv vm hj hm h1 h2 h3 => by
    have := after_any _ es n k s T vv vm X h1 h2 h3 hj hm
    unfold folE at this
    rw [if_neg (by simp [hj])] at this
    exact this
  have HST : Hid (jobE n es k s = 0 → RanI n.toNat es k s (ranE n es k s) 100001 (0, beginS n.toNat) ∧ begE n es k s = (0, beginS n.toNat)) := fun hj => ⟨RanI.start (by have := fault_ok (jobE_zero hj).1; omega) hj, by unfold begE; rw [if_pos hj]⟩
  have HNO : Hid (jobE n es k s ≠ 0 → ranE n es k s = begE n es k s ∧ begE n es k s = (jobE n es k s, st0)) := fun hj => ⟨by unfold begE ranE; rw [if_neg hj, if_neg hj], by unfold begE; rw [if_neg hj]⟩
  have HGO : Hid (jobE n es k s = 0 → ∀ (R r : Int × StS) (f : Nat), RanI n.toNat es k s R (f + 1) r → r.1 = 0 → r.2.done = false → RanI n.toNat es k s R f (nextE n.toNat es k s r.2)) := fun hj R r f h1 h2 h3 => by
    have h5 := fault_ok (jobE_zero hj).1
    refine RanI.go (by omega) (fun e he => ?_) h5.2.2.1 h1 h2 h3
    have := in_of_out (h5.2.2.2 e he)
    omega
  generalize ranE n es k s = R at *
  obtain ⟨W0, hW0⟩ : ∃ W0, W0 = (w.alloc (.cells #[.int .i64 n, .slice a es.length cap, .int .i64 k, .int .i64 s] 35)).alloc (.cells #[.int .i64 0, .int .i64 0, .bool false, .bool false, .slice none 0 0, .slice none 0 0] 31) := ⟨_, rfl⟩
  obtain ⟨Q0, T0, B0, s1, s2⟩ := boxes2 w #[.int .i64 n, .slice a es.length cap, .int .i64 k, .int .i64 s] #[.int .i64 0, .int .i64 0, .bool false, .bool false, .slice none 0 0, .slice none 0 0] 35 31 W0 hW0
  have BH : Hid (Below w.heap.size w W0) := B0
  have HK : Hid (∀ X, Below W0.heap.size W0 X → BX 35 X w.heap.size #[.int .i64 n, .slice a es.length cap, .int .i64 k, .int .i64 s] ∧ BX 31 X (w.heap.size + 1) #[.int .i64 0, .int .i64 0, .bool false, .bool false, .slice none 0 0, .slice none 0 0] ∧ Below w.heap.size w X) := fun X hX => ⟨Q0.below hX (by omega), T0.below hX (by omega), BH.out.trans (hX.mono (by omega))⟩
  have R0 : Hid (∀ X, Below W0.heap.size W0 X → EdR X (.slice a es.length cap) es) := fun X hX => HR.out.below (HK.out _ hX).2.2 (Nat.le_refl _)
  have A0 : Hid (Below W0.heap.size W0 W0) := Below.refl _ _
  obtain ⟨q0, q1, q2, q3⟩ := Q0.all4
  have HS1 : Hid (RanI n.toNat es k s R 100001 (begE n es k s)) := by
    by_cases hj : jobE n es k s = 0
    · obtain ⟨h1, h2⟩ := HST.out hj
      show RanI _ _ _ _ _ _ _
      rw [h2]; exact h1
    · obtain ⟨h1, h2⟩ := HNO.out hj
      exact ⟨by rw [h1]; exact run_end _ (fun g => by rw [h2] at g; exact hj g.1), fun h3 => by rw [h2] at h3; exact absurd h3 hj⟩
  have HJ0 : Hid ((begE n es k s).1 = 0 → jobE n es k s = 0) := fun h => by
    by_cases hj : jobE n es k s = 0
    · exact hj
    · rw [(HNO.out hj).2] at h; exact h
  clear Q0 T0 B0 HST HNO
  obtain ⟨RB, hRB⟩ : ∃ RB, begE n es k s = RB := ⟨_, rfl⟩
  rw [hRB] at CB HS1 HJ0
  clear hRB
  go_enter Tryz.func9, Tryz.ntmps9
  go_upto_region 1 with fail
  rw [← hW0]
  clear hW0
  go_wp2_with fail
  refine (CB.out _ (R0.out _ A0.out)).mono ?_
  rintro e w1 ⟨v1, v2, rfl, hv1, hv2, hb1⟩
  obtain ⟨a1, n1, k1, rfl⟩ : ∃ a n c, v1 = .slice a n c := by
    rcases own_shapeK hv1 with ⟨e, _⟩ | ⟨g', c', e, _⟩
    · exact ⟨_, _, _, e⟩
    · exact ⟨_, _, _, e⟩
  obtain ⟨a2, k2, rfl⟩ := hv2.shape
  generalize hn2 : RB.2.mail.length = n2 at *
  have W1 : Hid (Below W0.heap.size W0 (w1.alloc (.cells #[.int .i64 RB.2.step, .int .i64 RB.2.phase, .bool RB.2.fresh, .bool RB.2.done, .slice a1 n1 k1, .slice a2 n2 k2] 31)) ∧ BX 31 (w1.alloc (.cells #[.int .i64 RB.2.step, .int .i64 RB.2.phase, .bool RB.2.fresh, .bool RB.2.done, .slice a1 n1 k1, .slice a2 n2 k2] 31)) w1.heap.size #[.int .i64 RB.2.step, .int .i64 RB.2.phase, .bool RB.2.fresh, .bool RB.2.done, .slice a1 n1 k1, .slice a2 n2 k2] ∧ (w1.alloc (.cells #[.int .i64 RB.2.step, .int .i64 RB.2.phase, .bool RB.2.fresh, .bool RB.2.done, .slice a1 n1 k1, .slice a2 n2 k2] 31)).ownsRow W0.heap.size 56 2 (.slice a1 n1 k1) RB.2.vals.length (RB.2.vals.flatMap encM) ∧ OwnLi (w1.alloc (.cells #[.int .i64 RB.2.step, .int .i64 RB.2.phase, .bool RB.2.fresh, .bool RB.2.done, .slice a1 n1 k1, .slice a2 n2 k2] 31)) W0.heap.size (.slice a2 n2 k2) RB.2.mail ∧ W0.heap.size ≤ w1.heap.size) := ⟨hb1.alloc hb1.size _, BX.new _ _ _, hv1.alloc _, hv2.below (below_alloc _ _) (Nat.le_refl _), hb1.size⟩
  clear q0 q1 q2 q3 hv1 hv2 hb1 CB hn2
  go_upto_region 2 with fail
  generalize w1.alloc (.cells #[.int .i64 RB.2.step, .int .i64 RB.2.phase, .bool RB.2.fresh, .bool RB.2.done, .slice a1 n1 k1, .slice a2 n2 k2] 31) = w2 at *
  generalize w1.heap.size = b4 at *
  obtain ⟨A2', X2', V2', M2', hb4⟩ := W1.out
  have W2 : Hid (Below W0.heap.size W0 w2 ∧ BX 31 w2 b4 #[.int .i64 RB.2.step, .int .i64 RB.2.phase, .bool RB.2.fresh, .bool RB.2.done, .slice a1 n1 k1, .slice a2 n2 k2] ∧ w2.ownsRow W0.heap.size 56 2 (.slice a1 n1 k1) RB.2.vals.length (RB.2.vals.flatMap encM) ∧ OwnLi w2 W0.heap.size (.slice a2 n2 k2) RB.2.mail) := ⟨A2', X2', V2', M2'⟩
  clear A2' X2' V2' M2' W1
  go_wp2_with fail
  go_loopg [5] 100001 (fun gk t wr => ∃ (r : Int × StS) (vv vm : Value), t = .int .i64 r.1 ∧ (∃ a n c, vv = .slice a n c) ∧ (∃ a n c, vm = .slice a n c) ∧ gk ≤ 100001 ∧ RanI n.toNat es k s R gk r ∧ (r.1 = 0 → jobE n es k s = 0) ∧ BX 31 wr b4 #[.int .i64 r.2.step, .int .i64 r.2.phase, .bool r.2.fresh, .bool r.2.done, vv, vm] ∧ wr.ownsRow W0.heap.size 56 2 vv r.2.vals.length (r.2.vals.flatMap encM) ∧ OwnLi wr W0.heap.size vm r.2.mail ∧ Below W0.heap.size W0 wr)
  case atStart =>
    obtain ⟨A2, X2, V2, M2⟩ := W2.out
    refine ⟨RB, _, _, rfl, ⟨_, _, _, rfl⟩, ⟨_, _, _, rfl⟩, Nat.le_refl _, ?_, HJ0.out, X2, V2, M2, A2⟩
    exact HS1.out
  case round =>
    obtain ⟨r, vv, vm, rfl, ⟨x1, x2, x3, rfl⟩, ⟨y1, y2, y3, rfl⟩, hgk, hri, hj0, hx, hov, hom, hbel⟩ := hrel
    have RI : Hid (RanI n.toNat es k s R gk r) := hri
    have J0 : Hid (r.1 = 0 → jobE n es k s = 0) := hj0
    have AB : Hid (Below W0.heap.size W0 wr) := hbel
    have XB : Hid (BX 31 wr b4 #[.int .i64 r.2.step, .int .i64 r.2.phase, .bool r.2.fresh, .bool r.2.done, .slice x1 x2 x3, .slice y1 y2 y3]) := hx
    have OV : Hid (wr.ownsRow W0.heap.size 56 2 (.slice x1 x2 x3) r.2.vals.length (r.2.vals.flatMap encM)) := hov
    have OM : Hid (OwnLi wr W0.heap.size (.slice y1 y2 y3) r.2.mail) := hom
    obtain ⟨Q1, Z1, hbw⟩ := HK.out _ hbel
    obtain ⟨q0, q1, q2, q3⟩ := Q1.all4
    obtain ⟨⟨c0, c1, c2, c3, c4, c5⟩, f0, f1, f2, f3, f4, f5⟩ := hx.all6
    obtain ⟨⟨d0, d1, d2, d3, d4, d5⟩, e0, e1, e2, e3, e4, e5⟩ := Z1.all6
    have BW : Hid (Below w.heap.size w wr) := hbw
    have ZZ : Hid (BX 31 wr (w.heap.size + 1) #[.int .i64 0, .int .i64 0, .bool false, .bool false, .slice none 0 0, .slice none 0 0]) := Z1
    have hsr := hbel.size
    clear hri hj0 hx hov hom hbel Q1 Z1 hbw
    by_cases hgo : r.1 = 0 ∧ r.2.done = false
    · have hj := J0.out hgo.1
      obtain ⟨f, rfl⟩ := RI.out.pos hgo.1
      have RI2 : Hid (RanI n.toNat es k s R f (nextE n.toNat es k s r.2)) := HGO.out hj R r f RI.out hgo.1 hgo.2
      have HMY := (RI.out.2 hgo.1).1
      have CA1 : Hid (∀ X, EdR X (.slice a es.length cap) es → MlR X (.slice x1 x2 x3) r.2.vals → LiR X (.slice y1 y2 y3) r.2.mail → _) := fun X h1 h2 h3 => CA.out X r.2 _ _ hj HMY h1 h2 h3
      have MV : Hid (MlR wr (.slice x1 x2 x3) r.2.vals) := RowK.own encM_len OV.out
      have MM : Hid (LiR wr (.slice y1 y2 y3) r.2.mail) := OM.out.reads
      have HJX : Hid (jobE n es k s = 0) := hj
      generalize nextE n.toNat es k s r.2 = N at *
      have t0 : (r.1 == 0) = true := by simpa using hgo.1
      rw [hgo.2] at c3 CA1
      clear hj HMY hgo RI OV OM CA HGO
      go_wp2_with fail
      refine (CA1.out _ (R0.out _ AB.out) MV.out MM.out).mono ?_
      rintro e w3 ⟨v1, v2, rfl, hv1, hv2, hb3⟩
      obtain ⟨a5, n5, k5, rfl⟩ : ∃ a n c, v1 = .slice a n c := by
        rcases own_shapeK hv1 with ⟨e, _⟩ | ⟨g', c', e, _⟩
        · exact ⟨_, _, _, e⟩
        · exact ⟨_, _, _, e⟩
      obtain ⟨a6, k6, rfl⟩ := hv2.shape
      generalize hn6 : N.2.mail.length = n6 at *
      have A3 : Below W0.heap.size W0 w3 := AB.out.trans (hb3.mono hsr)
      have X3 := XB.out.below hb3 XB.out.lt
      have XN : Hid (BX 31 (put6 w3 b4 (.int .i64 N.2.step) (.int .i64 N.2.phase) (.bool N.2.fresh) (.bool N.2.done) (.slice a5 n5 k5) (.slice a6 n6 k6)) b4 #[.int .i64 N.2.step, .int .i64 N.2.phase, .bool N.2.fresh, .bool N.2.done, .slice a5 n5 k5, .slice a6 n6 k6]) := X3.put6
      have VN : Hid ((put6 w3 b4 (.int .i64 N.2.step) (.int .i64 N.2.phase) (.bool N.2.fresh) (.bool N.2.done) (.slice a5 n5 k5) (.slice a6 n6 k6)).ownsRow W0.heap.size 56 2 (.slice a5 n5 k5) N.2.vals.length (N.2.vals.flatMap encM)) := own_lower (own_off hv1 X3 (by decide) (kept_put6 w3 b4 _ _ _ _ _ _)) hsr
      have MN : Hid (OwnLi (put6 w3 b4 (.int .i64 N.2.step) (.int .i64 N.2.phase) (.bool N.2.fresh) (.bool N.2.done) (.slice a5 n5 k5) (.slice a6 n6 k6)) W0.heap.size (.slice a6 n6 k6) N.2.mail) := (hv2.off X3 (by decide) (by decide) (kept_put6 w3 b4 _ _ _ _ _ _)).lower hsr
      have AN : Hid (Below W0.heap.size W0 (put6 w3 b4 (.int .i64 N.2.step) (.int .i64 N.2.phase) (.bool N.2.fresh) (.bool N.2.done) (.slice a5 n5 k5) (.slice a6 n6 k6))) := below_put6 A3 hb4 X3.lt _ _ _ _ _ _
      clear q0 q1 q2 q3 c0 c1 c2 c3 c4 c5 f0 f1 f2 f3 f4 f5 d0 d1 d2 d3 d4 d5 e0 e1 e2 e3 e4 e5 hn6 hv1 hv2
      obtain ⟨⟨c0, c1, c2, c3, c4, c5⟩, f0, f1, f2, f3, f4, f5⟩ := X3.all6
      clear X3 A3 hb3
      unfold put6 at XN VN MN AN
      go_wp2_with fail
      go_roundg f
      case measure => omega
      case rel => exact ⟨N, _, _, rfl, ⟨_, _, _, rfl⟩, ⟨_, _, _, rfl⟩, by omega, RI2.out, fun _ => HJX.out, XN.out, VN.out, MN.out, AN.out⟩
    · have HRE : Hid (R = r) := RI.out.out hgo
      have z2 := ZZ.out
      have RX : Hid (BX 31 (put6 wr (w.heap.size + 1) (.int .i64 r.2.step) (.int .i64 r.2.phase) (.bool r.2.fresh) (.bool r.2.done) (.slice x1 x2 x3) (.slice y1 y2 y3)) (w.heap.size + 1) #[.int .i64 r.2.step, .int .i64 r.2.phase, .bool r.2.fresh, .bool r.2.done, .slice x1 x2 x3, .slice y1 y2 y3]) := z2.put6
      have HP : Hid (StaP w R (.returned (.tuple #[.agg #[.int .i64 r.2.step, .int .i64 r.2.phase, .bool r.2.fresh, .bool r.2.done, .slice x1 x2 x3, .slice y1 y2 y3], .int .i64 r.1])) (put6 wr (w.heap.size + 1) (.int .i64 r.2.step) (.int .i64 r.2.phase) (.bool r.2.fresh) (.bool r.2.done) (.slice x1 x2 x3) (.slice y1 y2 y3))) := by
        show StaP _ _ _ _
        rw [HRE.out]
        exact ⟨_, _, rfl, own_lower (own_off OV.out z2 (by decide) (kept_put6 wr (w.heap.size + 1) _ _ _ _ _ _)) (by omega), (OM.out.off z2 (by decide) (by decide) (kept_put6 wr (w.heap.size + 1) _ _ _ _ _ _)).lower (by omega), below_put6 BW.out (by omega) z2.lt _ _ _ _ _ _⟩
      clear z2
      by_cases h1 : r.1 = 0
      · have t0 : (r.1 == 0) = true := by simpa using h1
        have hd : r.2.done = true := by
          cases hdn : r.2.done
          · exact absurd ⟨h1, hdn⟩ hgo
          · rfl
        rw [hd] at c3 RX HP
        clear hgo h1 hd CA HGO
        go_wp2_with fail
        obtain ⟨⟨r0, r1, r2, r3, r4, r5⟩, _⟩ := RX.out.all6
        unfold put6 at r0 r1 r2 r3 r4 r5
        exact bodyPost_ret (v := .tuple #[.agg #[.int .i64 r.2.step, .int .i64 r.2.phase, .bool r.2.fresh, .bool true, .slice x1 x2 x3, .slice y1 y2 y3], .int .i64 r.1]) (by simp [results, Tryz.results9, go_sem, r0, r1, r2, r3, r4, r5]) rfl HP.out
      · have t0 : (r.1 == 0) = false := by simpa using h1
        clear hgo h1 CA HGO
        go_wp2_with fail
        obtain ⟨⟨r0, r1, r2, r3, r4, r5⟩, _⟩ := RX.out.all6
        unfold put6 at r0 r1 r2 r3 r4 r5
        exact bodyPost_ret (v := .tuple #[.agg #[.int .i64 r.2.step, .int .i64 r.2.phase, .bool r.2.fresh, .bool r.2.done, .slice x1 x2 x3, .slice y1 y2 y3], .int .i64 r.1]) (by simp [results, Tryz.results9, go_sem, r0, r1, r2, r3, r4, r5]) rfl HP.out
end Go.Proofs.YtbmkgnlfccigpaaGreat

namespace Go.Proofs.YtbmkgnlfccigpaaGreat
set_option maxRecDepth 100000
open Go.ChangeShapes Go.WideShapes Go.ChangeAt Go.RowKit

/-- Which error. -/
def staE (n : Int) (es : List Ed) (k s : Int) (T : StS) : Int := if jobE n es k s ≠ 0 then jobE n es k s else if mayR n.toNat k T then 0 else 9

set_option maxHeartbeats 2000000 in
set_option maxRecDepth 100000 in
theorem rState_any (v : Value) (es : List Ed) (n k s : Int) (T : StS) (vv vm : Value) (w : World) (h : EdR w v es) (hv : MlR w vv T.vals) (hm : LiR w vm T.mail) :
    Calls Tryz.prog 16 #[.agg #[.int .i64 n, v, .int .i64 k, .int .i64 s], .agg #[.int .i64 T.step, .int .i64 T.phase, .bool T.fresh, .bool T.done, vv, vm]] w fun e w' => e = .returned (.int .i64 (staE n es k s T)) ∧ Below w.heap.size w w' := by
  have HR : Hid (EdR w v es) := h
  obtain ⟨a, cap, rfl, _, _, _, _⟩ := h
  have HCK : Hid (∀ X, EdR X (.slice a es.length cap) es → Calls Tryz.prog 21 #[.agg #[.int .i64 n, .slice a es.length cap, .int .i64 k, .int .i64 s]] X fun e w' => e = .returned (.int .i64 (jobE n es k s)) ∧ Below X.heap.size X w') := fun X hX => rCheck_any _ es n k s X hX
  have HV : Hid (MlR w vv T.vals) := hv
  have HM : Hid (LiR w vm T.mail) := hm
  obtain ⟨va, vc, rfl, hvc, hvm, _, _⟩ := hv
  obtain ⟨ma, mc, rfl, hmc, hmm, _⟩ := hm
  have HSM : Hid (∀ X, jobE n es k s = 0 → MlR X (.slice va T.vals.length vc) T.vals → LiR X (.slice ma T.mail.length mc) T.mail → Calls Tryz.prog 27 #[.agg #[.int .i64 n, .slice a es.length cap, .int .i64 k, .int .i64 s], .agg #[.int .i64 T.step, .int .i64 T.phase, .bool T.fresh, .bool T.done, .slice va T.vals.length vc, .slice ma T.mail.length mc]] X fun e w' => e = .returned (.bool (mayR n.toNat k T)) ∧ Below X.heap.size X w') := fun X hj h1 h2 => by
    obtain ⟨hf, _, _⟩ := jobE_zero hj
    obtain ⟨hn0, hn1, _, _⟩ := fault_ok hf
    obtain ⟨m, rfl⟩ : ∃ m : Nat, n = m := ⟨n.toNat, by omega⟩
    rw [Int.toNat_natCast]
    exact rMay_any a es.length cap m k s T _ _ X h1 h2 (by omega)
  have HE1 : Hid (jobE n es k s ≠ 0 → staE n es k s T = jobE n es k s) := fun h => if_pos h
  have HE2 : Hid (jobE n es k s = 0 → staE n es k s T = if mayR n.toNat k T then 0 else 9) := fun h => if_neg (by simp [h])
  generalize staE n es k s T = R at *
  generalize mayR n.toNat k T = mr at *
  obtain ⟨step, phase, fr, dn, vs, ms⟩ := T
  simp only at HV HM hvc hvm hmc hmm HSM HE1 HE2 ⊢
  obtain ⟨W0, hW0⟩ : ∃ W0, W0 = (w.alloc (.cells #[.int .i64 n, .slice a es.length cap, .int .i64 k, .int .i64 s] 35)).alloc (.cells #[.int .i64 step, .int .i64 phase, .bool fr, .bool dn, .slice va vs.length vc, .slice ma ms.length mc] 31) := ⟨_, rfl⟩
  obtain ⟨Q0, T0, B0, s1, s2⟩ := boxes2 w #[.int .i64 n, .slice a es.length cap, .int .i64 k, .int .i64 s] #[.int .i64 step, .int .i64 phase, .bool fr, .bool dn, .slice va vs.length vc, .slice ma ms.length mc] 35 31 W0 hW0
  have BH : Hid (Below w.heap.size w W0) := B0
  have HK : Hid (∀ X, Below W0.heap.size W0 X → BX 35 X w.heap.size #[.int .i64 n, .slice a es.length cap, .int .i64 k, .int .i64 s] ∧ BX 31 X (w.heap.size + 1) #[.int .i64 step, .int .i64 phase, .bool fr, .bool dn, .slice va vs.length vc, .slice ma ms.length mc] ∧ Below w.heap.size w X) := fun X hX => ⟨Q0.below hX (by omega), T0.below hX (by omega), BH.out.trans (hX.mono (by omega))⟩
  have R0 : Hid (EdR W0 (.slice a es.length cap) es) := HR.out.below BH.out (Nat.le_refl _)
  have HVX : Hid (∀ X, Below W0.heap.size W0 X → MlR X (.slice va vs.length vc) vs ∧ LiR X (.slice ma ms.length mc) ms) := fun X hX => ⟨HV.out.below (HK.out _ hX).2.2 (Nat.le_refl _), HM.out.below (HK.out _ hX).2.2 (Nat.le_refl _)⟩
  obtain ⟨q0, q1, q2, q3⟩ := Q0.all4
  clear Q0 T0 B0
  by_cases hj : jobE n es k s = 0
  · have HSX : Hid (∀ X, Below W0.heap.size W0 X → _) := fun X hX => HSM.out X hj (HVX.out X hX).1 (HVX.out X hX).2
    have HE : Hid (R = if mr then 0 else 9) := HE2.out hj
    rw [hj] at HCK
    clear hj HE1 HE2 HSM
    go_enter Tryz.func16, Tryz.ntmps16
    go_upto_region 1 with fail
    rw [← hW0]
    clear hW0
    go_wp2_with fail
    refine (HCK.out _ R0.out).mono ?_
    rintro e w1 ⟨rfl, hb1⟩
    have A1 : Hid (Below W0.heap.size W0 w1) := hb1
    clear q0 q1 q2 q3 HCK hb1
    obtain ⟨Q1, T1, _⟩ := HK.out _ A1.out
    obtain ⟨q0, q1, q2, q3⟩ := Q1.all4
    obtain ⟨⟨c0, c1, c2, c3, c4, c5⟩, _⟩ := T1.all6
    have hs1 := A1.out.size
    clear Q1 T1
    go_wp2_with fail
    refine (HSX.out _ A1.out).mono ?_
    rintro e w2 ⟨rfl, hb2⟩
    have A2 : Hid (Below w.heap.size w w2) := (HK.out _ (A1.out.trans (hb2.mono hs1))).2.2
    clear q0 q1 q2 q3 c0 c1 c2 c3 c4 c5 hb2 HSX
    cases mr
    · go_wp2_with fail
      go_ret
      exact ⟨by rw [HE.out]; rfl, A2.out⟩
    · go_wp2_with fail
      go_ret
      exact ⟨by rw [HE.out]; rfl, A2.out⟩
  · have HE : Hid (R = jobE n es k s) := HE1.out hj
    generalize jobE n es k s = je at *
    have t0 : (je != 0) = true := by simpa using hj
    clear hj HE1 HE2 HSM
    go_enter Tryz.func16, Tryz.ntmps16
    go_upto_region 1 with fail
    rw [← hW0]
    clear hW0
    go_wp2_with fail
    refine (HCK.out _ R0.out).mono ?_
    rintro e w1 ⟨rfl, hb1⟩
    have BW : Hid (Below w.heap.size w w1) := (HK.out _ hb1).2.2
    clear hb1 q0 q1 q2 q3 HCK
    go_wp2_with fail
    go_ret
    exact ⟨by rw [HE.out]; rfl, BW.out⟩
end Go.Proofs.YtbmkgnlfccigpaaGreat

namespace Go.Proofs.YtbmkgnlfccigpaaGreat
set_option maxRecDepth 100000
open Go.ChangeShapes Go.WideShapes Go.ChangeAt Go.RowKit

theorem made_zero (m : Nat) : (madeCells (Value.int .i64 0).cells (m * 1)).toList = (List.replicate m (0 : Int)).flatMap encI := by
  rw [flatI]
  simp [madeCells, Value.cells]
  refine List.ext_getElem? fun v => ?_
  rcases Nat.lt_or_ge v m with hv | hv
  · rw [List.getElem?_map, List.getElem?_range hv, List.getElem?_replicate, if_pos hv]
    simp [Nat.mod_one]
  · rw [List.getElem?_eq_none (by simpa using hv), List.getElem?_eq_none (by simpa using hv)]
/-- make([]int, m). -/
theorem make_ints (w : World) (m : Nat) (hm : m ≤ 1000000) :
    ∃ w', (Instr.makeSlice 27 (.int .i64 (m : Int)) (.int .i64 (m : Int))).run Tryz.prog w = .ok (.slice (some ⟨w.heap.size, 0, none⟩) m m) w' ∧
      w'.ownsRow w.heap.size 3 1 (.slice (some ⟨w.heap.size, 0, none⟩) m m) m ((List.replicate m (0 : Int)).flatMap encI) ∧ Below w.heap.size w w' := by
  obtain ⟨i0, hi, hz0, hz1, hz2⟩ := info_parts Tryz.info3
  obtain ⟨w', h1, h2, h3⟩ := run_makeSlice_full (P := Tryz.prog) w w.heap.size 27 3 i0 (.int .i64 0) 1 Tryz.underlying27 hi hz0 hz1 .i64 .i64 m (by omega) (by rw [hz2]; omega) (by unfold maxLen; omega) (Nat.le_refl _)
  rw [made_zero] at h2
  exact ⟨w', h1, h2, (Below.refl _ _).grown h3 (Nat.le_refl _) (fun k hk => by cases hk)⟩
end Go.Proofs.YtbmkgnlfccigpaaGreat

namespace Go.Proofs.YtbmkgnlfccigpaaGreat
set_option maxRecDepth 100000
open Go.ChangeShapes Go.WideShapes Go.ChangeAt Go.RowKit

theorem ansE_not {n k s : Int} {es : List Ed} {T : StS} (h : staE n es k s T ≠ 0) : ansE n es k s T = (staE n es k s T, []) := by
  unfold ansE
  by_cases h1 : jobE n es k s = 0
  · rw [if_neg (by simp [h1])]
    have e : staE n es k s T = if mayR n.toNat k T then 0 else 9 := by unfold staE; rw [if_neg (by simp [h1])]
    cases h2 : mayR n.toNat k T
    · rw [e, h2]; rfl
    · rw [e, h2] at h; exact absurd rfl h
  · have e : staE n es k s T = jobE n es k s := by unfold staE; rw [if_pos h1]
    rw [if_pos h1, e]
theorem staE_fine {n k s : Int} {es : List Ed} {T : StS} (h : staE n es k s T = 0) : jobE n es k s = 0 ∧ mayR n.toNat k T = true := by
  unfold staE at h
  by_cases h1 : jobE n es k s = 0
  · rw [if_neg (by simp [h1])] at h
    refine ⟨h1, ?_⟩
    cases h2 : mayR n.toNat k T
    · rw [h2] at h; simp at h
    · rfl
  · rw [if_pos h1] at h; exact absurd h h1
/-- The numbers, as far as they are told. -/
def anP (k : Int) (vs : List Ml) (c : Nat) : List Int := (vs.map (tellV k)).take c ++ List.replicate (vs.length - c) 0
theorem anP_len {k : Int} {vs : List Ml} {c : Nat} (h : c ≤ vs.length) : (anP k vs c).length = vs.length := by simp [anP]; omega
theorem anP_zero (k : Int) (vs : List Ml) : anP k vs 0 = List.replicate vs.length 0 := by simp [anP]
theorem anP_all (k : Int) (vs : List Ml) : anP k vs vs.length = vs.map (tellV k) := by
  unfold anP
  rw [List.take_of_length_le (by simp)]
  simp
theorem anP_set {k : Int} {vs : List Ml} {c : Nat} {x : Ml} (h : vs[c]? = some x) : anP k vs (c + 1) = (anP k vs c).set c (tellV k x) := by
  have hc := (List.getElem?_eq_some_iff.1 h).1
  unfold anP
  rw [take_snoc (show (vs.map (tellV k))[c]? = some (tellV k x) by rw [List.getElem?_map, h]; rfl), List.append_assoc, show vs.length - c = (vs.length - (c + 1)) + 1 by omega, List.replicate_succ, List.set_append_right _ _ (by simp; omega)]
  simp [Nat.min_eq_left (Nat.le_of_lt hc)]

set_option maxHeartbeats 4000000 in
set_option maxRecDepth 100000 in
theorem rAnswer_any (v : Value) (es : List Ed) (n k s : Int) (T : StS) (vv vm : Value) (w : World) (h : EdR w v es) (hv : MlR w vv T.vals) (hm : LiR w vm T.mail) :
    Calls Tryz.prog 10 #[.agg #[.int .i64 n, v, .int .i64 k, .int .i64 s], .agg #[.int .i64 T.step, .int .i64 T.phase, .bool T.fresh, .bool T.done, vv, vm]] w (NumP w (ansE n es k s T)) := by
  have HR : Hid (EdR w v es) := h
  obtain ⟨a, cap, rfl, _, _, _, _⟩ := h
  have HV : Hid (MlR w vv T.vals) := hv
  have HM : Hid (LiR w vm T.mail) := hm
  obtain ⟨va, vc, rfl, hvc, hvm, _, _⟩ := hv
  obtain ⟨ma, mc, rfl, hmc, hmm, _⟩ := hm
  unfold maxLen at hvm hmm
  have CS : Hid (∀ X, EdR X (.slice a es.length cap) es → MlR X (.slice va T.vals.length vc) T.vals → LiR X (.slice ma T.mail.length mc) T.mail → Calls Tryz.prog 16 #[.agg #[.int .i64 n, .slice a es.length cap, .int .i64 k, .int .i64 s], .agg #[.int .i64 T.step, .int .i64 T.phase, .bool T.fresh, .bool T.done, .slice va T.vals.length vc, .slice ma T.mail.length mc]] X fun e w' => e = .returned (.int .i64 (staE n es k s T)) ∧ Below X.heap.size X w') := fun X h1 h2 h3 => rState_any _ es n k s T _ _ X h1 h2 h3
  have HNE : Hid (staE n es k s T ≠ 0 → ansE n es k s T = (staE n es k s T, [])) := ansE_not
  have HWT : Hid (staE n es k s T = 0 → T.done = false → ansE n es k s T = (12, [])) := fun h h2 => by
    obtain ⟨h3, h4⟩ := staE_fine h
    unfold ansE; rw [if_neg (by simp [h3]), if_neg (by simp [h4]), if_pos h2]
  have HYE : Hid (staE n es k s T = 0 → T.done = true → ansE n es k s T = (0, T.vals.map (tellV k))) := fun h h2 => by
    obtain ⟨h3, h4⟩ := staE_fine h
    unfold ansE; rw [if_neg (by simp [h3]), if_neg (by simp [h4]), if_neg (by simp [h2])]
  have HSZ : Hid (staE n es k s T = 0 → T.vals.length ≤ 200) := fun h => by
    obtain ⟨h3, h4⟩ := staE_fine h
    have h5 := (mayR_size h4).1
    have h6 := fault_ok (jobE_zero h3).1
    omega
  generalize ansE n es k s T = R at *
  generalize staE n es k s T = se at *
  obtain ⟨step, phase, fr, dn, vs, ms⟩ := T
  simp only at HV HM hvc hvm hmc hmm CS HWT HYE HSZ ⊢
  obtain ⟨W0, hW0⟩ : ∃ W0, W0 = (w.alloc (.cells #[.int .i64 n, .slice a es.length cap, .int .i64 k, .int .i64 s] 35)).alloc (.cells #[.int .i64 step, .int .i64 phase, .bool fr, .bool dn, .slice va vs.length vc, .slice ma ms.length mc] 31) := ⟨_, rfl⟩
  obtain ⟨Q0, T0, B0, s1, s2⟩ := boxes2 w #[.int .i64 n, .slice a es.length cap, .int .i64 k, .int .i64 s] #[.int .i64 step, .int .i64 phase, .bool fr, .bool dn, .slice va vs.length vc, .slice ma ms.length mc] 35 31 W0 hW0
  have BH : Hid (Below w.heap.size w W0) := B0
  have HK : Hid (∀ X, Below W0.heap.size W0 X → BX 35 X w.heap.size #[.int .i64 n, .slice a es.length cap, .int .i64 k, .int .i64 s] ∧ BX 31 X (w.heap.size + 1) #[.int .i64 step, .int .i64 phase, .bool fr, .bool dn, .slice va vs.length vc, .slice ma ms.length mc] ∧ Below w.heap.size w X) := fun X hX => ⟨Q0.below hX (by omega), T0.below hX (by omega), BH.out.trans (hX.mono (by omega))⟩
  have R0 : Hid (∀ X, Below W0.heap.size W0 X → EdR X (.slice a es.length cap) es ∧ MlR X (.slice va vs.length vc) vs ∧ LiR X (.slice ma ms.length mc) ms) := fun X hX => ⟨HR.out.below (HK.out _ hX).2.2 (Nat.le_refl _), HV.out.below (HK.out _ hX).2.2 (Nat.le_refl _), HM.out.below (HK.out _ hX).2.2 (Nat.le_refl _)⟩
  have A0 : Hid (Below W0.heap.size W0 W0) := Below.refl _ _
  have CS0 : Hid (∀ X, Below W0.heap.size W0 X → _) := fun X hX => CS.out X (R0.out X hX).1 (R0.out X hX).2.1 (R0.out X hX).2.2
  obtain ⟨q0, q1, q2, q3⟩ := Q0.all4
  obtain ⟨⟨c0, c1, c2, c3, c4, c5⟩, _⟩ := T0.all6
  clear Q0 T0 B0 CS
  by_cases h0 : se = 0
  · have hsz := HSZ.out h0
    have HW2 : Hid (dn = false → R = (12, [])) := HWT.out h0
    have HY2 : Hid (dn = true → R = (0, vs.map (tellV k))) := HYE.out h0
    rw [h0] at CS0
    clear h0 HNE HWT HYE HSZ
    go_enter Tryz.func10, Tryz.ntmps10
    go_upto_region 1 with fail
    rw [← hW0]
    clear hW0
    go_wp2_with fail
    refine (CS0.out _ A0.out).mono ?_
    rintro e w1 ⟨rfl, hb1⟩
    have A1 : Hid (Below W0.heap.size W0 w1) := hb1
    obtain ⟨Q1, T1, hbw⟩ := HK.out _ hb1
    have BW : Hid (Below w.heap.size w w1) := hbw
    clear q0 q1 q2 q3 c0 c1 c2 c3 c4 c5 hb1 CS0
    obtain ⟨q0, q1, q2, q3⟩ := Q1.all4
    obtain ⟨⟨c0, c1, c2, c3, c4, c5⟩, _⟩ := T1.all6
    clear Q1 T1 hbw
    cases dn
    · have HP : Hid (NumP w R (.returned (.tuple #[.slice none 0 0, .int .i64 12])) w1) := by
        show NumP _ _ _ _
        rw [HW2.out rfl]
        exact NumP.no BW.out
      go_wp2_with fail
      exact bodyPost_ret (v := .tuple #[.slice none 0 0, .int .i64 12]) (by simp [results, Tryz.results10, go_sem]) rfl HP.out
    · have HRR : Hid (R = (0, vs.map (tellV k))) := HY2.out rfl
      obtain ⟨w2, hmk, hon, hb2⟩ := make_ints w1 vs.length (by omega)
      have A2 : Hid (Below W0.heap.size W0 w2) := A1.out.trans (hb2.mono A1.out.size)
      have ON : Hid (w2.ownsRow W0.heap.size 3 1 (.slice (some ⟨w1.heap.size, 0, none⟩) vs.length vs.length) vs.length ((anP k vs 0).flatMap encI)) := by
        show World.ownsRow _ _ _ _ _ _ _
        rw [anP_zero]; exact own_lower hon A1.out.size
      obtain ⟨_, T2, _⟩ := HK.out _ A2.out
      obtain ⟨⟨m0, m1, m2, m3, m4, m5⟩, _⟩ := T2.all6
      generalize hg0 : w1.heap.size = g at *
      clear HW2 HY2 hon hb2 T2 hg0
      go_wp2_with fail
      clear q0 q1 q2 q3 c0 c1 c2 c3 c4 c5 m0 m1 m2 m3 m4 m5 hmk
      go_loopw [26] (fun i wr => ∃ c : Nat, c ≤ vs.length ∧ i = .int .i64 c ∧ wr.ownsRow W0.heap.size 3 1 (.slice (some ⟨g, 0, none⟩) vs.length vs.length) vs.length ((anP k vs c).flatMap encI) ∧ Below W0.heap.size W0 wr) (fun i _ => vs.length - (intOf i).toNat)
      case atStart => exact ⟨0, by omega, rfl, ON.out, A2.out⟩
      case round =>
        obtain ⟨c, hc, rfl, hown, hbel⟩ := hrel
        have OW : Hid (wr.ownsRow W0.heap.size 3 1 (.slice (some ⟨g, 0, none⟩) vs.length vs.length) vs.length ((anP k vs c).flatMap encI)) := hown
        have AB : Hid (Below W0.heap.size W0 wr) := hbel
        have hsr := hbel.size
        clear hown hbel ON A2 A1
        by_cases hlt : c < vs.length
        · obtain ⟨b1, o1, cap1, e1, lt1, hv1⟩ := MlR.read (R0.out _ AB.out).2.1 (by omega)
          injection e1 with e1 _ e3
          subst e1 e3
          obtain ⟨x, hx⟩ := getX hlt
          obtain ⟨d0, d1⟩ := hv1 c x hx
          have hgl := OW.out.lt g rfl
          have HNX : Hid (anP k vs (c + 1) = (anP k vs c).set c (tellV k x)) := anP_set hx
          obtain ⟨y, hy⟩ := getX (show c < (anP k vs c).length by rw [anP_len hc]; exact hlt)
          have p0 : (0 : Int) ≤ (c : Int) := by omega
          have p1 : (c : Int) < (vs.length : Int) := by omega
          obtain ⟨w3, hw3⟩ : ∃ w3, w3 = wr.alloc (.cells #[.int .i64 x.1, .int .i64 x.2] 56) := ⟨_, rfl⟩
          have X3 : BX 56 w3 wr.heap.size #[.int .i64 x.1, .int .i64 x.2] := by rw [hw3]; exact BX.new _ _ _
          have ba : Below wr.heap.size wr w3 := by rw [hw3]; exact below_alloc _ _
          have A3 : Hid (Below W0.heap.size W0 w3) := AB.out.trans (ba.mono hsr)
          have O3 : Hid (w3.ownsRow W0.heap.size 3 1 (.slice (some ⟨g, 0, none⟩) vs.length vs.length) vs.length ((anP k vs c).flatMap encI)) := own_below OW.out ba (Nat.le_refl _)
          obtain ⟨z0, z1, _⟩ := X3.all2
          have k0 := own_atN O3.out hy
          have f0 := frozenK O3.out c
          obtain ⟨w4, hw4⟩ : ∃ w4, w4 = w3.setCell ⟨g, c, none⟩ (.int .i64 x.1) := ⟨_, rfl⟩
          have kp4 : Kept (fun k => k = g) w3 w4 := by rw [hw4]; exact Kept.box _ _ _ _
          have A4 : Hid (Below W0.heap.size W0 w4) := by show Below _ _ _; rw [hw4]; exact A3.out.setCell (p := ⟨g, c, none⟩) hgl.1 _
          have O4 : Hid (w4.ownsRow W0.heap.size 3 1 (.slice (some ⟨g, 0, none⟩) vs.length vs.length) vs.length (((anP k vs c).set c x.1).flatMap encI)) := by show World.ownsRow _ _ _ _ _ _ _; rw [hw4]; exact own_setN O3.out
          have X4 := X3.kept kp4 (by omega)
          obtain ⟨y0, y1, _⟩ := X4.all2
          have HW4 : Hid (w4 = w3.setCell ⟨g, c, none⟩ (.int .i64 x.1)) := hw4
          clear hv1 hx hy hw4 X3 X4
          go_upto_region 10 with fail
          rw [← hw3]
          clear hw3
          go_upto_region 11 with fail
          rw [← HW4.out]
          clear HW4 z0 z1 k0 f0 d0 d1 kp4 ba
          obtain ⟨Q4, _, _⟩ := HK.out _ A4.out
          obtain ⟨q0, q1, q2, q3⟩ := Q4.all4
          clear Q4
          by_cases hk3 : k = 3
          · have ht : tellV k x = x.2 := by unfold tellV; rw [if_pos hk3]
            rw [ht] at HNX
            have t3 : (k == 3) = true := by simpa using hk3
            have hcl : c < ((anP k vs c).set c x.1).length := by rw [List.length_set, anP_len hc]; exact hlt
            have k0 := own_atN O4.out (List.getElem?_eq_getElem hcl)
            have f0 := frozenK O4.out c
            have O5 : Hid ((w4.setCell ⟨g, c, none⟩ (.int .i64 x.2)).ownsRow W0.heap.size 3 1 (.slice (some ⟨g, 0, none⟩) vs.length vs.length) vs.length ((anP k vs (c + 1)).flatMap encI)) := by
              show World.ownsRow _ _ _ _ _ _ _
              have := own_setN (j := c) (x := x.2) O4.out
              rw [List.set_set] at this
              rw [HNX.out]; exact this
            have A5 : Hid (Below W0.heap.size W0 (w4.setCell ⟨g, c, none⟩ (.int .i64 x.2))) := A4.out.setCell (p := ⟨g, c, none⟩) hgl.1 _
            clear ht hk3
            go_wp2_with fail
            go_roundw
            case rel => exact ⟨c + 1, by omega, by go_num, O5.out, A5.out⟩
            case measure => simp [intOf]; omega
          · have ht : tellV k x = x.1 := by unfold tellV; rw [if_neg hk3]
            rw [ht] at HNX
            have t3 : (k == 3) = false := by simpa using hk3
            have O5 : Hid (w4.ownsRow W0.heap.size 3 1 (.slice (some ⟨g, 0, none⟩) vs.length vs.length) vs.length ((anP k vs (c + 1)).flatMap encI)) := by
              show World.ownsRow _ _ _ _ _ _ _
              rw [HNX.out]; exact O4.out
            clear ht hk3
            go_wp2_with fail
            go_roundw
            case rel => exact ⟨c + 1, by omega, by go_num, O5.out, A4.out⟩
            case measure => simp [intOf]; omega
        · have ec : c = vs.length := by omega
          have OE : Hid (wr.ownsRow w.heap.size 3 1 (.slice (some ⟨g, 0, none⟩) vs.length vs.length) (vs.map (tellV k)).length ((vs.map (tellV k)).flatMap encI)) := by
            have := OW.out
            rw [ec, anP_all] at this
            rw [List.length_map]
            exact own_lower this (by omega)
          have BE : Hid (Below w.heap.size w wr) := (HK.out _ AB.out).2.2
          have HP : Hid (NumP w R (.returned (.tuple #[.slice (some ⟨g, 0, none⟩) vs.length vs.length, .int .i64 0])) wr) := by
            show NumP _ _ _ _
            rw [HRR.out]
            exact ⟨_, rfl, OE.out, BE.out⟩
          clear ec
          go_wp2_with fail
          exact bodyPost_ret (v := .tuple #[.slice (some ⟨g, 0, none⟩) vs.length vs.length, .int .i64 0]) (by simp [results, Tryz.results10, go_sem]) rfl HP.out
  · have HRE : Hid (R = (se, [])) := HNE.out h0
    have t0 : (se != 0) = true := by simpa using h0
    clear h0 HNE HWT HYE HSZ
    go_enter Tryz.func10, Tryz.ntmps10
    go_upto_region 1 with fail
    rw [← hW0]
    clear hW0
    go_wp2_with fail
    refine (CS0.out _ A0.out).mono ?_
    rintro e w1 ⟨rfl, hb1⟩
    obtain ⟨_, _, b1⟩ := HK.out _ hb1
    have HP : Hid (NumP w R (.returned (.tuple #[.slice none 0 0, .int .i64 se])) w1) := by
      show NumP _ _ _ _
      rw [HRE.out]
      exact NumP.no b1
    clear hb1 q0 q1 q2 q3 c0 c1 c2 c3 c4 c5 CS0 b1
    go_wp2_with fail
    exact bodyPost_ret (v := .tuple #[.slice none 0 0, .int .i64 se]) (by simp [results, Tryz.results10, go_sem]) rfl HP.out
end Go.Proofs.YtbmkgnlfccigpaaGreat

namespace Go.Proofs.YtbmkgnlfccigpaaGreat
set_option maxRecDepth 100000

/-- How a job's run ends: all is well, and it is done. -/
structure RanT (n : Int) (es : List Ed) (k s : Int) (T : StS) : Prop where
  job : jobE n es k s = 0
  ran : ranE n es k s = (0, T)
  may : mayR n.toNat k T = true
  done : T.done = true
theorem ranT_of {m i : Nat} {es : List Ed} {k s : Int} {T : StS} (hj : jobE (m : Int) es k s = 0) (hg : InG m es) (hG : GoesR m es k s i (beginS m) T) (hi : i ≤ 100000) (hd : T.done = true) : RanT (m : Int) es k s T := by
  obtain ⟨hf, hk, _⟩ := jobE_zero hj
  have h5 := fault_ok hf
  obtain ⟨h1, h2, _⟩ := goes_run (s := s) (by omega) hg h5.2.2.1 i (100001 - i) (beginS m) T hG (begin_may hk m) (by show (0 : Int) + i ≤ 100000; omega)
  rw [show 100001 - i + i = 100001 by omega, runE_done _ hd] at h1
  refine ⟨hj, ?_, by rw [Int.toNat_natCast]; exact h2, hd⟩
  unfold ranE
  rw [if_pos hj, Int.toNat_natCast]
  exact h1
theorem tell_fst {k : Int} (hk : k ≠ 3) (l : List Ml) : l.map (tellV k) = l.map fun x => x.1 := List.map_congr_left fun x _ => by unfold tellV; rw [if_neg hk]
theorem tell_snd (l : List Ml) : l.map (tellV 3) = l.map fun x => x.2 := List.map_congr_left fun x _ => by unfold tellV; rw [if_pos rfl]
end Go.Proofs.YtbmkgnlfccigpaaGreat

namespace Go.Proofs.YtbmkgnlfccigpaaGreat
set_option maxRecDepth 100000
open Go.ChangeShapes Go.WideShapes Go.ChangeAt Go.RowKit

set_option maxHeartbeats 2000000 in
set_option maxRecDepth 100000 in
theorem kran_any (v : Value) (es : List Ed) (n k s : Int) (T : StS) (w : World) (h : EdR w v es) (hT : RanT n es k s T) :
    Calls Tryz.prog 5 #[.agg #[.int .i64 n, v, .int .i64 k, .int .i64 s]] w fun e w' => ∃ la lc a1 n1 k1 a2 n2 k2, e = .returned (.tuple #[.slice la (T.vals.map (tellV k)).length lc, .agg #[.int .i64 T.step, .int .i64 T.phase, .bool T.fresh, .bool true, .slice a1 n1 k1, .slice a2 n2 k2], .bool true]) ∧ InR w' (.slice la (T.vals.map (tellV k)).length lc) (T.vals.map (tellV k)) ∧ Below w.heap.size w w' := by
  have HR : Hid (EdR w v es) := h
  obtain ⟨a, cap, rfl, _, _, _, _⟩ := h
  have CR : Hid (∀ X, EdR X (.slice a es.length cap) es → Calls Tryz.prog 9 #[.agg #[.int .i64 n, .slice a es.length cap, .int .i64 k, .int .i64 s]] X (StaP X (0, T))) := fun X hX => by
    have := rRun_any _ es n k s X hX
    rw [hT.ran] at this
    exact this
  have CA : Hid (∀ X vv vm, EdR X (.slice a es.length cap) es → MlR X vv T.vals → LiR X vm T.mail → Calls Tryz.prog 10 #[.agg #[.int .i64 n, .slice a es.length cap, .int .i64 k, .int .i64 s], .agg #[.int .i64 T.step, .int .i64 T.phase, .bool T.fresh, .bool T.done, vv, vm]] X (NumP X (0, T.vals.map (tellV k)))) := fun X vv vm h1 h2 h3 => by
    have h4 := rAnswer_any _ es n k s T vv vm X h1 h2 h3
    have h5 : ansE n es k s T = (0, T.vals.map (tellV k)) := by
      unfold ansE; rw [if_neg (by simp [hT.job]), if_neg (by simp [hT.may]), if_neg (by simp [hT.done])]
    rw [h5] at h4
    exact h4
  have hdn := hT.done
  clear hT
  obtain ⟨step, phase, fr, dn, vs, ms⟩ := T
  simp only at CR CA hdn ⊢
  subst hdn
  generalize hvl : vs.map (tellV k) = ls at *
  clear hvl
  obtain ⟨W0, hW0⟩ : ∃ W0, W0 = (w.alloc (.cells #[.int .i64 n, .slice a es.length cap, .int .i64 k, .int .i64 s] 35)).alloc (.cells #[.int .i64 0, .int .i64 0, .bool false, .bool false, .slice none 0 0, .slice none 0 0] 31) := ⟨_, rfl⟩
  obtain ⟨Q0, T0, B0, s1, s2⟩ := boxes2 w #[.int .i64 n, .slice a es.length cap, .int .i64 k, .int .i64 s] #[.int .i64 0, .int .i64 0, .bool false, .bool false, .slice none 0 0, .slice none 0 0] 35 31 W0 hW0
  have BH : Hid (Below w.heap.size w W0) := B0
  have HK : Hid (∀ X, Below W0.heap.size W0 X → BX 35 X w.heap.size #[.int .i64 n, .slice a es.length cap, .int .i64 k, .int .i64 s] ∧ BX 31 X (w.heap.size + 1) #[.int .i64 0, .int .i64 0, .bool false, .bool false, .slice none 0 0, .slice none 0 0] ∧ Below w.heap.size w X) := fun X hX => ⟨Q0.below hX (by omega), T0.below hX (by omega), BH.out.trans (hX.mono (by omega))⟩
  have R0 : Hid (∀ X, Below W0.heap.size W0 X → EdR X (.slice a es.length cap) es) := fun X hX => HR.out.below (HK.out _ hX).2.2 (Nat.le_refl _)
  have A0 : Hid (Below W0.heap.size W0 W0) := Below.refl _ _
  obtain ⟨q0, q1, q2, q3⟩ := Q0.all4
  clear Q0 T0 B0
  go_enter Tryz.func5, Tryz.ntmps5
  go_upto_region 1 with fail
  rw [← hW0]
  clear hW0
  go_wp2_with fail
  refine (CR.out _ (R0.out _ A0.out)).mono ?_
  rintro e w1 ⟨v1, v2, rfl, hv1, hv2, hb1⟩
  simp only at hv1 hv2
  obtain ⟨a1, n1, k1, rfl⟩ : ∃ a n c, v1 = .slice a n c := by
    rcases own_shapeK hv1 with ⟨e, _⟩ | ⟨g', c', e, _⟩
    · exact ⟨_, _, _, e⟩
    · exact ⟨_, _, _, e⟩
  obtain ⟨a2, k2, rfl⟩ := hv2.shape
  generalize hn2 : ms.length = n2 at *
  have W1 : Hid (Below W0.heap.size W0 (w1.alloc (.cells #[.int .i64 step, .int .i64 phase, .bool fr, .bool true, .slice a1 n1 k1, .slice a2 n2 k2] 31)) ∧ BX 31 (w1.alloc (.cells #[.int .i64 step, .int .i64 phase, .bool fr, .bool true, .slice a1 n1 k1, .slice a2 n2 k2] 31)) w1.heap.size #[.int .i64 step, .int .i64 phase, .bool fr, .bool true, .slice a1 n1 k1, .slice a2 n2 k2] ∧ MlR (w1.alloc (.cells #[.int .i64 step, .int .i64 phase, .bool fr, .bool true, .slice a1 n1 k1, .slice a2 n2 k2] 31)) (.slice a1 n1 k1) vs ∧ LiR (w1.alloc (.cells #[.int .i64 step, .int .i64 phase, .bool fr, .bool true, .slice a1 n1 k1, .slice a2 n2 k2] 31)) (.slice a2 n2 k2) ms ∧ W0.heap.size ≤ w1.heap.size) := ⟨hb1.alloc hb1.size _, BX.new _ _ _, RowK.own encM_len (hv1.alloc _), (hv2.below (below_alloc _ _) (Nat.le_refl _)).reads, hb1.size⟩
  clear q0 q1 q2 q3 hv1 hv2 hb1 CR hn2
  go_upto_region 2 with fail
  generalize w1.alloc (.cells #[.int .i64 step, .int .i64 phase, .bool fr, .bool true, .slice a1 n1 k1, .slice a2 n2 k2] 31) = w2 at *
  generalize w1.heap.size = b5 at *
  obtain ⟨A2', X2', V2', M2', hb5⟩ := W1.out
  have A2 : Hid (Below W0.heap.size W0 w2) := A2'
  have X2 : Hid (BX 31 w2 b5 #[.int .i64 step, .int .i64 phase, .bool fr, .bool true, .slice a1 n1 k1, .slice a2 n2 k2]) := X2'
  have V2 : Hid (MlR w2 (.slice a1 n1 k1) vs) := V2'
  have M2 : Hid (LiR w2 (.slice a2 n2 k2) ms) := M2'
  obtain ⟨Q2, _, _⟩ := HK.out _ A2'
  obtain ⟨q0, q1, q2, q3⟩ := Q2.all4
  obtain ⟨⟨c0, c1, c2, c3, c4, c5⟩, _⟩ := X2'.all6
  clear A2' X2' V2' M2' W1 Q2
  go_wp2_with fail
  refine (CA.out _ _ _ (R0.out _ A2.out) V2.out M2.out).mono ?_
  rintro e w3 ⟨vl, rfl, hl, hb3⟩
  simp only at hl
  have RL : InR w3 vl ls := RowK.own encI_len hl
  obtain ⟨la, lc, rfl⟩ := RL.shape
  have A3 : Below W0.heap.size W0 w3 := A2.out.trans (hb3.mono A2.out.size)
  obtain ⟨_, Z3, BW3⟩ := HK.out _ A3
  have X3 := X2.out.below hb3 X2.out.lt
  have hne : b5 ≠ w.heap.size + 1 := by omega
  have Z3d : BX 31 w3.drew (w.heap.size + 1) #[.int .i64 0, .int .i64 0, .bool false, .bool false, .slice none 0 0, .slice none 0 0] := Z3
  have hld := own_below hl (Below.refl _ _).drew (Nat.le_refl _)
  have RX : Hid (BX 31 (put6 w3.drew (w.heap.size + 1) (.int .i64 step) (.int .i64 phase) (.bool fr) (.bool true) (.slice a1 n1 k1) (.slice a2 n2 k2)) (w.heap.size + 1) #[.int .i64 step, .int .i64 phase, .bool fr, .bool true, .slice a1 n1 k1, .slice a2 n2 k2]) := Z3d.put6
  have HP : Hid (InR (put6 w3.drew (w.heap.size + 1) (.int .i64 step) (.int .i64 phase) (.bool fr) (.bool true) (.slice a1 n1 k1) (.slice a2 n2 k2)) (.slice la ls.length lc) ls ∧ Below w.heap.size w (put6 w3.drew (w.heap.size + 1) (.int .i64 step) (.int .i64 phase) (.bool fr) (.bool true) (.slice a1 n1 k1) (.slice a2 n2 k2))) := ⟨RowK.own encI_len (own_off hld Z3d (by decide) (kept_put6 w3.drew (w.heap.size + 1) (.int .i64 step) (.int .i64 phase) (.bool fr) (.bool true) (.slice a1 n1 k1) (.slice a2 n2 k2))), below_put6 BW3.drew (by omega) Z3d.lt _ _ _ _ _ _⟩
  clear q0 q1 q2 q3 c0 c1 c2 c3 c4 c5
  obtain ⟨⟨c0, c1, c2, c3, c4, c5⟩, _⟩ := X3.all6
  obtain ⟨⟨d0, d1, d2, d3, d4, d5⟩, e0, e1, e2, e3, e4, e5⟩ := Z3.all6
  have X3d : BX 31 w3.drew b5 #[.int .i64 step, .int .i64 phase, .bool fr, .bool true, .slice a1 n1 k1, .slice a2 n2 k2] := X3
  have KP : Hid (∀ V, Kept (fun q => q = w.heap.size + 1) w3.drew V → V.cell? ⟨b5, 0, none⟩ = some (.int .i64 step) ∧ V.cell? ⟨b5, 1, none⟩ = some (.int .i64 phase) ∧ V.cell? ⟨b5, 2, none⟩ = some (.bool fr) ∧ V.cell? ⟨b5, 3, none⟩ = some (.bool true) ∧ V.cell? ⟨b5, 4, none⟩ = some (.slice a1 n1 k1) ∧ V.cell? ⟨b5, 5, none⟩ = some (.slice a2 n2 k2)) := fun V hV => (BX.kept (S := fun q => q = w.heap.size + 1) X3d hV hne).all6.1
  clear hl hld hb3 RL A3 Z3 Z3d BW3 X3 X3d A2 X2 V2 M2 CA
  go_upto_region 3 with fail
  have HS0 : Hid (w3.drew.cell? ⟨b5, 0, none⟩ = some (.int .i64 step) ∧ w3.drew.cell? ⟨b5, 1, none⟩ = some (.int .i64 phase) ∧ w3.drew.cell? ⟨b5, 2, none⟩ = some (.bool fr) ∧ w3.drew.cell? ⟨b5, 3, none⟩ = some (.bool true) ∧ w3.drew.cell? ⟨b5, 4, none⟩ = some (.slice a1 n1 k1) ∧ w3.drew.cell? ⟨b5, 5, none⟩ = some (.slice a2 n2 k2)) := KP.out _ (Kept.refl _ _)
  refine wp_region_held (S := fun V => (V.cell? ⟨b5, 0, none⟩ = some (.int .i64 step) ∧ V.cell? ⟨b5, 1, none⟩ = some (.int .i64 phase) ∧ V.cell? ⟨b5, 2, none⟩ = some (.bool fr) ∧ V.cell? ⟨b5, 3, none⟩ = some (.bool true) ∧ V.cell? ⟨b5, 4, none⟩ = some (.slice a1 n1 k1) ∧ V.cell? ⟨b5, 5, none⟩ = some (.slice a2 n2 k2))) (by kernel_rfl) ?_
  simp only [List.size_toArray, List.length_cons, List.length_nil, Nat.reduceAdd]
  refine takeH (i := 0) (v := .slice la ls.length lc) (d := 20) rfl rfl (by kernel_rfl) (by kernel_rfl) (by kernel_rfl) (fun _ _ _ h => h) (by rfl) (fun V hV => by obtain ⟨v1, v2, v3, v4, v5, v6⟩ := hV; go_simp) HS0.out ?_
  simp only [Act.put, List.setIfInBounds_toArray, List.set_cons_zero, List.set_cons_succ]
  refine takeH (i := 1) (v := .agg #[.int .i64 step, .int .i64 phase, .bool fr, .bool true, .slice a1 n1 k1, .slice a2 n2 k2]) (d := 21) rfl rfl (by kernel_rfl) (by kernel_rfl) (by kernel_rfl) (fun _ _ _ h => h) (by rfl) (fun V hV => by obtain ⟨v1, v2, v3, v4, v5, v6⟩ := hV; go_simp) HS0.out ?_
  simp only [Act.put, List.setIfInBounds_toArray, List.set_cons_zero, List.set_cons_succ]
  refine takeH (i := 2) (v := .int .i64 0) (d := 22) rfl rfl (by kernel_rfl) (by kernel_rfl) (by kernel_rfl) (fun _ _ _ h => h) (by rfl) (fun V hV => by obtain ⟨v1, v2, v3, v4, v5, v6⟩ := hV; go_simp) HS0.out ?_
  simp only [Act.put, List.setIfInBounds_toArray, List.set_cons_zero, List.set_cons_succ]
  refine takeH (i := 3) (v := .bool true) (d := 23) rfl rfl (by kernel_rfl) (by kernel_rfl) (by kernel_rfl) (fun _ _ _ h => h) (by rfl) (fun V hV => by obtain ⟨v1, v2, v3, v4, v5, v6⟩ := hV; go_simp) HS0.out ?_
  simp only [Act.put, List.setIfInBounds_toArray, List.set_cons_zero, List.set_cons_succ]
  refine takeH (i := 4) (v := .bool true) (d := 24) rfl rfl (by kernel_rfl) (by kernel_rfl) (by kernel_rfl) (fun _ _ _ h => h) (by rfl) (fun V hV => by obtain ⟨v1, v2, v3, v4, v5, v6⟩ := hV; go_simp) HS0.out ?_
  simp only [Act.put, List.setIfInBounds_toArray, List.set_cons_zero, List.set_cons_succ]
  refine takeH (i := 5) (v := .int .i64 0) (d := 25) rfl rfl (by kernel_rfl) (by kernel_rfl) (by kernel_rfl) (fun _ _ _ h => h) (by rfl) (fun V hV => by obtain ⟨v1, v2, v3, v4, v5, v6⟩ := hV; go_simp) HS0.out ?_
  simp only [Act.put, List.setIfInBounds_toArray, List.set_cons_zero, List.set_cons_succ]
  refine takeH (i := 6) (v := .bool true) (d := 26) rfl rfl (by kernel_rfl) (by kernel_rfl) (by kernel_rfl) (fun _ _ _ h => h) (by rfl) (fun V hV => by obtain ⟨v1, v2, v3, v4, v5, v6⟩ := hV; go_simp) HS0.out ?_
  simp only [Act.put, List.setIfInBounds_toArray, List.set_cons_zero, List.set_cons_succ]
  refine takeH (i := 7) (v := .bool true) (d := 27) rfl rfl (by kernel_rfl) (by kernel_rfl) (by kernel_rfl) (fun _ _ _ h => h) (by rfl) (fun V hV => by obtain ⟨v1, v2, v3, v4, v5, v6⟩ := hV; go_simp) HS0.out ?_
  simp only [Act.put, List.setIfInBounds_toArray, List.set_cons_zero, List.set_cons_succ]
  refine takeH (i := 8) (v := .bool true) (d := 28) rfl rfl (by kernel_rfl) (by kernel_rfl) (by kernel_rfl) (fun _ _ _ h => h) (by rfl) (fun V hV => by obtain ⟨v1, v2, v3, v4, v5, v6⟩ := hV; go_simp) HS0.out ?_
  simp only [Act.put, List.setIfInBounds_toArray, List.set_cons_zero, List.set_cons_succ]
  refine takeH (i := 9) (v := .pointer (some ⟨b5, 3, none⟩)) (d := 29) rfl rfl (by kernel_rfl) (by kernel_rfl) (by kernel_rfl) (fun _ _ _ h => h) (by rfl) (fun V hV => by obtain ⟨v1, v2, v3, v4, v5, v6⟩ := hV; go_simp) HS0.out ?_
  simp only [Act.put, List.setIfInBounds_toArray, List.set_cons_zero, List.set_cons_succ]
  refine takeH (i := 10) (v := .bool true) (d := 30) rfl rfl (by kernel_rfl) (by kernel_rfl) (by kernel_rfl) (fun _ _ _ h => h) (by rfl) (fun V hV => by obtain ⟨v1, v2, v3, v4, v5, v6⟩ := hV; go_simp) HS0.out ?_
  simp only [Act.put, List.setIfInBounds_toArray, List.set_cons_zero, List.set_cons_succ]
  refine takeH (i := 11) (v := .bool true) (d := 31) rfl rfl (by kernel_rfl) (by kernel_rfl) (by kernel_rfl) (fun _ _ _ h => h) (by rfl) (fun V hV => by obtain ⟨v1, v2, v3, v4, v5, v6⟩ := hV; go_simp) HS0.out ?_
  simp only [Act.put, List.setIfInBounds_toArray, List.set_cons_zero, List.set_cons_succ]
  refine takeH (i := 12) (v := .slice la ls.length lc) (d := 2) rfl rfl (by kernel_rfl) (by kernel_rfl) (by kernel_rfl) (fun _ _ _ h => h) (by rfl) (fun V hV => by obtain ⟨v1, v2, v3, v4, v5, v6⟩ := hV; go_simp) HS0.out ?_
  simp only [Act.put, List.setIfInBounds_toArray, List.set_cons_zero, List.set_cons_succ]
  have HS1 : Hid ((put6 w3.drew (w.heap.size + 1) (.int .i64 step) (.int .i64 phase) (.bool fr) (.bool true) (.slice a1 n1 k1) (.slice a2 n2 k2)).cell? ⟨b5, 0, none⟩ = some (.int .i64 step) ∧ (put6 w3.drew (w.heap.size + 1) (.int .i64 step) (.int .i64 phase) (.bool fr) (.bool true) (.slice a1 n1 k1) (.slice a2 n2 k2)).cell? ⟨b5, 1, none⟩ = some (.int .i64 phase) ∧ (put6 w3.drew (w.heap.size + 1) (.int .i64 step) (.int .i64 phase) (.bool fr) (.bool true) (.slice a1 n1 k1) (.slice a2 n2 k2)).cell? ⟨b5, 2, none⟩ = some (.bool fr) ∧ (put6 w3.drew (w.heap.size + 1) (.int .i64 step) (.int .i64 phase) (.bool fr) (.bool true) (.slice a1 n1 k1) (.slice a2 n2 k2)).cell? ⟨b5, 3, none⟩ = some (.bool true) ∧ (put6 w3.drew (w.heap.size + 1) (.int .i64 step) (.int .i64 phase) (.bool fr) (.bool true) (.slice a1 n1 k1) (.slice a2 n2 k2)).cell? ⟨b5, 4, none⟩ = some (.slice a1 n1 k1) ∧ (put6 w3.drew (w.heap.size + 1) (.int .i64 step) (.int .i64 phase) (.bool fr) (.bool true) (.slice a1 n1 k1) (.slice a2 n2 k2)).cell? ⟨b5, 5, none⟩ = some (.slice a2 n2 k2)) := KP.out _ (kept_put6 _ _ _ _ _ _ _ _)
  refine oneH (i := 13) rfl (by kernel_rfl) rfl (op_skip (w' := put6 w3.drew (w.heap.size + 1) (.int .i64 step) (.int .i64 phase) (.bool fr) (.bool true) (.slice a1 n1 k1) (.slice a2 n2 k2)) rfl (by unfold put6; go_simp) ⟨HS1.out, ?_⟩)
  refine takeH (i := 14) (v := .bool true) (d := 4) rfl rfl (by kernel_rfl) (by kernel_rfl) (by kernel_rfl) (fun _ _ _ h => h) (by rfl) (fun V hV => by obtain ⟨v1, v2, v3, v4, v5, v6⟩ := hV; go_simp) HS1.out ?_
  simp only [Act.put, List.setIfInBounds_toArray, List.set_cons_zero, List.set_cons_succ]
  refine wpAnyH_done (by kernel_rfl) ?_ _
  obtain ⟨⟨r0, r1, r2, r3, r4, r5⟩, _⟩ := RX.out.all6
  clear HS0 HS1 KP c0 c1 c2 c3 c4 c5 d0 d1 d2 d3 d4 d5 e0 e1 e2 e3 e4 e5
  generalize put6 w3.drew (w.heap.size + 1) (.int .i64 step) (.int .i64 phase) (.bool fr) (.bool true) (.slice a1 n1 k1) (.slice a2 n2 k2) = WZ at *
  go_wp2_with fail
  exact bodyPost_ret (v := .tuple #[.slice la ls.length lc, .agg #[.int .i64 step, .int .i64 phase, .bool fr, .bool true, .slice a1 n1 k1, .slice a2 n2 k2], .bool true]) (by simp [results, Tryz.results5, go_sem, r0, r1, r2, r3, r4, r5]) rfl ⟨_, _, _, _, _, _, _, _, rfl, HP.out.1, HP.out.2⟩
end Go.Proofs.YtbmkgnlfccigpaaGreat

namespace Go.Proofs.YtbmkgnlfccigpaaGreat
set_option maxRecDepth 100000

theorem sumW_most {p : List Ed} {M : Int} (h : ∀ e ∈ p, e.2.2 ≤ M) : sumW p ≤ p.length * M := by
  induction p with
  | nil => simp [sumW]
  | cons e p ih =>
    have h1 := h e (by simp)
    have h2 := ih (fun d hd => h d (by simp [hd]))
    rw [sumW_cons, List.length_cons]
    have : ((p.length + 1 : Nat) : Int) * M = p.length * M + M := by rw [Int.natCast_add, Int.add_mul]; simp
    omega
/-- Walks, one edge behind another. -/
theorem walk_ind {es : List Ed} {s : Int} {P : List Ed → Int → Prop} (h0 : P [] s) (h1 : ∀ p e, (∀ d ∈ p, d ∈ es) → e ∈ es → Chn s p e.1 → P p e.1 → P (p ++ [e]) e.2.1) : ∀ (k : Nat) (p : List Ed) (v : Int), p.length = k → (∀ d ∈ p, d ∈ es) → Chn s p v → P p v
  | 0, p, v, hk, _, hc => by
    have e : p = [] := List.length_eq_zero_iff.1 hk
    subst e
    have hc' : s = v := hc
    rw [← hc']
    exact h0
  | k + 1, p, v, hk, hp, hc => by
    have hne : p ≠ [] := by intro e; rw [e] at hk; simp at hk
    have e1 : p = p.dropLast ++ [p.getLast hne] := (List.dropLast_concat_getLast hne).symm
    have hl : p.dropLast.length = k := by rw [List.length_dropLast]; omega
    generalize p.dropLast = q at e1 hl
    generalize p.getLast hne = e at e1
    subst e1
    obtain ⟨c1, c2⟩ := chn_snoc hc
    have hq : ∀ d ∈ q, d ∈ es := fun d hd => hp d (by simp [hd])
    rw [← c2]
    exact h1 q e hq (hp e (by simp)) c1 (walk_ind h0 h1 k q e.1 hl hq c1)

/-- An edge that has nothing left to tell. -/
def Rx (l : List Int) (e : Ed) : Prop := 0 ≤ atD l e.1 → 0 ≤ atD l e.2.1 ∧ atD l e.2.1 ≤ atD l e.1 + e.2.2
theorem dist_fix {n : Nat} {es : List Ed} {s : Int} {l : List Int} (h : DI n es s l) (h0 : atD l s = 0) (hr : ∀ e ∈ es, Rx l e) : DistL n es s l := by
  have hA : ∀ (p : List Ed) (v : Int), (∀ e ∈ p, e ∈ es) → Chn s p v → 0 ≤ atD l v ∧ atD l v ≤ sumW p := fun p v hp hc =>
    walk_ind (P := fun p v => 0 ≤ atD l v ∧ atD l v ≤ sumW p) (by rw [h0, sumW_nil]; omega) (fun p e _ he _ ih => by
      have := hr e he ih.1
      rw [sumW_app, sumW_cons, sumW_nil]
      omega) p.length p v rfl hp hc
  refine ⟨h.1, fun v hv => ?_⟩
  rcases h.2 v hv with h' | ⟨g0, p, hp, hc, hw⟩
  · refine .inl ⟨h', fun ⟨p, hp, hc⟩ => ?_⟩
    have := hA p v hp hc
    omega
  · exact .inr ⟨g0, ⟨p, hp, hc, hw⟩, fun q hq hd => (hA q v hq hd).2⟩
theorem reach_fix {n : Nat} {es : List Ed} {s : Int} {l : List Bool} (h : RI n es s l) (h0 : atB l s = true) (hr : ∀ e ∈ es, atB l e.1 = true → atB l e.2.1 = true) : ReachL n es s l :=
  ⟨h.1, fun v hv => ⟨h.2 v hv, fun ⟨p, hp, hc⟩ => walk_ind (P := fun _ v => atB l v = true) h0 (fun _ e _ he _ ih => hr e he ih) p.length p v rfl hp hc⟩⟩
/-- The two ends of each edge have one number, each number is its own. -/
theorem weak_fix {n : Nat} {es : List Ed} {l : List Int} (h : WI n es l) (hle : ∀ v : Int, 0 ≤ v ∧ v < (n : Int) → atD l v ≤ v) (hr : ∀ e ∈ es, atD l e.1 = atD l e.2.1) : WeakL n es l :=
  ⟨h.1, fun v hv => ⟨(h.2 v hv).1, (h.2 v hv).2, fun u hu ⟨p, hp, hc⟩ => by
    have hb : ∀ e ∈ bothW es, atD l e.1 = atD l e.2.1 := fun e he => by
      rcases List.mem_append.1 he with g | g
      · exact hr e g
      · obtain ⟨d, hd, rfl⟩ := List.mem_map.1 g
        exact (hr d hd).symm
    have : atD l v = atD l u := walk_ind (P := fun _ v => atD l v = atD l u) rfl (fun _ e _ he _ ih => by rw [← hb e he, ih]) p.length p v rfl hp hc
    have := hle u hu
    omega⟩⟩
/-- Numbers by vertices taken from below: each vertex that has none yet gives its own to all that are tied to it. -/
def LsI (n : Nat) (T : Int → Int → Prop) (k : Nat) (l : List Int) : Prop := l.length = n ∧ ∀ v : Int, 0 ≤ v ∧ v < (n : Int) →
  (atD l v = -1 ∧ ∀ u : Int, 0 ≤ u ∧ u < (k : Int) → ¬ T u v) ∨ ((0 ≤ atD l v ∧ atD l v < (k : Int)) ∧ T (atD l v) v ∧ ∀ u : Int, 0 ≤ u ∧ u < (n : Int) → T u v → atD l v ≤ u)
theorem ls_start (n : Nat) (T : Int → Int → Prop) : LsI n T 0 (List.replicate n (-1)) := ⟨by simp, fun v _ => .inl ⟨rep_at, fun u hu => by omega⟩⟩
theorem ls_end {n : Nat} {T : Int → Int → Prop} {l : List Int} (hr : ∀ v, T v v) (h : LsI n T n l) : LeastL n T l := ⟨h.1, fun v hv => (h.2 v hv).resolve_left fun ⟨_, g⟩ => g v hv (hr v)⟩
/-- A vertex that has one: those tied to it have theirs. -/
theorem ls_skip {n k : Nat} {T : Int → Int → Prop} {l : List Int} (ht : ∀ {a b c}, T a b → T b c → T a c) (hk : k < n) (h : LsI n T k l) (hn : atD l k ≠ -1) : LsI n T (k + 1) l := by
  refine ⟨h.1, fun v hv => ?_⟩
  rcases h.2 v hv with ⟨g1, g2⟩ | ⟨g1, g2⟩
  · refine .inl ⟨g1, fun u hu hT => ?_⟩
    by_cases e : u < (k : Int)
    · exact g2 u ⟨hu.1, e⟩ hT
    · have e' : u = (k : Int) := by omega
      subst e'
      rcases h.2 (k : Int) ⟨by omega, by omega⟩ with ⟨f1, _⟩ | ⟨f1, f2, f3⟩
      · exact hn f1
      · exact g2 _ f1 (ht f2 hT)
  · exact .inr ⟨by omega, g2⟩
/-- A vertex that has none gives its own number to all that are tied to it, and to none besides. -/
theorem ls_give {n k : Nat} {T : Int → Int → Prop} {l l' : List Int} (hs : ∀ {a b}, T a b → T b a) (ht : ∀ {a b c}, T a b → T b c → T a c) (hk : k < n) (h : LsI n T k l) (hn : atD l k = -1) (hl : l'.length = n)
    (ha : ∀ v : Int, 0 ≤ v ∧ v < (n : Int) → (T k v ∧ atD l' v = k) ∨ (¬ T k v ∧ atD l' v = atD l v)) : LsI n T (k + 1) l' := by
  have hno : ∀ u : Int, 0 ≤ u ∧ u < (k : Int) → ¬ T u k := by
    rcases h.2 (k : Int) ⟨by omega, by omega⟩ with ⟨_, g⟩ | ⟨g, _⟩
    · exact g
    · omega
  refine ⟨hl, fun v hv => ?_⟩
  rcases ha v hv with ⟨a1, a2⟩ | ⟨a1, a2⟩
  · rw [a2]
    refine .inr ⟨by omega, a1, fun u hu hT => ?_⟩
    by_cases e : u < (k : Int)
    · exact absurd (ht hT (hs a1)) (hno u ⟨hu.1, e⟩)
    · omega
  · rw [a2]
    rcases h.2 v hv with ⟨g1, g2⟩ | ⟨g1, g2⟩
    · refine .inl ⟨g1, fun u hu hT => ?_⟩
      by_cases e : u < (k : Int)
      · exact g2 u ⟨hu.1, e⟩ hT
      · have e' : u = (k : Int) := by omega
        subst e'
        exact a1 hT
    · exact .inr ⟨by omega, g2⟩
end Go.Proofs.YtbmkgnlfccigpaaGreat

namespace Go.Proofs.YtbmkgnlfccigpaaGreat
set_option maxRecDepth 100000

/-- Paths know of edges only whether they are there. -/
theorem rch_mem {es ds : List Ed} (h : ∀ e ∈ es, e ∈ ds) {u v : Int} (hr : Rch es u v) : Rch ds u v := by
  obtain ⟨p, hp, hc⟩ := hr
  exact ⟨p, fun e he => h e (hp e he), hc⟩
theorem rch_turn {es ds : List Ed} (h : ∀ e ∈ es, ∃ x, (e.2.1, e.1, x) ∈ ds) {u v : Int} (hr : Rch es u v) : Rch ds v u := by
  obtain ⟨p, hp, hc⟩ := hr
  exact walk_ind (es := es) (P := fun _ v => Rch ds v u) (Rch.refl _ _) (fun p e _ he _ ih => by
    obtain ⟨x, hx⟩ := h e he
    exact Rch.trans ⟨[(e.2.1, e.1, x)], by simpa using hx, ⟨rfl, rfl⟩⟩ ih) p.length p v rfl hp hc

structure TdM (n : Nat) (es : List Ed) (s : Int) (l : List Bool) (todo : List Int) (v : Int) (rest : List Ed) : Prop where
  ri : RI n es s l
  src : atB l s = true
  inn : ∀ u ∈ todo, (0 ≤ u ∧ u < (n : Int)) ∧ atB l u = true
  told : ∀ e ∈ es, atB l e.1 = true → atB l e.2.1 = true ∨ e.1 ∈ todo ∨ (e.1 = v ∧ e ∈ rest)
section
variable {n : Nat} {es : List Ed} {s : Int} {l : List Bool} {todo : List Int}
theorem ri_start (hs : 0 ≤ s ∧ s < (n : Int)) : RI n es s (reach0 n s) := ⟨reach0_len n s, fun v hv => by
  unfold reach0
  rw [atB_set (by simp) hs hv]
  by_cases e : v = s
  · intro _; rw [e]; exact Rch.refl _ _
  · rw [if_neg e, repB_at]; intro h; cases h⟩
theorem reach0_at (hs : 0 ≤ s ∧ s < (n : Int)) {v : Int} (hv : 0 ≤ v ∧ v < (n : Int)) : atB (reach0 n s) v = true ↔ v = s := by
  unfold reach0
  rw [atB_set (by simp) hs hv, repB_at]
  by_cases e : v = s <;> simp [e]
theorem TdM.start (hg : InG n es) (hs : 0 ≤ s ∧ s < (n : Int)) (v : Int) : TdM n es s (reach0 n s) [s] v [] :=
  ⟨ri_start hs, (reach0_at hs hs).2 rfl, fun u hu => by have e : u = s := by simpa using hu
                                                        subst e; exact ⟨hs, (reach0_at hs hs).2 rfl⟩, fun e he h => by
    obtain ⟨f0, f1, _⟩ := hg e he
    have := (reach0_at hs ⟨f0, f1⟩).1 h
    exact .inr (.inl (by simp [this]))⟩
/-- Between two vertices: v is any. -/
theorem TdM.any {v w : Int} {ds : List Ed} (h : TdM n es s l todo v []) : TdM n es s l todo w ds := ⟨h.ri, h.src, h.inn, fun e he g => by
  rcases h.told e he g with g | g | ⟨_, g⟩
  · exact .inl g
  · exact .inr (.inl g)
  · simp at g⟩
theorem TdM.done {v : Int} (h : TdM n es s l [] v []) : ReachL n es s l := reach_fix h.ri h.src fun e he g => by
  rcases h.told e he g with g | g | ⟨_, g⟩
  · exact g
  · simp at g
  · simp at g
/-- A vertex is taken out of the list: all its edges are to be told. -/
theorem TdM.take {v w : Int} {todo' : List Int} {rest : List Ed} (h : TdM n es s l todo w []) (h1 : ∀ u ∈ todo, u = v ∨ u ∈ todo') (h2 : ∀ u ∈ todo', u ∈ todo) (hr : ∀ e ∈ es, e.1 = v → e ∈ rest) : TdM n es s l todo' v rest :=
  ⟨h.ri, h.src, fun u hu => h.inn u (h2 u hu), fun e he g => by
    rcases h.told e he g with g | g | ⟨_, g⟩
    · exact .inl g
    · rcases h1 _ g with g | g
      · exact .inr (.inr ⟨g, hr e he g⟩)
      · exact .inr (.inl g)
    · simp at g⟩
/-- An edge of another vertex, or one whose end was reached. -/
theorem TdM.no {v : Int} {e : Ed} {rest : List Ed} (h : TdM n es s l todo v (e :: rest)) (hc : e.1 = v → atB l e.2.1 = true) : TdM n es s l todo v rest := ⟨h.ri, h.src, h.inn, fun f hf g => by
  rcases h.told f hf g with g | g | ⟨g1, g2⟩
  · exact .inl g
  · exact .inr (.inl g)
  · rcases List.mem_cons.1 g2 with e1 | g2
    · subst e1; exact .inl (hc g1)
    · exact .inr (.inr ⟨g1, g2⟩)⟩
/-- An edge whose end was not reached yet. -/
theorem TdM.yes {v : Int} {e : Ed} {rest : List Ed} {todo' : List Int} (hg : InG n es) (h : TdM n es s l todo v (e :: rest)) (he : e ∈ es) (hv : atB l e.1 = true) (ht : ∀ u, u ∈ todo' ↔ u = e.2.1 ∨ u ∈ todo) : TdM n es s (l.set e.2.1.toNat true) todo' v rest := by
  obtain ⟨f0, f1, t0, t1, w0⟩ := hg e he
  have hl := h.ri.1
  have hat : ∀ u : Int, 0 ≤ u ∧ u < (n : Int) → atB (l.set e.2.1.toNat true) u = if u = e.2.1 then true else atB l u := fun u hu => atB_set hl ⟨t0, t1⟩ hu
  have hup : ∀ u : Int, 0 ≤ u ∧ u < (n : Int) → atB l u = true → atB (l.set e.2.1.toNat true) u = true := fun u hu g => by rw [hat u hu, g]; simp
  have hR : RI n es s (l.set e.2.1.toNat true) := by
    have := ri_step hg l e he h.ri
    unfold rcS at this
    rw [if_pos hv] at this
    exact this
  have hs : atB (l.set e.2.1.toNat true) s = true := by
    by_cases hsn : 0 ≤ s ∧ s < (n : Int)
    · exact hup s hsn h.src
    · have := h.src
      unfold atB at this ⊢
      rw [List.getD_eq_getElem?_getD] at this ⊢
      by_cases e1 : e.2.1.toNat = s.toNat
      · rw [e1, List.getElem?_set_self (by omega)]; rfl
      · rw [List.getElem?_set_ne e1]; exact this
  refine ⟨hR, hs, fun u hu => ?_, fun f hf g => ?_⟩
  · rcases (ht u).1 hu with g | g
    · subst g; exact ⟨⟨t0, t1⟩, by rw [hat _ ⟨t0, t1⟩, if_pos rfl]⟩
    · exact ⟨(h.inn u g).1, hup u (h.inn u g).1 (h.inn u g).2⟩
  · obtain ⟨a0, a1, b0, b1, _⟩ := hg f hf
    by_cases e1 : f.1 = e.2.1
    · exact .inr (.inl ((ht _).2 (.inl e1)))
    · rw [hat _ ⟨a0, a1⟩, if_neg e1] at g
      rcases h.told f hf g with g | g | ⟨g1, g2⟩
      · exact .inl (hup _ ⟨b0, b1⟩ g)
      · exact .inr (.inl ((ht _).2 (.inr g)))
      · rcases List.mem_cons.1 g2 with e2 | g2
        · subst e2; exact .inl (by rw [hat _ ⟨t0, t1⟩, if_pos rfl])
        · exact .inr (.inr ⟨g1, g2⟩)
/-- One fewer is not reached yet. -/
theorem unm_set {v : Int} (hl : l.length = n) (hv : 0 ≤ v ∧ v < (n : Int)) (h : atB l v = false) : (l.set v.toNat true).count false + 1 = l.count false := by
  have hi : v.toNat < l.length := by omega
  have hg : l[v.toNat] = false := by
    unfold atB at h
    rw [List.getD_eq_getElem?_getD, List.getElem?_eq_getElem hi] at h
    exact h
  have hp : 0 < l.count false := List.count_pos_iff.2 (by rw [← hg]; exact List.getElem_mem hi)
  rw [List.count_set hi, hg]
  simp
  omega
end
end Go.Proofs.YtbmkgnlfccigpaaGreat

namespace Go.Proofs.YtbmkgnlfccigpaaGreat
set_option maxRecDepth 100000

/-- To and Weight of the edges from v, as they stand. -/
def hopsL (es : List Ed) (v : Int) : List Hp := (es.filter fun e => e.1 == v).map fun e => (e.2.1, e.2.2)
theorem hops_yes {es : List Ed} {k : Nat} {x : Ed} {v : Int} (hx : es[k]? = some x) (h : (x.1 == v) = true) : hopsL (es.take (k + 1)) v = hopsL (es.take k) v ++ [(x.2.1, x.2.2)] := by
  unfold hopsL
  rw [take_snoc hx, List.filter_append, List.map_append]
  simp [h]
theorem hops_no {es : List Ed} {k : Nat} {x : Ed} {v : Int} (hx : es[k]? = some x) (h : (x.1 == v) = false) : hopsL (es.take (k + 1)) v = hopsL (es.take k) v := by
  unfold hopsL
  rw [take_snoc hx, List.filter_append, List.map_append]
  simp [h]
theorem hops_len (es : List Ed) (v : Int) : (hopsL es v).length ≤ es.length := by
  unfold hopsL
  rw [List.length_map]
  exact List.length_filter_le _ _
end Go.Proofs.YtbmkgnlfccigpaaGreat

namespace Go.Proofs.YtbmkgnlfccigpaaGreat
set_option maxRecDepth 100000

structure LfI (n : Nat) (es : List Ed) (s : Int) (l : List Int) (pool : List (Int × Int)) (S : Int → Prop) : Prop where
  di : DI n es s l
  src : atD l s = 0
  own : ∀ v, S v → (0 ≤ v ∧ v < (n : Int)) ∧ 0 ≤ atD l v
  rx : ∀ e ∈ es, S e.1 → Rx l e
  least : ∀ v, S v → ∀ x ∈ pool, atD l v ≤ x.1
  past : ∀ x ∈ pool, S x.2 → atD l x.2 < x.1
  inn : ∀ x ∈ pool, (0 ≤ x.2 ∧ x.2 < (n : Int)) ∧ 0 ≤ atD l x.2 ∧ atD l x.2 ≤ x.1
  has : ∀ v : Int, 0 ≤ v ∧ v < (n : Int) → ¬ S v → 0 ≤ atD l v → (atD l v, v) ∈ pool
  nod : pool.Nodup
section
variable {n : Nat} {es : List Ed} {s : Int} {l : List Int} {pool : List (Int × Int)} {S : Int → Prop}
theorem LfI.start (hs : 0 ≤ s ∧ s < (n : Int)) : LfI n es s (dist0 n s) [(0, s)] fun _ => False := by
  have h0 : atD (dist0 n s) s = 0 := by unfold dist0; rw [atD_set (by simp) hs hs, if_pos rfl]
  refine ⟨di_start hs, h0, fun _ h => h.elim, fun _ _ h => h.elim, fun _ h => h.elim, fun _ _ h => h.elim, fun x hx => ?_, fun v hv _ h => ?_, by simp⟩
  · have e : x = (0, s) := by simpa using hx
    subst e
    exact ⟨hs, by rw [h0]; simp, by rw [h0]; simp⟩
  · have e : v = s := by
      apply Classical.byContradiction
      intro hne
      unfold dist0 at h
      rw [atD_set (by simp) hs hv, if_neg hne, rep_at] at h
      omega
    subst e
    rw [h0]
    simp
/-- The pool may stand in another order. -/
theorem LfI.perm {pool' : List (Int × Int)} (h : LfI n es s l pool S) (hp : pool.Perm pool') : LfI n es s l pool' S :=
  ⟨h.di, h.src, h.own, h.rx, fun v hv x hx => h.least v hv x (hp.mem_iff.2 hx), fun x hx => h.past x (hp.mem_iff.2 hx), fun x hx => h.inn x (hp.mem_iff.2 hx), fun v hv hn h0 => hp.mem_iff.1 (h.has v hv hn h0), hp.nodup_iff.1 h.nod⟩
/-- Each walk is told already, or something in the pool is no longer than it. -/
theorem LfI.walk (h : LfI n es s l pool S) (hg : InG n es) {p : List Ed} {v : Int} (hp : ∀ e ∈ p, e ∈ es) (hc : Chn s p v) : (0 ≤ atD l v ∧ atD l v ≤ sumW p) ∨ ∃ x ∈ pool, x.1 ≤ sumW p :=
  walk_ind (es := es) (P := fun p v => (0 ≤ atD l v ∧ atD l v ≤ sumW p) ∨ ∃ x ∈ pool, x.1 ≤ sumW p) (.inl (by rw [h.src, sumW_nil]; omega)) (fun p e hq he hd ih => by
    obtain ⟨f0, f1, t0, t1, w0⟩ := hg e he
    rw [sumW_app, sumW_cons, sumW_nil]
    rcases ih with ⟨i0, i1⟩ | ⟨x, hx, i1⟩
    · by_cases hS : S e.1
      · have := h.rx e he hS i0
        exact .inl (by omega)
      · exact .inr ⟨_, h.has e.1 ⟨f0, f1⟩ hS i0, by simp only; omega⟩
    · exact .inr ⟨x, hx, by omega⟩) p.length p v rfl hp hc
/-- With nothing left in the pool the distances stand there. -/
theorem LfI.done (h : LfI n es s l [] S) (hg : InG n es) : DistL n es s l := dist_fix h.di h.src fun e he h0 => by
  obtain ⟨f0, f1, t0, t1, w0⟩ := hg e he
  by_cases hS : S e.1
  · exact h.rx e he hS h0
  · have := h.has e.1 ⟨f0, f1⟩ hS h0
    simp at this
/-- What was settled, or told again lower: passed by. -/
theorem LfI.skip {d v : Int} (h : LfI n es s l ((d, v) :: pool) S) (hS : S v ∨ d ≠ atD l v) : LfI n es s l pool S :=
  ⟨h.di, h.src, h.own, h.rx, fun u hu x hx => h.least u hu x (by simp [hx]), fun x hx => h.past x (by simp [hx]), fun x hx => h.inn x (by simp [hx]), fun u hu hn h0 => by
    have hm := h.has u hu hn h0
    rcases List.mem_cons.1 hm with e | hm
    · injection e with e1 e2
      subst e2
      rcases hS with hS | hS
      · exact absurd hS hn
      · exact absurd e1.symm hS
    · exact hm, (List.nodup_cons.1 h.nod).2⟩
/-- What is passed by, told by what was settled and told by the numbers, is one thing: with the least ahead. -/
theorem LfI.live {d v : Int} (h : LfI n es s l ((d, v) :: pool) S) (hm : ∀ x ∈ pool, d ≤ x.1) : S v ↔ d ≠ atD l v := by
  obtain ⟨hv, h0, h1⟩ := h.inn (d, v) (by simp)
  refine ⟨fun hS => ?_, fun hne => Classical.byContradiction fun hS => ?_⟩
  · have := h.past (d, v) (by simp) hS
    simp only at this
    omega
  · have := h.has v hv hS h0
    simp only at h1
    rcases List.mem_cons.1 this with e | e
    · injection e with e1 _
      exact hne e1.symm
    · have := hm _ e
      simp only at this
      omega
/-- The least one's number is its distance. -/
theorem LfI.dst {d v : Int} (h : LfI n es s l ((d, v) :: pool) S) (hg : InG n es) (hm : ∀ x ∈ pool, d ≤ x.1) (he : d = atD l v) : Dst es s v d := by
  obtain ⟨hv, h0, h1⟩ := h.inn (d, v) (by simp)
  simp only at hv h0 h1
  refine ⟨?_, fun p hp hc => ?_⟩
  · rcases h.di.2 v hv with g | ⟨_, g⟩
    · omega
    · rw [he]; exact g
  · rcases h.walk hg hp hc with g | ⟨x, hx, g⟩
    · omega
    · rcases List.mem_cons.1 hx with e | hx
      · rw [e] at g; exact g
      · have := hm x hx; omega
theorem dst_most {v d : Int} (hg : InG n es) {M : Int} (hM : 0 ≤ M) (hw : ∀ e ∈ es, e.2.2 ≤ M) (hs : 0 ≤ s ∧ s < (n : Int)) (h : Dst es s v d) : d ≤ n * M := by
  obtain ⟨⟨p, hp, hc, _⟩, hm⟩ := h
  obtain ⟨q, hq, hd, hl, _⟩ := chn_short hg p.length (Nat.le_refl _) hp hs hc
  have h1 := hm q hq hd
  have h2 := sumW_most (p := q) (M := M) fun e he => hw e (hq e he)
  have h3 : (q.length : Int) * M ≤ n * M := Int.mul_le_mul_of_nonneg_right (by omega) hM
  omega
/-- While the edges of v are told, d its distance: rest are those that are not told yet. -/
structure LfM (n : Nat) (es : List Ed) (s : Int) (l : List Int) (pool : List (Int × Int)) (S : Int → Prop) (v d : Int) (rest : List Ed) : Prop where
  di : DI n es s l
  sin : 0 ≤ s ∧ s < (n : Int)
  src : atD l s = 0
  pos : 0 ≤ d
  vin : 0 ≤ v ∧ v < (n : Int)
  here : atD l v = d
  not : ¬ S v
  own : ∀ u, S u → (0 ≤ u ∧ u < (n : Int)) ∧ 0 ≤ atD l u ∧ atD l u ≤ d
  rx : ∀ e ∈ es, S e.1 → Rx l e
  told : ∀ e ∈ es, e.1 = v → e ∈ rest ∨ Rx l e
  least : ∀ x ∈ pool, d ≤ x.1
  past : ∀ x ∈ pool, S x.2 ∨ x.2 = v → atD l x.2 < x.1
  inn : ∀ x ∈ pool, (0 ≤ x.2 ∧ x.2 < (n : Int)) ∧ 0 ≤ atD l x.2 ∧ atD l x.2 ≤ x.1
  has : ∀ u : Int, 0 ≤ u ∧ u < (n : Int) → ¬ S u → u ≠ v → 0 ≤ atD l u → (atD l u, u) ∈ pool
  nod : pool.Nodup
theorem LfI.take {d v : Int} {rest : List Ed} (hs : 0 ≤ s ∧ s < (n : Int)) (h : LfI n es s l ((d, v) :: pool) S) (hm : ∀ x ∈ pool, d ≤ x.1) (he : d = atD l v) (hr : ∀ e ∈ es, e.1 = v → e ∈ rest) : LfM n es s l pool S v d rest := by
  obtain ⟨hv, h0, h1⟩ := h.inn (d, v) (by simp)
  obtain ⟨n1, n2⟩ := List.nodup_cons.1 h.nod
  have hS : ¬ S v := fun hS => (h.live hm).1 hS he
  refine ⟨h.di, hs, h.src, by rw [he]; exact h0, hv, he.symm, hS, fun u hu => ⟨(h.own u hu).1, (h.own u hu).2, h.least u hu (d, v) (by simp)⟩, h.rx, fun e h1 h2 => .inl (hr e h1 h2), hm, fun x hx hS' => ?_, fun x hx => h.inn x (by simp [hx]), fun u hu hn hne g => ?_, n2⟩
  · rcases hS' with g | g
    · exact h.past x (by simp [hx]) g
    · have g1 := (h.inn x (by simp [hx])).2.2
      have g2 : x.1 ≠ d := fun e => n1 (by rw [← e, ← g]; exact hx)
      rw [g] at g1 ⊢
      omega
  · rcases List.mem_cons.1 (h.has u hu hn g) with e | e
    · injection e with _ e2
      exact absurd e2 hne
    · exact e
theorem LfM.none {v d : Int} (h : LfM n es s l pool S v d []) : LfI n es s l pool fun u => S u ∨ u = v := by
  refine ⟨h.di, h.src, fun u hu => ?_, fun e he hS => ?_, fun u hu x hx => ?_, h.past, h.inn, fun u hu hn g => h.has u hu (fun a => hn (.inl a)) (fun a => hn (.inr a)) g, h.nod⟩
  · rcases hu with hu | hu
    · exact ⟨(h.own u hu).1, (h.own u hu).2.1⟩
    · rw [hu]; exact ⟨h.vin, by rw [h.here]; exact h.pos⟩
  · rcases hS with hS | hS
    · exact h.rx e he hS
    · exact (h.told e he hS).resolve_left (by simp)
  · have := h.least x hx
    rcases hu with hu | hu
    · have := (h.own u hu).2.2; omega
    · rw [hu, h.here]; exact this
/-- An edge that is not lower. -/
theorem LfM.no {v d : Int} {e : Ed} {rest : List Ed} (h : LfM n es s l pool S v d (e :: rest)) (hc : e.1 = v → ¬ (atD l e.2.1 < 0 ∨ atD l v + e.2.2 < atD l e.2.1)) : LfM n es s l pool S v d rest :=
  ⟨h.di, h.sin, h.src, h.pos, h.vin, h.here, h.not, h.own, h.rx, fun f hf hv => by
    rcases h.told f hf hv with g | g
    · rcases List.mem_cons.1 g with e1 | g
      · subst e1
        have := hc hv
        refine .inr fun _ => ?_
        rw [hv]
        omega
      · exact .inl g
    · exact .inr g, h.least, h.past, h.inn, h.has, h.nod⟩
/-- An edge that is lower: its end goes into the pool. -/
theorem LfM.yes {v d : Int} {e : Ed} {rest : List Ed} (hg : InG n es) (h : LfM n es s l pool S v d (e :: rest)) (he : e ∈ es) (hv : e.1 = v) (hc : atD l e.2.1 < 0 ∨ d + e.2.2 < atD l e.2.1) :
    LfM n es s (l.set e.2.1.toNat (d + e.2.2)) ((d + e.2.2, e.2.1) :: pool) S v d rest := by
  obtain ⟨f0, f1, t0, t1, w0⟩ := hg e he
  have hl := h.di.1
  have hpos := h.pos
  have hD : DI n es s (l.set e.2.1.toNat (d + e.2.2)) := by
    have := di_step hg l e he h.di
    unfold rlx at this
    rw [hv, h.here, if_pos ⟨h.pos, hc⟩] at this
    exact this
  have hat : ∀ u : Int, 0 ≤ u ∧ u < (n : Int) → atD (l.set e.2.1.toNat (d + e.2.2)) u = if u = e.2.1 then d + e.2.2 else atD l u := fun u hu => atD_set hl ⟨t0, t1⟩ hu
  have hne : v ≠ e.2.1 := fun e1 => by have := h.here; rw [e1] at this; omega
  have hnS : ¬ S e.2.1 := fun hS => by have := h.own _ hS; omega
  have hSin : ∀ u, S u → u ≠ e.2.1 := fun u hu e1 => hnS (e1 ▸ hu)
  have hsne : s ≠ e.2.1 := fun e1 => by have := h.src; rw [e1] at this; omega
  have hold : ∀ u : Int, 0 ≤ u ∧ u < (n : Int) → u ≠ e.2.1 → atD (l.set e.2.1.toNat (d + e.2.2)) u = atD l u := fun u hu hn => by rw [hat u hu, if_neg hn]
  have hnew : atD (l.set e.2.1.toNat (d + e.2.2)) e.2.1 = d + e.2.2 := by rw [hat _ ⟨t0, t1⟩, if_pos rfl]
  have hrx : ∀ f ∈ es, f.1 ≠ e.2.1 → Rx l f → Rx (l.set e.2.1.toNat (d + e.2.2)) f := fun f hf hn g g0 => by
    obtain ⟨a0, a1, b0, b1, c0⟩ := hg f hf
    rw [hold _ ⟨a0, a1⟩ hn] at g0 ⊢
    have := g g0
    by_cases e1 : f.2.1 = e.2.1
    · rw [e1, hnew]
      rw [e1] at this
      omega
    · rw [hold _ ⟨b0, b1⟩ e1]
      exact this
  refine ⟨hD, h.sin, by rw [hold _ h.sin hsne]; exact h.src, h.pos, h.vin, by rw [hold _ h.vin hne]; exact h.here, h.not, fun u hu => ?_, fun f hf hS => hrx f hf (hSin _ hS) (h.rx f hf hS), fun f hf hv' => ?_, fun x hx => ?_, fun x hx hS => ?_, fun x hx => ?_, fun u hu hn hnv g => ?_, List.nodup_cons.2 ⟨fun hx => ?_, h.nod⟩⟩
  · obtain ⟨a, b⟩ := h.own u hu
    rw [hold _ a (hSin u hu)]
    exact ⟨a, b⟩
  · rcases h.told f hf hv' with g | g
    · rcases List.mem_cons.1 g with e1 | g
      · subst e1
        refine .inr fun _ => ?_
        rw [hnew, hv', hold _ h.vin hne, h.here]
        have := h.pos
        omega
      · exact .inl g
    · exact .inr (hrx f hf (by rw [hv']; exact hne) g)
  · rcases List.mem_cons.1 hx with e1 | hx
    · subst e1; simp only; omega
    · exact h.least x hx
  · rcases List.mem_cons.1 hx with e1 | hx
    · subst e1
      rcases hS with g | g
      · exact absurd g hnS
      · exact absurd g.symm hne
    · rw [hold _ (h.inn x hx).1 (by rcases hS with g | g; exact hSin _ g; rw [g]; exact hne)]
      exact h.past x hx hS
  · rcases List.mem_cons.1 hx with e1 | hx
    · subst e1
      have := h.pos
      exact ⟨⟨t0, t1⟩, by rw [hnew]; omega, by rw [hnew]; exact Int.le_refl _⟩
    · obtain ⟨a, b, c⟩ := h.inn x hx
      have := h.pos
      refine ⟨a, ?_⟩
      rw [hat _ a]
      by_cases e1 : x.2 = e.2.1
      · rw [if_pos e1]
        rw [e1] at b c
        omega
      · rw [if_neg e1]
        exact ⟨b, c⟩
  · by_cases e1 : u = e.2.1
    · rw [e1, hnew]; simp
    · rw [hold u hu e1] at g ⊢
      exact List.mem_cons.2 (.inr (h.has u hu hn hnv g))
  · have := h.inn _ hx
    simp only at this
    omega
/-- Settled, said in another way. -/
theorem LfI.same {S' : Int → Prop} (h : LfI n es s l pool S) (hS : ∀ u, S u ↔ S' u) : LfI n es s l pool S' := by
  have e : S = S' := funext fun u => propext (hS u)
  rw [← e]
  exact h
end
/-- How many edges begin at a vertex that is not settled: what the pool may still get. -/
def opn (es : List Ed) (b : Int → Bool) : Nat := (es.filter fun e => !b e.1).length
def outs (es : List Ed) (v : Int) : List Ed := es.filter fun e => e.1 == v
theorem outs_mem {es : List Ed} {v : Int} {e : Ed} : e ∈ outs es v ↔ e ∈ es ∧ e.1 = v := by simp [outs]
theorem opn_take {b : Int → Bool} {v : Int} (h : b v = false) : ∀ es : List Ed, opn es (fun u => b u || u == v) + (outs es v).length = opn es b
  | [] => rfl
  | e :: es => by
    have ih := opn_take h es
    unfold opn outs at ih ⊢
    rw [List.filter_cons, List.filter_cons, List.filter_cons]
    by_cases e1 : e.1 = v
    · subst e1
      simp [h] at ih ⊢
      omega
    · have e2 : (e.1 == v) = false := by simpa using e1
      cases hb : b e.1 <;> simp [hb, e2] at ih ⊢ <;> omega
theorem opn_all (es : List Ed) : opn es (fun _ => false) = es.length := by simp [opn]
end Go.Proofs.YtbmkgnlfccigpaaGreat

namespace Go.Proofs.YtbmkgnlfccigpaaGreat
set_option maxRecDepth 100000

theorem hopsL_outs (es : List Ed) (v : Int) : hopsL es v = (outs es v).map fun e => (e.2.1, e.2.2) := rfl
theorem hop_at {es : List Ed} {v : Int} {k : Nat} {x : Hp} (h : (hopsL es v)[k]? = some x) :
    ∃ e, x = (e.2.1, e.2.2) ∧ e ∈ es ∧ e.1 = v ∧ (outs es v).drop k = e :: (outs es v).drop (k + 1) := by
  rw [hopsL_outs, List.getElem?_map] at h
  cases he : (outs es v)[k]? with
  | none => rw [he] at h; cases h
  | some e =>
    rw [he] at h
    injection h with h
    obtain ⟨m1, m2⟩ := outs_mem.1 (List.mem_of_getElem? he)
    obtain ⟨hk, hk2⟩ := List.getElem?_eq_some_iff.1 he
    exact ⟨e, h.symm, m1, m2, by rw [List.drop_eq_getElem_cons hk, hk2]⟩
theorem outs_len (es : List Ed) (v : Int) : (outs es v).length = (hopsL es v).length := by rw [hopsL_outs, List.length_map]
end Go.Proofs.YtbmkgnlfccigpaaGreat

namespace Go.Proofs.YtbmkgnlfccigpaaGreat
set_option maxRecDepth 100000
open Go.ChangeShapes Go.WideShapes Go.ChangeAt Go.RowKit

theorem HpR.at {w : World} {v : Value} {es : List Hp} (h : HpR w v es) (hn : 0 < es.length) :
    ∃ b off cap, v = .slice (some ⟨b, off, none⟩) es.length cap ∧ es.length ≤ cap ∧ cap ≤ maxLen ∧ b < w.heap.size ∧ ∀ i x, es[i]? = some x →
      w.cell? ⟨b, off + i * 2, none⟩ = some (.int .i64 x.1) ∧ w.cell? ⟨b, off + i * 2 + 1, none⟩ = some (.int .i64 x.2) := by
  obtain ⟨a, cap, rfl, hc, hm, _, hel⟩ := h
  obtain ⟨b, off, rfl, lt, hv⟩ := hel hn
  exact ⟨b, off, cap, rfl, hc, hm, lt, fun i x hx => ⟨hv i x hx 0 _ rfl, hv i x hx 1 _ rfl⟩⟩
theorem Tryz.infoH : (Tryz.prog.info? 64).map (fun i => (i.zero, i.size, i.bytes)) = some (some (.agg #[.int .i64 0, .int .i64 0]), 2, 16) := by kernel_rfl
def kH : ElK Hp := ⟨encH, 2, 62, 64, 16, .agg #[.int .i64 0, .int .i64 0], Tryz.underlying62, Tryz.infoH, rfl, by decide, encH_len, encH_one⟩
end Go.Proofs.YtbmkgnlfccigpaaGreat

namespace Go.Proofs.YtbmkgnlfccigpaaGreat
set_option maxRecDepth 100000
open Go.ChangeShapes Go.WideShapes Go.ChangeAt Go.RowKit

theorem Tryz.infoL : (Tryz.prog.info? 62).map (fun i => (i.zero, i.size, i.bytes)) = some (some (.slice none 0 0), 1, 24) := by kernel_rfl
/-- A list of lists of hops, each of the call's own. -/
def OwnLs (w : World) (base : Nat) (v : Value) (f : List (List Hp)) : Prop :=
  ∃ vs : List Value, vs.length = f.length ∧ w.ownsRow base 62 1 v f.length vs ∧ ∀ (j : Nat) (u : Value) (l : List Hp), vs[j]? = some u → f[j]? = some l → w.ownsRow base 64 2 u l.length (l.flatMap encH)
theorem OwnLs.nil (w : World) (base : Nat) : OwnLs w base (.slice none 0 0) [] := ⟨[], rfl, World.ownsRow_nil _ _ _ _, fun j u l h => by simp at h⟩
theorem OwnLs.row {w : World} {base : Nat} {v : Value} {f : List (List Hp)} (h : OwnLs w base v f) : ∃ vs, w.ownsRow base 62 1 v f.length vs := by obtain ⟨vs, _, h, _⟩ := h; exact ⟨vs, h⟩
theorem OwnLs.kept {S : Nat → Prop} {w w' : World} {base : Nat} {v : Value} {f : List (List Hp)} (h : OwnLs w base v f) (hk : Kept S w w') (hs : ∀ g, base ≤ g → ¬ S g) : OwnLs w' base v f := by
  obtain ⟨vs, h1, h2, h3⟩ := h
  exact ⟨vs, h1, hk.own h2 fun g hg => hs g (own_ge h2 hg).1, fun j u l hu hl => hk.own (h3 j u l hu hl) fun g hg => hs g (own_ge (h3 j u l hu hl) hg).1⟩
/-- Boxes of another type are written. -/
theorem OwnLs.box {w : World} {base q i : Nat} {v u : Value} {f : List (List Hp)} {cs : Array Value} {t : TypeId} {fr : Nat × Nat} (h : OwnLs w base v f) (hq : w.heap[q]? = some (.cells cs t fr)) (h1 : 62 ≠ t) (h2 : 64 ≠ t) : OwnLs (w.setCell ⟨q, i, none⟩ u) base v f := by
  obtain ⟨vs, k1, k2, k3⟩ := h
  exact ⟨vs, k1, (Kept.box w q i u).own k2 fun g hg => own_block k2 hg hq h1, fun j x l hx hl => (Kept.box w q i u).own (k3 j x l hx hl) fun g hg => own_block (k3 j x l hx hl) hg hq h2⟩
theorem OwnLs.lower {w : World} {base b : Nat} {v : Value} {f : List (List Hp)} (h : OwnLs w base v f) (hb : b ≤ base) : OwnLs w b v f := by
  obtain ⟨vs, h1, h2, h3⟩ := h
  exact ⟨vs, h1, own_lower h2 hb, fun j u l hu hl => own_lower (h3 j u l hu hl) hb⟩
/-- Another list of lists grows. -/
theorem OwnLs.grown {w w' : World} {base b n : Nat} {v r : Value} {f : List (List Hp)} {xs : List Value} (h : OwnLs w base v f) (hr : w.ownsRow b 62 1 r n xs) (hg : w.grownBy w' r.ownBlock) (ha : v.ownBlock = none ∨ v.ownBlock ≠ r.ownBlock) : OwnLs w' base v f := by
  obtain ⟨vs, h1, h2, h3⟩ := h
  exact ⟨vs, h1, h2.kept hg ha, fun j u l hu hl => (h3 j u l hu hl).kept hg (own_apart (h3 j u l hu hl) hr (by decide))⟩
/-- One more list. -/
theorem run_append_ls {w : World} (ty : TypeId) (base : Nat) (v : Value) (f : List (List Hp)) (h : OwnLs w base v f) (B : Nat) (p : Value) (x : List Hp) (fr : Nat × Nat) (hB : w.heap[B]? = some (.cells #[p] 62 fr)) (hp : w.ownsRow base 64 2 p x.length (x.flatMap encH)) (hlen : f.length ≤ 1000000) (hbase : base ≤ w.heap.size) :
    ∃ g c w', (Builtin.append_ #[51, 51] ty #[v, .slice (some ⟨B, 0, none⟩) 1 1]).run Tryz.prog w = .ok (.slice (some ⟨g, 0, none⟩) (f.length + 1) c) w' ∧ OwnLs w' base (.slice (some ⟨g, 0, none⟩) (f.length + 1) c) (f ++ [x]) ∧ w.grownBy w' v.ownBlock ∧ (v.ownBlock = some g ∨ g = w.heap.size) := by
  obtain ⟨i0, hi, hz0, hz1, hz2⟩ := info_parts Tryz.infoL
  obtain ⟨vs, h1, h2, h3⟩ := h
  have hone : p.oneCell' = true := by
    rcases own_shapeK hp with ⟨rfl, _⟩ | ⟨g, cap, rfl, _⟩ <;> rfl
  obtain ⟨g, c, w', hrun, ho, hg, hl, _⟩ := run_append_lies (P := Tryz.prog) w 51 ty base 62 i0 (.slice none 0 0) 1 24 Tryz.underlying51 hi hz0 hz1 hz2 rfl (by decide) v f.length vs h2
    ⟨B, 0, none⟩ 1 1 [p] rfl (by have := World.news_of_block hB; simpa using this) (fun u hu => by simp at hu; subst hu; exact hone) (by omega) (by unfold maxLen; omega) (by omega) hbase _ rfl
  refine ⟨g, c, w', hrun, ⟨vs ++ [p], by simp [h1], by simpa using ho, fun j u l hu hl => ?_⟩, hg, hl⟩
  by_cases hj : j < vs.length
  · rw [List.getElem?_append_left hj] at hu
    rw [List.getElem?_append_left (by omega)] at hl
    exact (h3 j u l hu hl).kept hg (own_apart (h3 j u l hu hl) h2 (by decide))
  · have hj2 : j = vs.length := by have := (List.getElem?_eq_some_iff.1 hu).1; simp at this; omega
    subst hj2
    rw [List.getElem?_concat_length] at hu
    rw [h1, List.getElem?_concat_length] at hl
    injection hu with hu
    injection hl with hl
    subst hu hl
    exact hp.kept hg (own_apart hp h2 (by decide))

/-- The same as a law for the walk. -/
theorem wpList_append_ls {w : World} {ops : Array Oper} {rest : List Oper} {o : Oper} {a : Act} {Q : Exit → Act → World → Prop} (hgd : o.guard = none) (s y : Operand)
    (ho : o.op = .call { callee := .builtin .append, args := #[s, y], argTypes := #[51, 51] })
    (base : Nat) (v : Value) (f : List (List Hp)) (hs : a.eval s = v) (hown : OwnLs w base v f) (B : Nat) (p : Value) (x : List Hp) (hy : a.eval y = .slice (some ⟨B, 0, none⟩) 1 1) (fr : Nat × Nat) (hB : w.heap[B]? = some (.cells #[p] 62 fr)) (hp : w.ownsRow base 64 2 p x.length (x.flatMap encH)) (hlen : f.length ≤ 1000000) (hbase : base ≤ w.heap.size)
    (h : ∀ g c w', OwnLs w' base (.slice (some ⟨g, 0, none⟩) (f.length + 1) c) (f ++ [x]) → w.grownBy w' v.ownBlock → (v.ownBlock = some g ∨ g = w.heap.size) → wpList Tryz.prog ops Q rest (a.put o.dst (.slice (some ⟨g, 0, none⟩) (f.length + 1) c)) w') :
    wpList Tryz.prog ops Q (o :: rest) a w := by
  obtain ⟨g, c, w', hrun, h1, h2, h3⟩ := run_append_ls o.type base v f hown B p x fr hB hp hlen hbase
  refine wpList_plain hgd fun K' hK => ?_
  unfold Oper.wp
  simp [execOp, ho, resolve, invoke, builtin, hs, hy, hrun, Result.andThen]
  exact hK _ _ (h g c w' h1 h2 h3)

/-- A slice reads as these lists of hops. -/
def LsR (w : World) (v : Value) (f : List (List Hp)) : Prop :=
  ∃ a cap, v = .slice a f.length cap ∧ f.length ≤ cap ∧ cap ≤ maxLen ∧ (0 < f.length → ∃ b off, a = some ⟨b, off, none⟩ ∧ b < w.heap.size ∧ ∀ j l, f[j]? = some l → ∃ u, w.cell? ⟨b, off + j, none⟩ = some u ∧ HpR w u l)
theorem LsR.below {w w' : World} {v : Value} {f : List (List Hp)} {B : Nat} (h : LsR w v f) (hb : Below B w w') (hB : w.heap.size ≤ B) : LsR w' v f := by
  obtain ⟨a, cap, rfl, h1, h2, h3⟩ := h
  refine ⟨a, cap, rfl, h1, h2, fun hn => ?_⟩
  obtain ⟨b, off, rfl, lt, hv⟩ := h3 hn
  refine ⟨b, off, rfl, Nat.lt_of_lt_of_le lt hb.size, fun j l hl => ?_⟩
  obtain ⟨u, hu, hr⟩ := hv j l hl
  exact ⟨u, (hb.cell (p := ⟨b, off + j, none⟩) (show b < B by omega)).trans hu, hr.below hb hB⟩
theorem LsR.nil (w : World) : LsR w (.slice none 0 0) [] := ⟨none, 0, rfl, by simp, by simp [maxLen], fun h => by simp at h⟩
theorem OwnLs.reads {w : World} {base : Nat} {v : Value} {f : List (List Hp)} (h : OwnLs w base v f) : LsR w v f := by
  obtain ⟨vs, h1, h2, h3⟩ := h
  rcases own_cases h2 with ⟨rfl, h0, _⟩ | ⟨g, cap, rfl, _, hl, hc, hm, hcell⟩
  · have : f = [] := List.eq_nil_of_length_eq_zero h0
    subst this
    exact LsR.nil w
  · refine ⟨_, cap, rfl, hc, hm, fun _ => ⟨g, 0, rfl, hl, fun j l hj => ?_⟩⟩
    have hjl : j < vs.length := by rw [h1]; exact (List.getElem?_eq_some_iff.1 hj).1
    have hu : vs[j]? = some vs[j] := List.getElem?_eq_getElem hjl
    have := hcell j _ hu
    rw [addr_add] at this
    rw [Nat.zero_add]
    exact ⟨_, this, RowK.own encH_len (h3 j _ l hu hj)⟩
theorem LsR.at {w : World} {v : Value} {f : List (List Hp)} (h : LsR w v f) (hn : 0 < f.length) : ∃ b off cap, v = .slice (some ⟨b, off, none⟩) f.length cap ∧ b < w.heap.size ∧ f.length ≤ cap ∧ cap ≤ maxLen ∧ ∀ j l, f[j]? = some l → ∃ u, w.cell? ⟨b, off + j, none⟩ = some u ∧ HpR w u l := by
  obtain ⟨a, cap, rfl, h1, h2, h3⟩ := h
  obtain ⟨b, off, rfl, lt, hv⟩ := h3 hn
  exact ⟨b, off, cap, rfl, lt, h1, h2, hv⟩
end Go.Proofs.YtbmkgnlfccigpaaGreat

namespace Go.Proofs.YtbmkgnlfccigpaaGreat
set_option maxRecDepth 100000
open Go.ChangeShapes Go.WideShapes Go.ChangeAt Go.RowKit

/-- A table of lists of hops: each grows by itself. -/
structure Tbl (w : World) (base g n : Nat) (vs : List Value) (f : List (List Hp)) : Prop where
  row : w.ownsRow base 62 1 (.slice (some ⟨g, 0, none⟩) n n) n vs
  lv : vs.length = n
  lf : f.length = n
  el : ∀ (j : Nat) (u : Value) (l : List Hp), vs[j]? = some u → f[j]? = some l → w.ownsRow base 64 2 u l.length (l.flatMap encH)
  ap : ∀ (i j : Nat) (u v : Value), i ≠ j → vs[i]? = some u → vs[j]? = some v → Apt u v
theorem Tbl.kept {w w' : World} {base g n : Nat} {vs : List Value} {f : List (List Hp)} (h : Tbl w base g n vs f) (hk : Kept (fun _ => False) w w') : Tbl w' base g n vs f :=
  ⟨hk.own h.row fun _ _ h => h, h.lv, h.lf, fun j u l hu hl => hk.own (h.el j u l hu hl) fun _ _ h => h, h.ap⟩
theorem Tbl.own {w : World} {base g n : Nat} {vs : List Value} {f : List (List Hp)} (h : Tbl w base g n vs f) : OwnLs w base (.slice (some ⟨g, 0, none⟩) n n) f :=
  ⟨vs, by rw [h.lv, h.lf], by rw [h.lf]; exact h.row, h.el⟩
theorem Tbl.cell {w : World} {base g n j : Nat} {vs : List Value} {f : List (List Hp)} {u : Value} (h : Tbl w base g n vs f) (hu : vs[j]? = some u) : w.cell? ⟨g, j, none⟩ = some u := by
  have := h.row.cells rfl j u hu
  rwa [addr_add] at this
/-- One of the lists has grown. -/
theorem Tbl.put {w w' : World} {base g n j g' m c : Nat} {vs : List Value} {f : List (List Hp)} {u : Value} {l : List Hp} {x : Hp} (h : Tbl w base g n vs f) (hu : vs[j]? = some u) (hl : f[j]? = some l)
    (hg : w.grownBy w' u.ownBlock) (ho : w'.ownsRow base 64 2 (.slice (some ⟨g', 0, none⟩) m c) (l ++ [x]).length ((l ++ [x]).flatMap encH)) (hli : u.ownBlock = some g' ∨ g' = w.heap.size) :
    Tbl (w'.setCell ⟨g, j, none⟩ (.slice (some ⟨g', 0, none⟩) m c)) base g n (vs.set j (.slice (some ⟨g', 0, none⟩) m c)) (f.set j (l ++ [x])) ∧ w'.cell? ⟨g, j, none⟩ = some u ∧ w'.frozen? ⟨g, j, none⟩ = false := by
  have hel := h.el j u l hu hl
  have hrow : w'.ownsRow base 62 1 (.slice (some ⟨g, 0, none⟩) n n) n vs := h.row.kept hg (own_apart h.row hel (by decide))
  have hgb : ∃ cur, w'.heap[g]? = some (.cells cur 62 (0, 0)) := by
    rcases hrow.2 with ⟨hv, _⟩ | ⟨g2, c2, cur, hv, _, hgg, _⟩
    · cases hv
    · injection hv with hv
      injection hv with hv
      injection hv with hv
      subst hv
      exact ⟨cur, hgg⟩
  obtain ⟨cur, hgb⟩ := hgb
  have hjn : j < vs.length := (List.getElem?_eq_some_iff.1 hu).1
  refine ⟨⟨own_setRow hrow, by rw [List.length_set]; exact h.lv, by rw [List.length_set]; exact h.lf, ?_, ?_⟩, ?_, frozenK hrow j⟩
  · intro i v k hv hk
    have kb := Kept.box w' g j (.slice (some ⟨g', 0, none⟩) m c)
    by_cases hij : j = i
    · subst hij
      rw [List.getElem?_set_self hjn] at hv
      rw [List.getElem?_set_self (by rw [h.lf, ← h.lv]; exact hjn)] at hk
      injection hv with hv
      injection hk with hk
      subst hv hk
      exact kb.own ho fun q hq => own_block ho hq hgb (by decide)
    · rw [List.getElem?_set_ne hij] at hv hk
      have h1 := h.el i v k hv hk
      have h2 := h1.kept hg (h.ap i j v u (fun e => hij e.symm) hv hu).or
      exact kb.own h2 fun q hq => own_block h2 hq hgb (by decide)
  · intro i k a b hik ha hb
    by_cases h1 : j = i
    · subst h1
      rw [List.getElem?_set_self hjn] at ha
      injection ha with ha
      subst ha
      rw [List.getElem?_set_ne hik] at hb
      have hkf : k < f.length := by rw [h.lf, ← h.lv]; exact (List.getElem?_eq_some_iff.1 hb).1
      exact (h.ap j k u b hik hu hb).grown hli (h.el k b f[k] hb (List.getElem?_eq_getElem hkf))
    · rw [List.getElem?_set_ne h1] at ha
      by_cases h2 : j = k
      · subst h2
        rw [List.getElem?_set_self hjn] at hb
        injection hb with hb
        subst hb
        have hif : i < f.length := by rw [h.lf, ← h.lv]; exact (List.getElem?_eq_some_iff.1 ha).1
        exact ((h.ap j i u a (fun e => hik e.symm) hu ha).grown hli (h.el i a f[i] ha (List.getElem?_eq_getElem hif))).symm
      · rw [List.getElem?_set_ne h2] at hb
        exact h.ap i k a b hik ha hb
  · have := hrow.cells rfl j u hu
    rwa [addr_add] at this
theorem made_nil (m : Nat) : (madeCells (Value.slice none 0 0).cells (m * 1)).toList = List.replicate m (.slice none 0 0) := by
  simp [madeCells, Value.cells]
  refine List.ext_getElem? fun v => ?_
  rcases Nat.lt_or_ge v m with hv | hv
  · rw [List.getElem?_map, List.getElem?_range hv, List.getElem?_replicate, if_pos hv]
    simp [Nat.mod_one]
  · rw [List.getElem?_eq_none (by simpa using hv), List.getElem?_eq_none (by simpa using hv)]
/-- make([][]api.Hop, m). -/
theorem make_tbl (w : World) (m : Nat) (hm : m ≤ 1000000) :
    ∃ w', (Instr.makeSlice 51 (.int .i64 (m : Int)) (.int .i64 (m : Int))).run Tryz.prog w = .ok (.slice (some ⟨w.heap.size, 0, none⟩) m m) w' ∧ Tbl w' w.heap.size w.heap.size m (List.replicate m (.slice none 0 0)) (List.replicate m []) ∧ Below w.heap.size w w' := by
  obtain ⟨i0, hi, hz0, hz1, hz2⟩ := info_parts Tryz.infoL
  obtain ⟨w', h1, h2, h3⟩ := run_makeSlice_full (P := Tryz.prog) w w.heap.size 51 62 i0 (.slice none 0 0) 1 Tryz.underlying51 hi hz0 hz1 .i64 .i64 m (by omega) (by rw [hz2]; omega) (by unfold maxLen; omega) (Nat.le_refl _)
  rw [made_nil] at h2
  refine ⟨w', h1, ⟨h2, by simp, by simp, fun j u l hu hl => ?_, fun i j u v _ hu _ => ?_⟩, (Below.refl _ _).grown h3 (Nat.le_refl _) (fun k hk => by cases hk)⟩
  · rw [List.getElem?_replicate] at hu hl
    split at hu
    · injection hu with hu
      rw [if_pos (by assumption)] at hl
      injection hl with hl
      subst hu hl
      exact World.ownsRow_nil _ _ _ _
    · cases hu
  · rw [List.getElem?_replicate] at hu
    split at hu
    · injection hu with hu
      subst hu
      exact Apt.nil _
    · cases hu

/-- The hops of all vertices. -/
def tblF (n : Nat) (es : List Ed) : List (List Hp) := (List.range n).map fun (v : Nat) => hopsL es (v : Int)
theorem tblF_at {n v : Nat} {es : List Ed} (h : v < n) : (tblF n es)[v]? = some (hopsL es (v : Int)) := by simp [tblF, h]
theorem tblF_nil (n : Nat) : tblF n [] = List.replicate n [] := by
  refine List.ext_getElem? fun v => ?_
  rcases Nat.lt_or_ge v n with hv | hv
  · rw [tblF_at hv, List.getElem?_replicate, if_pos hv]; rfl
  · rw [List.getElem?_eq_none (by simpa [tblF] using hv), List.getElem?_eq_none (by simpa using hv)]
theorem tblF_step {n k j : Nat} {es : List Ed} {x : Ed} (hx : es[k]? = some x) (hj : x.1 = (j : Int)) (hn : j < n) : tblF n (es.take (k + 1)) = (tblF n (es.take k)).set j (hopsL (es.take k) (j : Int) ++ [(x.2.1, x.2.2)]) := by
  have hlen : (tblF n (es.take k)).length = n := by simp [tblF]
  refine List.ext_getElem? fun v => ?_
  rcases Nat.lt_or_ge v n with hv | hv
  · rw [tblF_at hv]
    by_cases e : j = v
    · subst e
      rw [List.getElem?_set_self (by omega), hops_yes hx (by simp [hj])]
    · rw [List.getElem?_set_ne e, tblF_at hv, hops_no hx (by rw [hj]; simp; omega)]
  · rw [List.getElem?_eq_none (by simpa [tblF] using hv), List.getElem?_eq_none (by rw [List.length_set]; omega)]
end Go.Proofs.YtbmkgnlfccigpaaGreat

namespace Go.Proofs.YtbmkgnlfccigpaaGreat
set_option maxRecDepth 100000
open Go.ChangeShapes Go.WideShapes Go.ChangeAt Go.RowKit

theorem own_preY {w : World} {base g n cap m : Nat} {e : TypeId} {size : Nat} {xs : List Value} (h : w.ownsRow base e size (.slice (some ⟨g, 0, none⟩) n cap) n xs) (hm : m ≤ n) : w.ownsRow base e size (.slice (some ⟨g, 0, none⟩) m cap) m (xs.take (m * size)) := by
  have hle : m * size ≤ n * size := Nat.mul_le_mul_right _ hm
  refine ⟨by rw [List.length_take, h.1]; omega, ?_⟩
  rcases h.2 with ⟨hv, _⟩ | ⟨g', cap', cur, hv, hg, hgg, hc, hm2, hcur, htk⟩
  · cases hv
  · injection hv with h1 _ h3
    injection h1 with h1
    injection h1 with h1
    subst h1 h3
    refine .inr ⟨g, cap, cur, rfl, hg, hgg, by omega, hm2, hcur, ?_⟩
    rw [← htk, List.take_take, Nat.min_eq_left hle]
end Go.Proofs.YtbmkgnlfccigpaaGreat

namespace Go.Proofs.YtbmkgnlfccigpaaGreat
set_option maxRecDepth 100000
open Go.ChangeShapes Go.WideShapes Go.ChangeAt Go.RowKit

/-- What reached answers: what is reached, in a list of its own. -/
def RcdP (n : Nat) (es : List Ed) (s : Int) (w : World) (e : Ending) (w' : World) : Prop := ∃ v', e = .returned v' ∧ w'.ownsRow w.heap.size 4 1 v' n ((reachF n es s).flatMap encT) ∧ Below w.heap.size w w'
theorem atB_get {l : List Bool} {n : Nat} {v : Int} (hl : l.length = n) (hv : 0 ≤ v ∧ v < (n : Int)) : l[v.toNat]? = some (atB l v) := by
  have h : v.toNat < l.length := by omega
  unfold atB
  rw [List.getD_eq_getElem?_getD, List.getElem?_eq_getElem h]
  rfl
theorem snoc_of {l : List Int} (h : 0 < l.length) : ∃ a x, l = a ++ [x] := by
  have hne : l ≠ [] := by intro e; rw [e] at h; simp at h
  exact ⟨l.dropLast, l.getLast hne, (List.dropLast_concat_getLast hne).symm⟩
theorem own_oneI (w : World) (x : Int) : (w.alloc (.cells #[.int .i64 x] 3)).ownsRow w.heap.size 3 1 (.slice (some ⟨w.heap.size, 0, none⟩) 1 1) 1 ([x].flatMap encI) :=
  ⟨rfl, .inr ⟨w.heap.size, 1, #[.int .i64 x], rfl, Nat.le_refl _, heap_alloc_new w _, Nat.le_refl _, by simp [maxLen], rfl, rfl⟩⟩
theorem count_rep (n : Nat) : (List.replicate n false).count false = n := by simp

set_option maxHeartbeats 4000000 in
set_option maxRecDepth 100000 in
theorem reached_any (v : Value) (es : List Ed) (n sv : Nat) (w : World) (h : LsR w v (tblF n es)) (hg : InG n es) (hn : n ≤ 200) (hl : es.length ≤ 600) (hs : sv < n) :
    Calls Tryz.prog 20 #[v, .int .i64 sv] w (RcdP n es sv w) := by
  have HR : Hid (LsR w v (tblF n es)) := h
  have HG : Hid (InG n es) := hg
  have htl : (tblF n es).length = n := by simp [tblF]
  obtain ⟨b, off, cap, rfl, hbl, hcp, hcm, _⟩ := h.at (by omega)
  rw [htl] at HR hcp ⊢
  unfold maxLen at hcm
  have hsi : 0 ≤ (sv : Int) ∧ (sv : Int) < (n : Int) := by omega
  have HP : Hid (∀ (w' : World) l, ReachL n es sv l → w'.ownsRow w.heap.size 4 1 (.slice (some ⟨w.heap.size, 0, none⟩) n n) n (l.flatMap encT) → Below w.heap.size w w' → RcdP n es sv w (.returned (.slice (some ⟨w.heap.size, 0, none⟩) n n)) w') := fun w' l h1 h2 h3 => ⟨_, rfl, by rw [← reach_uniq HG.out hsi h1]; exact h2, h3⟩
  generalize RcdP n es sv w = P at *
  obtain ⟨w1, hmk, ho1, hb1⟩ := make_bools w n (by omega)
  have k1 := own_atB ho1 (i := sv) (x := false) (by rw [List.getElem?_replicate, if_pos (by omega)])
  have f1 := frozenK ho1 sv
  have hs1 : w.heap.size < w1.heap.size := (ho1.lt _ rfl).2
  have O2 : Hid ((w1.setCell ⟨w.heap.size, sv, none⟩ (.bool true)).ownsRow w.heap.size 4 1 (.slice (some ⟨w.heap.size, 0, none⟩) n n) n ((reach0 n sv).flatMap encT)) := by
    show World.ownsRow _ _ _ _ _ _ _
    have := own_setB (j := sv) (x := true) ho1
    unfold reach0
    rwa [Int.toNat_natCast]
  have B2 : Hid (Below w.heap.size w (w1.setCell ⟨w.heap.size, sv, none⟩ (.bool true))) := hb1.setCell (Nat.le_refl _) _
  have HC0 : Hid ((reach0 n (sv : Int)).count false + 1 = n) := by
    have := unm_set (l := List.replicate n false) (v := (sv : Int)) (by simp) hsi repB_at
    rw [count_rep] at this
    exact this
  have T0 : Hid (TdM n es sv (reach0 n sv) [(sv : Int)] 0 []) := TdM.start HG.out hsi 0
  have i0 : (0 : Int) ≤ (sv : Int) := by omega
  have i1 : (sv : Int) < (n : Int) := by omega
  clear h hg htl ho1 hb1 hsi
  go_enter Tryz.func20, Tryz.ntmps20
  have HS2 : Hid ((w1.setCell ⟨w.heap.size, sv, none⟩ (.bool true)).heap.size = w1.heap.size) := size_setCell _ _ _
  go_wp2_with fail
  generalize w1.setCell ⟨w.heap.size, sv, none⟩ (.bool true) = w2 at *
  have O3 : Hid ((w2.alloc (.cells #[.int .i64 (sv : Int)] 3)).ownsRow w.heap.size 4 1 (.slice (some ⟨w.heap.size, 0, none⟩) n n) n ((reach0 n sv).flatMap encT)) := own_below O2.out (below_alloc _ _) (Nat.le_refl _)
  have T3 : Hid ((w2.alloc (.cells #[.int .i64 (sv : Int)] 3)).ownsRow w.heap.size 3 1 (.slice (some ⟨w1.heap.size, 0, none⟩) 1 1) 1 ([(sv : Int)].flatMap encI)) := by
    show World.ownsRow _ _ _ _ _ _ _
    rw [← HS2.out]
    exact own_lower (own_oneI w2 sv) B2.out.size
  have B3 : Hid (Below w.heap.size w (w2.alloc (.cells #[.int .i64 (sv : Int)] 3))) := B2.out.alloc B2.out.size _
  clear k1 f1 hmk
  go_loopg [6] n (fun gk u wr => ∃ (todo : List Int) (l : List Bool), todo.length + l.count false ≤ gk ∧ gk ≤ n ∧ TdM n es sv l todo 0 [] ∧ wr.ownsRow w.heap.size 4 1 (.slice (some ⟨w.heap.size, 0, none⟩) n n) n (l.flatMap encT) ∧ wr.ownsRow w.heap.size 3 1 u todo.length (todo.flatMap encI) ∧ Below w.heap.size w wr)
  case atStart =>
    refine ⟨[(sv : Int)], reach0 n sv, ?_, Nat.le_refl _, T0.out, O3.out, T3.out, B3.out⟩
    have := HC0.out
    simp only [List.length_singleton]
    omega
  case round =>
    obtain ⟨todo, l, hgk, hgn, hT, hO, hU, hB⟩ := hrel
    have HT : Hid (TdM n es sv l todo 0 []) := hT
    have HO : Hid (wr.ownsRow w.heap.size 4 1 (.slice (some ⟨w.heap.size, 0, none⟩) n n) n (l.flatMap encT)) := hO
    have HB : Hid (Below w.heap.size w wr) := hB
    clear hT hO hB O2 O3 T3 B2 B3 T0 HC0
    by_cases hz : 0 < todo.length
    · obtain ⟨td, x, rfl⟩ := snoc_of hz
      have hxi := HT.out.inn x (by simp)
      obtain ⟨j, rfl⟩ : ∃ j : Nat, x = j := ⟨x.toNat, by omega⟩
      have hjn : j < n := by omega
      have hll : (td ++ [(j : Int)]).length = td.length + 1 := by simp
      rw [hll] at hU hgk
      rcases own_shapeK hU with ⟨_, h0, _⟩ | ⟨g, c, rfl, hg1, hg2, hc1, hc2, _⟩
      · omega
      · have OU : Hid (wr.ownsRow w.heap.size 3 1 (.slice (some ⟨g, 0, none⟩) (td.length + 1) c) (td.length + 1) ((td ++ [(j : Int)]).flatMap encI)) := hU
        have c0 := own_atN hU (i := td.length) (x := (j : Int)) (by simp)
        have OT : Hid (wr.ownsRow w.heap.size 3 1 (.slice (some ⟨g, 0, none⟩) td.length c) td.length (td.flatMap encI)) := by
          show World.ownsRow _ _ _ _ _ _ _
          have := own_preY hU (m := td.length) (by omega)
          rw [flat_snoc, Nat.mul_one, List.take_left' (by rw [flat_len encI_len, Nat.mul_one])] at this
          exact this
        have HTM : Hid (TdM n es sv l td (j : Int) ((outs es (j : Int)).drop 0)) := HT.out.take (fun u hu => by
          rcases List.mem_append.1 hu with h | h
          · exact .inr h
          · simp at h; exact .inl h) (fun u hu => by simp [hu]) fun e he hv => outs_mem.2 ⟨he, hv⟩
        have HVJ : Hid (atB l (j : Int) = true) := hxi.2
        obtain ⟨b', off', cap', e1, lt', _, _, hv'⟩ := HR.out.at (by simp [tblF]; omega)
        injection e1 with e1 e2 e3
        clear e2
        injection e1 with e1
        injection e1 with e1 e1'
        subst e1 e1' e3
        obtain ⟨u, hu, hpr⟩ := hv' j _ (tblF_at hjn)
        have hu5 := (HB.out.cell (p := ⟨b, off + j, none⟩) lt').trans hu
        have HPW : Hid (HpR w u (hopsL es (j : Int))) := hpr
        obtain ⟨ua, uc, rfl⟩ := hpr.shape
        have hul : (hopsL es (j : Int)).length ≤ uc ∧ uc ≤ 2 ^ 63 - 1 := by
          obtain ⟨_, _, e, h1, h2, _⟩ := hpr
          injection e with _ _ e
          subst e
          exact ⟨h1, h2⟩
        have hol := outs_len es (j : Int)
        have hHl : (hopsL es (j : Int)).length ≤ 600 := by have := hops_len es (j : Int); omega
        have HHA : Hid (∀ k x, (hopsL es (j : Int))[k]? = some x → ∃ e, x = (e.2.1, e.2.2) ∧ e ∈ es ∧ e.1 = (j : Int) ∧ (outs es (j : Int)).drop k = e :: (outs es (j : Int)).drop (k + 1)) := fun k x hx => hop_at hx
        have HDE : Hid ((outs es (j : Int)).drop (hopsL es (j : Int)).length = []) := by
          show _ = _
          rw [← hol]; exact List.drop_length
        unfold maxLen at hc2
        have htn : td.length ≤ 200 := by omega
        have p0 : (0 : Int) ≤ (td.length : Int) := by omega
        have p1 : (td.length : Int) < (td.length : Int) + 1 := by omega
        have wl : IntKind.i64.wrap ((td.length : Int) + 1 - 1) = (td.length : Int) := by rw [Int.add_sub_cancel]; exact wrap_id64 (by omega) (by omega)
        have p2 : td.length ≤ c := by omega
        have p3 : (td.length : Int) ≤ (c : Int) := by omega
        have p4 : (0 : Int) ≤ (j : Int) := by omega
        have p5 : (j : Int) < (n : Int) := by omega
        clear hU hll hxi hv' hpr hu hol HT OU hz
        generalize hopsL es (j : Int) = H at *
        go_wp2_with fail
        go_loopw [6, 37] (fun u i wr => ∃ (k : Nat) (ts : List Int) (l : List Bool), k ≤ H.length ∧ i = .int .i64 k ∧ ts.length + l.count false + 1 ≤ gk ∧ TdM n es sv l ts (j : Int) ((outs es (j : Int)).drop k) ∧ atB l (j : Int) = true ∧ wr.ownsRow w.heap.size 4 1 (.slice (some ⟨w.heap.size, 0, none⟩) n n) n (l.flatMap encT) ∧ wr.ownsRow w.heap.size 3 1 u ts.length (ts.flatMap encI) ∧ Below w.heap.size w wr) (fun _ i _ => H.length - (intOf i).toNat)
        case atStart => exact ⟨0, td, l, by omega, rfl, by omega, HTM.out, HVJ.out, HO.out, OT.out, HB.out⟩
        case round =>
          obtain ⟨k, ts, l2, hk, rfl, hcn, hT, hvj, hO, hU, hB⟩ := hrel
          have KT : Hid (TdM n es sv l2 ts (j : Int) ((outs es (j : Int)).drop k)) := hT
          have KV : Hid (atB l2 (j : Int) = true) := hvj
          have KO : Hid (wr.ownsRow w.heap.size 4 1 (.slice (some ⟨w.heap.size, 0, none⟩) n n) n (l2.flatMap encT)) := hO
          have KU : Hid (wr.ownsRow w.heap.size 3 1 u6 ts.length (ts.flatMap encI)) := hU
          have KB : Hid (Below w.heap.size w wr) := hB
          obtain ⟨va, vn, vc, rfl⟩ : ∃ a n c, u6 = .slice a n c := by
            rcases own_shapeK hU with ⟨e, _⟩ | ⟨g', c', e, _⟩
            · exact ⟨_, _, _, e⟩
            · exact ⟨_, _, _, e⟩
          clear hT hvj hO hU hB hu5 c0 HO OT HTM HVJ HB
          by_cases hlt : k < H.length
          · obtain ⟨x, hx⟩ := getX hlt
            obtain ⟨e, rfl, hem, hev, hdr⟩ := HHA.out k x hx
            have HDR : Hid ((outs es (j : Int)).drop k = e :: (outs es (j : Int)).drop (k + 1)) := hdr
            have hgi := HG.out e hem
            obtain ⟨ub, uo, uc', e1, _, _, hub, huv⟩ := HpR.at HPW.out (by omega)
            injection e1 with e1 e2 e3
            clear e2
            subst e1 e3
            obtain ⟨d1, d2⟩ := huv k _ hx
            have d1' := (KB.out.cell (p := ⟨ub, uo + k * 2, none⟩) hub).trans d1
            have d2' := (KB.out.cell (p := ⟨ub, uo + k * 2 + 1, none⟩) hub).trans d2
            obtain ⟨ef, et, ew⟩ := e
            simp only at hgi d1' d2' hev
            have HEM : Hid ((ef, et, ew) ∈ es ∧ ef = (j : Int)) := ⟨hem, hev⟩
            obtain ⟨i, rfl⟩ : ∃ i : Nat, et = i := ⟨et.toNat, by omega⟩
            have hin : i < n := by omega
            have q0 : (0 : Int) ≤ (k : Int) := by omega
            have q1 : (k : Int) < (H.length : Int) := by omega
            have q2 : (0 : Int) ≤ (i : Int) := by omega
            have q3 : (i : Int) < (n : Int) := by omega
            have hbg := atB_get KT.out.ri.1 (v := (i : Int)) (by omega)
            rw [Int.toNat_natCast] at hbg
            have W6 : Hid ((wr.alloc (.cells #[.int .i64 (i : Int), .int .i64 ew] 64)).ownsRow w.heap.size 4 1 (.slice (some ⟨w.heap.size, 0, none⟩) n n) n (l2.flatMap encT) ∧ (wr.alloc (.cells #[.int .i64 (i : Int), .int .i64 ew] 64)).ownsRow w.heap.size 3 1 (.slice va vn vc) ts.length (ts.flatMap encI) ∧ Below w.heap.size w (wr.alloc (.cells #[.int .i64 (i : Int), .int .i64 ew] 64)) ∧ BX 64 (wr.alloc (.cells #[.int .i64 (i : Int), .int .i64 ew] 64)) wr.heap.size #[.int .i64 (i : Int), .int .i64 ew]) :=
              ⟨own_below KO.out (below_alloc _ _) (Nat.le_refl _), own_below KU.out (below_alloc _ _) (Nat.le_refl _), KB.out.alloc KB.out.size _, BX.new _ _ _⟩
            have HBG : Hid (l2[i]? = some (atB l2 (i : Int))) := hbg
            clear hx hem hev hdr huv d1 d2 hgi hbg
            go_upto_region 11 with fail
            generalize wr.alloc (.cells #[.int .i64 (i : Int), .int .i64 ew] 64) = w6 at *
            generalize wr.heap.size = b9 at *
            obtain ⟨ow6, ou6, be6, bx6⟩ := W6.out
            have OW6 : Hid (w6.ownsRow w.heap.size 4 1 (.slice (some ⟨w.heap.size, 0, none⟩) n n) n (l2.flatMap encT)) := ow6
            have OU6 : Hid (w6.ownsRow w.heap.size 3 1 (.slice va vn vc) ts.length (ts.flatMap encI)) := ou6
            have BE6 : Hid (Below w.heap.size w w6) := be6
            have BX6 : Hid (BX 64 w6 b9 #[.int .i64 (i : Int), .int .i64 ew]) := bx6
            obtain ⟨y0, y1, _⟩ := bx6.all2
            have c6 := own_atB ow6 HBG.out
            have f6 := frozenK ow6 i
            clear ow6 ou6 be6 bx6 W6 d1' d2'
            cases hb : atB l2 (i : Int) with
            | true =>
              rw [hb] at c6
              have HN : Hid (TdM n es sv l2 ts (j : Int) ((outs es (j : Int)).drop (k + 1))) := by
                have := KT.out
                rw [HDR.out] at this
                exact this.no fun _ => hb
              clear hb
              go_wp2_with fail
              go_roundw
              case rel => exact ⟨k + 1, ts, l2, by omega, by go_num, hcn, HN.out, KV.out, OW6.out, OU6.out, BE6.out⟩
              case measure => simp [intOf]; omega
            | false =>
              rw [hb] at c6
              have HTY : Hid (TdM n es sv (l2.set i true) (ts ++ [(i : Int)]) (j : Int) ((outs es (j : Int)).drop (k + 1))) := by
                have h1 := KT.out
                rw [HDR.out] at h1
                have h2 := h1.yes HG.out HEM.out.1 (by rw [HEM.out.2]; exact KV.out) (todo' := ts ++ [(i : Int)]) fun u => by simp only [List.mem_append, List.mem_singleton]; exact Or.comm
                rw [Int.toNat_natCast] at h2
                exact h2
              have hcs := unm_set (v := (i : Int)) KT.out.ri.1 (by omega) hb
              rw [Int.toNat_natCast] at hcs
              have hcn2 : (ts.length + 1) + (l2.set i true).count false + 1 ≤ gk := by omega
              have KV2 : Hid (atB (l2.set i true) (j : Int) = true) := by
                have := atB_set (i := (i : Int)) (v := (j : Int)) (x := true) KT.out.ri.1 (by omega) (by omega)
                rw [Int.toNat_natCast] at this
                show _ = _
                rw [this]
                split
                · rfl
                · exact KV.out
              have W7 : Hid ((w6.setCell ⟨w.heap.size, i, none⟩ (.bool true)).ownsRow w.heap.size 4 1 (.slice (some ⟨w.heap.size, 0, none⟩) n n) n ((l2.set i true).flatMap encT) ∧ (w6.setCell ⟨w.heap.size, i, none⟩ (.bool true)).ownsRow w.heap.size 3 1 (.slice va vn vc) ts.length (ts.flatMap encI) ∧ Below w.heap.size w (w6.setCell ⟨w.heap.size, i, none⟩ (.bool true)) ∧ BX 64 (w6.setCell ⟨w.heap.size, i, none⟩ (.bool true)) b9 #[.int .i64 (i : Int), .int .i64 ew]) := by
                refine ⟨own_setB OW6.out, ?_, BE6.out.setCell (Nat.le_refl _) _, BX6.out.other fun e => own_block OW6.out (g := w.heap.size) rfl BX6.out (by decide) e.symm⟩
                refine own_other OU6.out ?_
                have := own_apart OU6.out OW6.out (by decide)
                exact this
              have hts : ts.length ≤ 200 := by omega
              clear hb hcs hcn
              go_upto_region 13 with fail
              generalize w6.setCell ⟨w.heap.size, i, none⟩ (.bool true) = w7 at *
              obtain ⟨ow7, ou7, be7, bx7⟩ := W7.out
              clear y0 y1 c6 f6
              obtain ⟨y0, y1, _⟩ := bx7.all2
              have OW7 : Hid (w7.ownsRow w.heap.size 4 1 (.slice (some ⟨w.heap.size, 0, none⟩) n n) n ((l2.set i true).flatMap encT)) := ow7
              have OU7 : Hid (w7.ownsRow w.heap.size 3 1 (.slice va vn vc) ts.length (ts.flatMap encI)) := ou7
              have BE7 : Hid (Below w.heap.size w w7) := be7
              have hs7 := be7.size
              clear ow7 ou7 be7 bx7 W7
              go_wp2_with (at_builtin; refine wpList_append_newK kI rfl _ _ rfl w.heap.size _ ts rfl (OU7.out.alloc _) _ (i : Int) rfl #[.int .i64 (i : Int)] rfl (0, 0) (heap_alloc_new _ _) (by simp [kI]; omega) (by unfold maxLen; omega) (by simp; omega) ?_)
              intro g8 c8 w8 hown8 hb8 hg8
              have OW8 : Hid (w8.ownsRow w.heap.size 4 1 (.slice (some ⟨w.heap.size, 0, none⟩) n n) n ((l2.set i true).flatMap encT)) := (OW7.out.alloc _).kept hg8 (own_apart (OW7.out.alloc (.cells #[.int .i64 (i : Int)] 3)) (OU7.out.alloc _) (by decide))
              have OU8 : Hid (w8.ownsRow w.heap.size 3 1 (.slice (some ⟨g8, 0, none⟩) (ts.length + 1) c8) (ts ++ [(i : Int)]).length ((ts ++ [(i : Int)]).flatMap encI)) := by
                show World.ownsRow _ _ _ _ _ _ _
                rw [flat_snoc, List.length_append]; exact hown8
              have BE8 : Hid (Below w.heap.size w w8) := (BE7.out.alloc hs7 _).trans hb8
              have hln : (ts ++ [(i : Int)]).length = ts.length + 1 := by simp
              have hcn3 : (ts ++ [(i : Int)]).length + (l2.set i true).count false + 1 ≤ gk := by omega
              clear hown8 hb8 hg8 hln y0 y1
              generalize ts ++ [(i : Int)] = ts2 at *
              go_wp2_with fail
              go_roundw
              case rel => exact ⟨k + 1, ts2, _, by omega, by go_num, hcn3, HTY.out, KV2.out, OW8.out, OU8.out, BE8.out⟩
              case measure => simp [intOf]; omega
          · have ek : k = H.length := by omega
            have IE : Hid (TdM n es sv l2 ts 0 []) := by
              have := KT.out
              rw [ek, HDE.out] at this
              exact this.any
            clear ek
            go_wp2_with fail
            go_roundg (ts.length + l2.count false)
            case measure => omega
            case rel => exact ⟨ts, l2, Nat.le_refl _, by omega, IE.out, KO.out, KU.out, KB.out⟩
    · have e0 : todo = [] := List.eq_nil_of_length_eq_zero (by omega)
      have HD : Hid (ReachL n es sv l) := by
        have := HT.out
        rw [e0] at this
        exact this.done
      subst e0
      rcases own_shapeK hU with ⟨rfl, _⟩ | ⟨g, c, rfl, _⟩
      · go_wp2_with fail
        exact HP.out _ l HD.out HO.out HB.out
      · go_wp2_with fail
        exact HP.out _ l HD.out HO.out HB.out
end Go.Proofs.YtbmkgnlfccigpaaGreat

namespace Go.Proofs.YtbmkgnlfccigpaaGreat
set_option maxRecDepth 100000
open Go.ChangeShapes Go.WideShapes Go.ChangeAt Go.RowKit

/-- The first k are set. -/
def partN (m k : Nat) : List Int := List.replicate k (-1) ++ List.replicate (m - k) 0
theorem partN_len {m k : Nat} (h : k ≤ m) : (partN m k).length = m := by simp [partN]; omega
theorem partN_zero (m : Nat) : partN m 0 = List.replicate m 0 := by simp [partN]
theorem partN_all (m : Nat) : partN m m = List.replicate m (-1) := by simp [partN]
theorem partN_next {m k : Nat} (h : k < m) : (partN m k).set k (-1) = partN m (k + 1) := by
  unfold partN
  obtain ⟨d, hd⟩ : ∃ d, m - k = d + 1 := ⟨m - k - 1, by omega⟩
  rw [hd, show m - (k + 1) = d by omega, List.set_append_right _ _ (by simp), List.replicate_succ (n := d), List.replicate_succ' (n := k)]
  simp
theorem partN_at {m k : Nat} (h : k < m) : (partN m k)[k]? = some 0 := by
  unfold partN
  rw [List.getElem?_append_right (by simp), List.length_replicate, Nat.sub_self, List.getElem?_replicate, if_pos (by omega)]

set_option maxHeartbeats 1000000 in
set_option maxRecDepth 100000 in
theorem nones_any (m : Nat) (w : World) (hm : m ≤ 200) :
    Calls Tryz.prog 19 #[.int .i64 (m : Int)] w fun e w' => e = .returned (.slice (some ⟨w.heap.size, 0, none⟩) m m) ∧ w'.ownsRow w.heap.size 3 1 (.slice (some ⟨w.heap.size, 0, none⟩) m m) m ((List.replicate m (-1 : Int)).flatMap encI) ∧ Below w.heap.size w w' := by
  obtain ⟨w1, hmk, ho1, hb1⟩ := make_ints w m (by omega)
  have O1 : Hid (w1.ownsRow w.heap.size 3 1 (.slice (some ⟨w.heap.size, 0, none⟩) m m) m ((partN m 0).flatMap encI)) := by
    show World.ownsRow _ _ _ _ _ _ _
    rw [partN_zero]; exact ho1
  have B1 : Hid (Below w.heap.size w w1) := hb1
  clear ho1 hb1
  go_enter Tryz.func19, Tryz.ntmps19
  go_wp2_with fail
  go_loopw [9] (fun i wr => ∃ k : Nat, k ≤ m ∧ i = .int .i64 k ∧ wr.ownsRow w.heap.size 3 1 (.slice (some ⟨w.heap.size, 0, none⟩) m m) m ((partN m k).flatMap encI) ∧ Below w.heap.size w wr) (fun i _ => m - (intOf i).toNat)
  case atStart => exact ⟨0, by omega, rfl, O1.out, B1.out⟩
  case round =>
    obtain ⟨k, hk, rfl, hown, hbel⟩ := hrel
    have OW : Hid (wr.ownsRow w.heap.size 3 1 (.slice (some ⟨w.heap.size, 0, none⟩) m m) m ((partN m k).flatMap encI)) := hown
    have BW : Hid (Below w.heap.size w wr) := hbel
    clear hown hbel
    by_cases hlt : k < m
    · have c0 := own_atN OW.out (partN_at hlt)
      have f0 := frozenK OW.out k
      have p0 : (0 : Int) ≤ (k : Int) := by omega
      have p1 : (k : Int) < (m : Int) := by omega
      have ON : Hid ((wr.setCell ⟨w.heap.size, k, none⟩ (.int .i64 (-1))).ownsRow w.heap.size 3 1 (.slice (some ⟨w.heap.size, 0, none⟩) m m) m ((partN m (k + 1)).flatMap encI)) := by
        show World.ownsRow _ _ _ _ _ _ _
        rw [← partN_next hlt]
        exact own_setN OW.out
      have BN : Hid (Below w.heap.size w (wr.setCell ⟨w.heap.size, k, none⟩ (.int .i64 (-1)))) := BW.out.setCell (Nat.le_refl _) _
      go_wp2_with fail
      go_roundw
      case rel => exact ⟨k + 1, by omega, by go_num, ON.out, BN.out⟩
      case measure => simp [intOf]; omega
    · have ek : k = m := by omega
      subst ek
      have OE : Hid (wr.ownsRow w.heap.size 3 1 (.slice (some ⟨w.heap.size, 0, none⟩) k k) k ((List.replicate k (-1 : Int)).flatMap encI)) := by
        show World.ownsRow _ _ _ _ _ _ _
        rw [← partN_all]; exact OW.out
      go_wp2_with fail
      go_ret
      exact ⟨rfl, OE.out, BW.out⟩
end Go.Proofs.YtbmkgnlfccigpaaGreat

namespace Go.Proofs.YtbmkgnlfccigpaaGreat
set_option maxRecDepth 100000

def mutB (n : Nat) (es : List Ed) (v u : Nat) : Bool := atB (reachF n es v) (u : Int) && atB (reachF n es u) (v : Int)
def strongV (n : Nat) (es : List Ed) (v : Nat) : Nat := (List.range n).findIdx fun u => mutB n es v u
def strongF (n : Nat) (es : List Ed) : List Int := (List.range n).map fun v : Nat => (strongV n es v : Int)
theorem mutB_iff {n : Nat} {es : List Ed} {v u : Nat} (hg : InG n es) (hv : v < n) (hu : u < n) : mutB n es v u = true ↔ Mut es (v : Int) (u : Int) := by
  have h1 := (reach_ok (s := (v : Int)) hg ⟨by omega, by omega⟩).2 (u : Int) ⟨by omega, by omega⟩
  have h2 := (reach_ok (s := (u : Int)) hg ⟨by omega, by omega⟩).2 (v : Int) ⟨by omega, by omega⟩
  unfold mutB Mut
  rw [Bool.and_eq_true, h1, h2]
theorem strongV_is {n : Nat} {es : List Ed} {v c : Nat} (hc : c < n) (h1 : mutB n es v c = true) (h2 : ∀ u, u < c → mutB n es v u = false) : strongV n es v = c := by
  unfold strongV
  rw [List.findIdx_eq (by simpa using hc)]
  exact ⟨by simpa using h1, fun j hj => by simpa using h2 j hj⟩
theorem strongV_some {n : Nat} {es : List Ed} {v : Nat} (hg : InG n es) (hv : v < n) : strongV n es v < n ∧ mutB n es v (strongV n es v) = true ∧ ∀ u, u < strongV n es v → mutB n es v u = false := by
  have hvv : mutB n es v v = true := (mutB_iff hg hv hv).2 ⟨Rch.refl _ _, Rch.refl _ _⟩
  have hlt : strongV n es v < (List.range n).length := by
    unfold strongV
    exact List.findIdx_lt_length_of_exists ⟨v, by simpa using hv, hvv⟩
  have h1 := List.findIdx_getElem (p := fun u => mutB n es v u) (xs := List.range n) (w := hlt)
  have h1' : mutB n es v ((List.range n)[strongV n es v]'hlt) = true := h1
  rw [List.getElem_range] at h1'
  refine ⟨by simpa using hlt, h1', fun u hu => ?_⟩
  have := List.not_of_lt_findIdx (p := fun u => mutB n es v u) (xs := List.range n) (i := u) hu
  simpa using this
theorem strongF_len (n : Nat) (es : List Ed) : (strongF n es).length = n := by simp [strongF]
theorem strongF_at {n : Nat} {es : List Ed} {v : Nat} (hv : v < n) : (strongF n es)[v]? = some (strongV n es v : Int) := by
  unfold strongF
  rw [List.getElem?_map, List.getElem?_range hv]
  rfl
theorem strong_ok {n : Nat} {es : List Ed} (hg : InG n es) : StrongL n es (strongF n es) := by
  refine ⟨strongF_len n es, fun v hv => ?_⟩
  obtain ⟨k, rfl⟩ : ∃ k : Nat, v = k := ⟨v.toNat, by omega⟩
  have hk : k < n := by omega
  rw [atD_at (strongF_at (es := es) hk)]
  obtain ⟨h1, h2, h3⟩ := strongV_some hg hk
  refine ⟨⟨by omega, by omega⟩, ((mutB_iff hg hk h1).1 h2).symm, fun u hu hm => ?_⟩
  obtain ⟨j, rfl⟩ : ∃ j : Nat, u = j := ⟨u.toNat, by omega⟩
  rcases Nat.lt_or_ge j (strongV n es k) with h | h
  · have := h3 j h
    rw [(mutB_iff hg hk (by omega)).2 hm.symm] at this
    cases this
  · omega
theorem strong_uniq {n : Nat} {es : List Ed} {l : List Int} (hg : InG n es) (h : StrongL n es l) : l = strongF n es := LeastL.uniq h (strong_ok hg)
end Go.Proofs.YtbmkgnlfccigpaaGreat

namespace Go.Proofs.YtbmkgnlfccigpaaGreat
set_option maxRecDepth 100000
open Go.ChangeShapes Go.WideShapes Go.ChangeAt Go.RowKit

/-- The first k vertices are told: those that are marked twice have the number v. -/
def GvI (n : Nat) (l : List Int) (A B : List Bool) (v : Int) (k : Nat) (l2 : List Int) : Prop :=
  l2.length = n ∧ ∀ u : Int, 0 ≤ u ∧ u < (n : Int) → (u < (k : Int) ∧ atB A u = true ∧ atB B u = true ∧ atD l2 u = v) ∨ (¬ (u < (k : Int) ∧ atB A u = true ∧ atB B u = true) ∧ atD l2 u = atD l u)
theorem gv_start {n : Nat} {l : List Int} {A B : List Bool} {v : Int} (hl : l.length = n) : GvI n l A B v 0 l := ⟨hl, fun u hu => .inr ⟨fun h => by omega, rfl⟩⟩
theorem gv_no {n k : Nat} {l l2 : List Int} {A B : List Bool} {v : Int} (h : GvI n l A B v k l2) (hc : ¬ (atB A (k : Int) = true ∧ atB B (k : Int) = true)) : GvI n l A B v (k + 1) l2 := ⟨h.1, fun u hu => by
  rcases h.2 u hu with ⟨a, b, c, d⟩ | ⟨a, b⟩
  · exact .inl ⟨by omega, b, c, d⟩
  · refine .inr ⟨fun ⟨h1, h2, h3⟩ => ?_, b⟩
    by_cases e : u = (k : Int)
    · subst e; exact hc ⟨h2, h3⟩
    · exact a ⟨by omega, h2, h3⟩⟩
theorem gv_yes {n k : Nat} {l l2 : List Int} {A B : List Bool} {v : Int} (h : GvI n l A B v k l2) (hk : k < n) (ha : atB A (k : Int) = true) (hb : atB B (k : Int) = true) : GvI n l A B v (k + 1) (l2.set k v) := ⟨by rw [List.length_set]; exact h.1, fun u hu => by
  have hs := atD_set (i := (k : Int)) (v := u) (x := v) h.1 (by omega) hu
  rw [Int.toNat_natCast] at hs
  rw [hs]
  by_cases e : u = (k : Int)
  · subst e
    rw [if_pos rfl]
    exact .inl ⟨by omega, ha, hb, rfl⟩
  · rw [if_neg e]
    rcases h.2 u hu with ⟨a, b, c, d⟩ | ⟨a, b⟩
    · exact .inl ⟨by omega, b, c, d⟩
    · exact .inr ⟨fun ⟨h1, h2, h3⟩ => a ⟨by omega, h2, h3⟩, b⟩⟩
/-- All are told: the vertex v has given its number. -/
theorem gv_all {n k : Nat} {es ds : List Ed} {l l2 : List Int} (hg : InG n es) (hd : InG n ds) (ht : ∀ u v, Rch ds u v ↔ Rch es v u) (hk : k < n) (hL : LsI n (Mut es) k l) (hn : atD l (k : Int) = -1)
    (h : GvI n l (reachF n es (k : Int)) (reachF n ds (k : Int)) (k : Int) n l2) : LsI n (Mut es) (k + 1) l2 := by
  refine ls_give (fun h => h.symm) (fun h1 h2 => h1.trans h2) hk hL hn h.1 fun v hv => ?_
  have hki : 0 ≤ (k : Int) ∧ (k : Int) < (n : Int) := by omega
  have hA := (reach_ok hg hki).2 v hv
  have hB := (reach_ok hd hki).2 v hv
  rw [ht] at hB
  rcases h.2 v hv with ⟨_, b, c, d⟩ | ⟨a, b⟩
  · exact .inl ⟨⟨hA.1 b, hB.1 c⟩, d⟩
  · exact .inr ⟨fun hm => a ⟨hv.2, hA.2 hm.1, hB.2 hm.2⟩, b⟩

/-- What bothWays answers: of each vertex the least one with which it is tied both ways, in a list of its own. -/
def BthP (n : Nat) (es : List Ed) (w : World) (e : Ending) (w' : World) : Prop := ∃ v', e = .returned v' ∧ w'.ownsRow w.heap.size 3 1 v' n ((strongF n es).flatMap encI) ∧ Below w.heap.size w w'
theorem atD_got {l : List Int} {n : Nat} {v : Nat} (hl : l.length = n) (hv : v < n) : l[v]? = some (atD l (v : Int)) := by
  have h : v < l.length := by omega
  unfold atD
  rw [Int.toNat_natCast, List.getD_eq_getElem?_getD, List.getElem?_eq_getElem h]
  rfl
theorem atB_got {l : List Bool} {n : Nat} {v : Nat} (hl : l.length = n) (hv : v < n) : l[v]? = some (atB l (v : Int)) := by
  have := atB_get hl (v := (v : Int)) (by omega)
  rwa [Int.toNat_natCast] at this

set_option maxHeartbeats 2000000 in
set_option maxRecDepth 100000 in
theorem bothWays_any (vo vi : Value) (es ds : List Ed) (n : Nat) (w : World) (ho : LsR w vo (tblF n es)) (hi : LsR w vi (tblF n ds)) (hg : InG n es) (hd : InG n ds) (ht : ∀ u v, Rch ds u v ↔ Rch es v u) (hn : n ≤ 200) (hl : es.length ≤ 600) (hl2 : ds.length ≤ 600) :
    Calls Tryz.prog 12 #[vo, vi] w (BthP n es w) := by
  have HRO : Hid (LsR w vo (tblF n es)) := ho
  have HRI : Hid (LsR w vi (tblF n ds)) := hi
  have HA : Hid (∀ (k : Nat) (l l2 : List Int), k < n → LsI n (Mut es) k l → atD l (k : Int) = -1 → GvI n l (reachF n es (k : Int)) (reachF n ds (k : Int)) (k : Int) n l2 → LsI n (Mut es) (k + 1) l2) := fun k l l2 h1 h2 h3 h4 => gv_all hg hd ht h1 h2 h3 h4
  have HO : Hid (∀ (k : Nat) X, k < n → LsR X vo (tblF n es) → Calls Tryz.prog 20 #[vo, .int .i64 (k : Int)] X (RcdP n es k X)) := fun k X hk hX => reached_any vo es n k X hX hg hn hl hk
  have HI : Hid (∀ (k : Nat) X, k < n → LsR X vi (tblF n ds) → Calls Tryz.prog 20 #[vi, .int .i64 (k : Int)] X (RcdP n ds k X)) := fun k X hk hX => reached_any vi ds n k X hX hd hn hl2 hk
  have HEL : Hid (∀ k : Nat, k < n → (reachF n es (k : Int)).length = n) := fun k hk => (reach_ok hg ⟨by omega, by omega⟩).1
  have HDL : Hid (∀ k : Nat, k < n → (reachF n ds (k : Int)).length = n) := fun k hk => (reach_ok hd ⟨by omega, by omega⟩).1
  have HP : Hid (∀ (w' : World) l, LsI n (Mut es) n l → w'.ownsRow w.heap.size 3 1 (.slice (some ⟨w.heap.size, 0, none⟩) n n) n (l.flatMap encI) → Below w.heap.size w w' → BthP n es w (.returned (.slice (some ⟨w.heap.size, 0, none⟩) n n)) w') := fun w' l h1 h2 h3 => ⟨_, rfl, by
    rw [← strong_uniq hg (ls_end (fun v => ⟨Rch.refl _ _, Rch.refl _ _⟩) h1)]; exact h2, h3⟩
  have HNO : Hid (∀ X, Calls Tryz.prog 19 #[.int .i64 (n : Int)] X fun e w' => e = .returned (.slice (some ⟨X.heap.size, 0, none⟩) n n) ∧ w'.ownsRow X.heap.size 3 1 (.slice (some ⟨X.heap.size, 0, none⟩) n n) n ((List.replicate n (-1 : Int)).flatMap encI) ∧ Below X.heap.size X w') := fun X => nones_any n X hn
  generalize BthP n es w = P at *
  have htl : (tblF n es).length = n := by simp [tblF]
  have htd : (tblF n ds).length = n := by simp [tblF]
  obtain ⟨oa, oc, rfl, hoc, hom, _⟩ := ho
  obtain ⟨ia, ic, rfl, hic, him, _⟩ := hi
  rw [htl] at HRO HO hoc ⊢
  rw [htd] at HRI HI hic ⊢
  unfold maxLen at hom him
  clear htl htd hg hd ht hl hl2
  go_enter Tryz.func12, Tryz.ntmps12
  go_wp2_with fail
  refine (HNO.out _).mono ?_
  rintro e w1 ⟨rfl, ho1, hb1⟩
  have O1 : Hid (w1.ownsRow w.heap.size 3 1 (.slice (some ⟨w.heap.size, 0, none⟩) n n) n ((List.replicate n (-1 : Int)).flatMap encI)) := ho1
  have B1 : Hid (Below w.heap.size w w1) := hb1
  clear ho1 hb1 HNO
  go_wp2_with fail
  go_loopw [15] (fun i wr => ∃ (k : Nat) (l : List Int), k ≤ n ∧ i = .int .i64 k ∧ LsI n (Mut es) k l ∧ wr.ownsRow w.heap.size 3 1 (.slice (some ⟨w.heap.size, 0, none⟩) n n) n (l.flatMap encI) ∧ Below w.heap.size w wr) (fun i _ => n - (intOf i).toNat)
  case atStart => exact ⟨0, _, by omega, rfl, ls_start n _, O1.out, B1.out⟩
  case round =>
    obtain ⟨k, l, hk, rfl, hL, hown, hbel⟩ := hrel
    have HL : Hid (LsI n (Mut es) k l) := hL
    have OW : Hid (wr.ownsRow w.heap.size 3 1 (.slice (some ⟨w.heap.size, 0, none⟩) n n) n (l.flatMap encI)) := hown
    have BW : Hid (Below w.heap.size w wr) := hbel
    clear hL hown hbel O1 B1
    by_cases hlt : k < n
    · have c0 := own_atN OW.out (atD_got HL.out.1 hlt)
      have p0 : (0 : Int) ≤ (k : Int) := by omega
      have p1 : (k : Int) < (n : Int) := by omega
      by_cases hv : atD l (k : Int) = -1
      · rw [hv] at c0
        have t0 : ((-1 : Int) != (-1 : Int)) = false := by decide
        have HV : Hid (atD l (k : Int) = -1) := hv
        clear hv
        go_wp2_with fail
        refine (HO.out k _ hlt (HRO.out.below BW.out (Nat.le_refl _))).mono ?_
        rintro e w2 ⟨va, rfl, ho2, hb2⟩
        have O2 : Hid (w2.ownsRow wr.heap.size 4 1 va n ((reachF n es (k : Int)).flatMap encT)) := ho2
        have B2 : Hid (Below w.heap.size w w2) := BW.out.trans (hb2.mono BW.out.size)
        have L2 : Hid (w2.ownsRow w.heap.size 3 1 (.slice (some ⟨w.heap.size, 0, none⟩) n n) n (l.flatMap encI)) := own_below OW.out hb2 (Nat.le_refl _)
        clear hb2 c0
        rcases own_shapeK ho2 with ⟨_, h0, _⟩ | ⟨ga, ca, rfl, hga, hga2, hca, hcam, _⟩
        · omega
        clear ho2
        go_wp2_with fail
        refine (HI.out k _ hlt (HRI.out.below B2.out (Nat.le_refl _))).mono ?_
        rintro e w3 ⟨vb, rfl, ho3, hb3⟩
        have O3 : Hid (w3.ownsRow w2.heap.size 4 1 vb n ((reachF n ds (k : Int)).flatMap encT)) := ho3
        have B3 : Hid (Below w.heap.size w w3) := B2.out.trans (hb3.mono B2.out.size)
        have L3 : Hid (w3.ownsRow w.heap.size 3 1 (.slice (some ⟨w.heap.size, 0, none⟩) n n) n (l.flatMap encI)) := own_below L2.out hb3 (Nat.le_refl _)
        have A3 : Hid (w3.ownsRow wr.heap.size 4 1 (.slice (some ⟨ga, 0, none⟩) n ca) n ((reachF n es (k : Int)).flatMap encT)) := own_below O2.out hb3 (Nat.le_refl _)
        clear hb3 O2 L2
        rcases own_shapeK ho3 with ⟨_, h0, _⟩ | ⟨gb, cb, rfl, hgb, hgb2, hcb, hcbm, _⟩
        · omega
        clear ho3
        have HNX : Hid (∀ l2, GvI n l (reachF n es (k : Int)) (reachF n ds (k : Int)) (k : Int) n l2 → LsI n (Mut es) (k + 1) l2) := fun l2 h => HA.out k l l2 hlt HL.out HV.out h
        have hAl := HEL.out k hlt
        have hBl := HDL.out k hlt
        have HAL : Hid ((reachF n es (k : Int)).length = n) := hAl
        have HBL : Hid ((reachF n ds (k : Int)).length = n) := hBl
        unfold maxLen at hcam hcbm
        clear hAl hBl HV
        generalize reachF n es (k : Int) = A at *
        generalize reachF n ds (k : Int) = B at *
        generalize wr.heap.size = sA at *
        generalize w2.heap.size = sB at *
        go_wp2_with fail
        go_loopw [31] (fun i wr => ∃ (t : Nat) (l2 : List Int), t ≤ n ∧ i = .int .i64 t ∧ GvI n l A B (k : Int) t l2 ∧ wr.ownsRow w.heap.size 3 1 (.slice (some ⟨w.heap.size, 0, none⟩) n n) n (l2.flatMap encI) ∧ wr.ownsRow sA 4 1 (.slice (some ⟨ga, 0, none⟩) n ca) n (A.flatMap encT) ∧ wr.ownsRow sB 4 1 (.slice (some ⟨gb, 0, none⟩) n cb) n (B.flatMap encT) ∧ Below w.heap.size w wr) (fun i _ => n - (intOf i).toNat)
        case atStart => exact ⟨0, l, by omega, rfl, gv_start HL.out.1, L3.out, A3.out, O3.out, B3.out⟩
        case round =>
          obtain ⟨t, l2, htn, rfl, hG, hown, hoa, hob, hbel⟩ := hrel
          have KG : Hid (GvI n l A B (k : Int) t l2) := hG
          have KL : Hid (wr.ownsRow w.heap.size 3 1 (.slice (some ⟨w.heap.size, 0, none⟩) n n) n (l2.flatMap encI)) := hown
          have KA : Hid (wr.ownsRow sA 4 1 (.slice (some ⟨ga, 0, none⟩) n ca) n (A.flatMap encT)) := hoa
          have KB : Hid (wr.ownsRow sB 4 1 (.slice (some ⟨gb, 0, none⟩) n cb) n (B.flatMap encT)) := hob
          have KE : Hid (Below w.heap.size w wr) := hbel
          clear hG hown hoa hob hbel
          by_cases hltt : t < n
          · have a0 := own_atB KA.out (atB_got HAL.out hltt)
            have b0 := own_atB KB.out (atB_got HBL.out hltt)
            have d0 := own_atN KL.out (atD_got KG.out.1 hltt)
            have f0 := frozenK KL.out t
            have q0 : (0 : Int) ≤ (t : Int) := by omega
            have q1 : (t : Int) < (n : Int) := by omega
            have HNO : Hid (¬ (atB A (t : Int) = true ∧ atB B (t : Int) = true) → GvI n l A B (k : Int) (t + 1) l2) := fun h => gv_no KG.out h
            have HYE : Hid (atB A (t : Int) = true → atB B (t : Int) = true → GvI n l A B (k : Int) (t + 1) (l2.set t (k : Int))) := fun h1 h2 => gv_yes KG.out hltt h1 h2
            cases hA : atB A (t : Int) with
            | false =>
              rw [hA] at a0 HNO
              have KG2 : Hid (GvI n l A B (k : Int) (t + 1) l2) := HNO.out (by simp)
              clear hA HNO HYE
              go_wp2_with fail
              go_roundw
              case rel => exact ⟨t + 1, l2, by omega, by go_num, KG2.out, KL.out, KA.out, KB.out, KE.out⟩
              case measure => simp [intOf]; omega
            | true =>
              rw [hA] at a0 HNO HYE
              cases hB : atB B (t : Int) with
              | false =>
                rw [hB] at b0 HNO
                have KG2 : Hid (GvI n l A B (k : Int) (t + 1) l2) := HNO.out (by simp)
                clear hA hB HNO HYE
                go_wp2_with fail
                go_roundw
                case rel => exact ⟨t + 1, l2, by omega, by go_num, KG2.out, KL.out, KA.out, KB.out, KE.out⟩
                case measure => simp [intOf]; omega
              | true =>
                rw [hB] at b0 HYE
                have KG2 : Hid (GvI n l A B (k : Int) (t + 1) (l2.set t (k : Int))) := HYE.out rfl rfl
                have W5 : Hid ((wr.setCell ⟨w.heap.size, t, none⟩ (.int .i64 (k : Int))).ownsRow w.heap.size 3 1 (.slice (some ⟨w.heap.size, 0, none⟩) n n) n ((l2.set t (k : Int)).flatMap encI) ∧ (wr.setCell ⟨w.heap.size, t, none⟩ (.int .i64 (k : Int))).ownsRow sA 4 1 (.slice (some ⟨ga, 0, none⟩) n ca) n (A.flatMap encT) ∧ (wr.setCell ⟨w.heap.size, t, none⟩ (.int .i64 (k : Int))).ownsRow sB 4 1 (.slice (some ⟨gb, 0, none⟩) n cb) n (B.flatMap encT) ∧ Below w.heap.size w (wr.setCell ⟨w.heap.size, t, none⟩ (.int .i64 (k : Int)))) :=
                  ⟨own_setN KL.out, own_other KA.out (own_apart KA.out KL.out (by decide)), own_other KB.out (own_apart KB.out KL.out (by decide)), KE.out.setCell (Nat.le_refl _) _⟩
                clear hA hB HNO HYE
                go_wp2_with fail
                go_roundw
                case rel => exact ⟨t + 1, _, by omega, by go_num, KG2.out, W5.out.1, W5.out.2.1, W5.out.2.2.1, W5.out.2.2.2⟩
                case measure => simp [intOf]; omega
          · have et : t = n := by omega
            subst et
            have HN2 : Hid (LsI t (Mut es) (k + 1) l2) := HNX.out l2 KG.out
            go_wp2_with fail
            go_roundw
            case rel => exact ⟨k + 1, l2, by omega, by go_num, HN2.out, KL.out, KE.out⟩
            case measure => simp [intOf]; omega
      · have t0 : (atD l (k : Int) != -1) = true := by simpa using hv
        have HN2 : Hid (LsI n (Mut es) (k + 1) l) := ls_skip (fun h1 h2 => h1.trans h2) hlt HL.out hv
        clear hv
        generalize atD l (k : Int) = y at *
        go_wp2_with fail
        go_roundw
        case rel => exact ⟨k + 1, l, by omega, by go_num, HN2.out, OW.out, BW.out⟩
        case measure => simp [intOf]; omega
    · have ek : k = n := by omega
      subst ek
      go_wp2_with fail
      exact HP.out _ l HL.out OW.out BW.out
end Go.Proofs.YtbmkgnlfccigpaaGreat
