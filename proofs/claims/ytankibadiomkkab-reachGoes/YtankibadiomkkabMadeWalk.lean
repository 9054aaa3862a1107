/-
  Contract of pacelinekeep's own made: a graph that is right, out of raw numbers.
-/
import Derived.Test.YtankibadiomkkabPicked
import Derived.Test.YtankibadiomkkabRowAppend
import Derived.Test.YtankibadiomkkabGraphTwo
import Derived.Test.YtankibadiomkkabRegionLast
import Derived.Shelf.Abstract
import Derived.Deep.CutRange
namespace Go.Proofs.Ytankibadiomkkab
set_option maxRecDepth 100000
open Go.ChangeShapes Go.WideShapes Go.ChangeAt Go.RowKit

/-- A graph's box behind a store of its edges. -/
theorem heap_set1 {w : World} {b : Nat} {n : Int} {u v : Value} (h : w.heap[b]? = some (.cells #[.int .i64 n, u] 25 (0, 0))) : (w.setCell ⟨b, 1, none⟩ v).heap[b]? = some (.cells #[.int .i64 n, v] 25 (0, 0)) := by
  simp only [World.setCell, Array.getElem?_modify, if_true]
  rw [h]
  rfl
/-- What made makes of one way, in a graph of N vertices. -/
def wayE (N : Int) (x : Ed) : Ed := (pickF x.1 N, pickF x.2.1 N, pickF x.2.2 10)
def madeL (N : Int) (ws : List Ed) : List Ed := (ws.take 10).map (wayE N)

set_option maxHeartbeats 4000000 in
set_option maxRecDepth 100000 in
theorem made_any (n most : Int) (v : Value) (ws : List Ed) (w : World) (h : EdR w v ws) (hB : ∀ x ∈ ws, edB x) (hn : i64B n) (hm0 : 0 < most) (hm1 : most ≤ 199) :
    Calls Try.prog 5 #[.int .i64 n, v, .int .i64 most] w fun e w' => ∃ v', e = .returned (.agg #[.int .i64 (1 + pickF n most), v']) ∧
      w'.ownsRow w.heap.size 37 3 v' (madeL (1 + pickF n most) ws).length ((madeL (1 + pickF n most) ws).flatMap encE) ∧ Below w.heap.size w w' := by
  have HR : Hid (EdR w v ws) := h
  obtain ⟨a, cap, rfl, hcc, hcm, _, _⟩ := h
  unfold maxLen at hcm
  have HP : Hid (∀ X, Calls Try.prog 7 #[.int .i64 n, .int .i64 most] X fun e w' => e = .returned (.int .i64 (pickF n most)) ∧ w' = X) := fun X => picked_any n most X hn.1 hn.2 hm0 (by omega)
  have hpb := pickF_bd n most hm0
  have hw1 : IntKind.i64.wrap (1 + pickF n most) = 1 + pickF n most := wrap_id64 (by omega) (by omega)
  have hN0 : 0 < 1 + pickF n most := by omega
  have hN1 : 1 + pickF n most ≤ 200 := by omega
  have HPB : Hid (∀ x ∈ ws, edB x) := hB
  clear hB hpb
  generalize pickF n most = p at *
  go_enter Try.func5, Try.ntmps5
  go_wp2_with fail
  refine (HP.out _).mono ?_
  rintro e w1 ⟨rfl, rfl⟩
  clear HP
  go_wp2_with fail
  go_loopw [8] (fun i wr => ∃ (k : Nat) (u : Value), k ≤ ws.length ∧ k ≤ 10 ∧ i = .int .i64 k ∧ wr.ownsRow (w.heap.size + 2) 37 3 u ((ws.take k).map (wayE (1 + p))).length (((ws.take k).map (wayE (1 + p))).flatMap encE) ∧ wr.heap[w.heap.size + 1]? = some (.cells #[.int .i64 (1 + p), u] 25 (0, 0)) ∧ Below (w.heap.size + 1) (w.alloc (.cells #[.int .i64 0, .slice none 0 0] 25)) wr) (fun i _ => ws.length - (intOf i).toNat)
  case atStart => exact ⟨0, _, by omega, by omega, rfl, World.ownsRow_nil _ _ _ _, heap_second _ _ _ _, (Below.refl _ _).alloc (by simp) _⟩
  case round =>
    obtain ⟨k, u, hk, hk10, rfl, hown, hbox, hbel⟩ := hrel
    have OW : Hid (wr.ownsRow (w.heap.size + 2) 37 3 u ((ws.take k).map (wayE (1 + p))).length (((ws.take k).map (wayE (1 + p))).flatMap encE)) := hown
    have HB : Hid (Below (w.heap.size + 1) (w.alloc (.cells #[.int .i64 0, .slice none 0 0] 25)) wr) := hbel
    have HX : Hid (wr.heap[w.heap.size + 1]? = some (.cells #[.int .i64 (1 + p), u] 25 (0, 0))) := hbox
    have x0 : wr.cell? ⟨w.heap.size + 1, 0, none⟩ = some (.int .i64 (1 + p)) := by rw [cell_of_row _ _ _ _ _ _ hbox]; rfl
    have x1 : wr.cell? ⟨w.heap.size + 1, 1, none⟩ = some u := by rw [cell_of_row _ _ _ _ _ _ hbox]; rfl
    have x2 : wr.frozen? ⟨w.heap.size + 1, 1, none⟩ = false := by simp only [World.frozen?, hbox]; simp
    have hsr : w.heap.size + 2 ≤ wr.heap.size := (Array.getElem?_eq_some_iff.1 hbox).1
    obtain ⟨ua, un, uc, rfl⟩ : ∃ a n c, u = .slice a n c := by obtain ⟨a, c, e, _⟩ := RowK.own encE_len hown; exact ⟨_, _, _, e⟩
    clear hown hbel hbox
    by_cases hlt : k < ws.length
    · by_cases hlt2 : k < 10
      · obtain ⟨b, off, cap', e1, _, _, lt, hv⟩ := EdR.at (HR.out.below (box_below HB.out) (Nat.le_refl _)) (by omega)
        have ltw : b < w.heap.size := by
          obtain ⟨b', off', cap'', e2, _, _, lt', _⟩ := EdR.at HR.out (by omega)
          rw [e1] at e2
          injection e2 with e2 _ _
          injection e2 with e2
          injection e2 with e2
          omega
        injection e1 with e1 _ e3
        subst e1 e3
        obtain ⟨x, hx⟩ := getE hlt
        obtain ⟨c1, c2, c3⟩ := hv k x hx
        have hxb := HPB.out x (List.mem_of_getElem? hx)
        have HT : Hid ((ws.take (k + 1)).map (wayE (1 + p)) = (ws.take k).map (wayE (1 + p)) ++ [wayE (1 + p) x]) := by show _ = _; rw [take_snoc hx, List.map_append]; rfl
        have hlk : ((ws.take k).map (wayE (1 + p))).length = k := by simp; omega
        obtain ⟨⟨b0, b1⟩, ⟨b2, b3⟩, ⟨b4, b5⟩⟩ := hxb
        have p0 : (0 : Int) ≤ (k : Int) := by omega
        have p1 : (k : Int) < (ws.length : Int) := by omega
        clear hv hx
        generalize (ws.take k).map (wayE (1 + p)) = f at *
        go_upto_region 5 with fail
        have hsz : (wr.alloc (.cells #[.int .i64 (pickF x.1 (1 + p)), .int .i64 (pickF x.2.1 (1 + p)), .int .i64 (pickF x.2.2 10)] 37)).drew.heap.size = wr.heap.size + 1 := by simp
        obtain ⟨g, gc, w2, hrun, hown2, hgr⟩ := run_append_newK kE (w := (wr.alloc (.cells #[.int .i64 (pickF x.1 (1 + p)), .int .i64 (pickF x.2.1 (1 + p)), .int .i64 (pickF x.2.2 10)] 37)).drew) 23 (w.heap.size + 2) (.slice ua un uc) f ((OW.out.alloc _).drew) wr.heap.size (wayE (1 + p) x) #[.int .i64 (pickF x.1 (1 + p)), .int .i64 (pickF x.2.1 (1 + p)), .int .i64 (pickF x.2.2 10)] rfl (0, 0) (heap_alloc_new wr _) (by simp only [kE]; omega) (by unfold maxLen; omega) (by rw [hsz]; omega)
        unfold kE at hrun
        simp only at hrun
        have hbb : Below (w.heap.size + 2) wr w2 := (((Below.refl _ _).alloc hsr _).drew).grown hgr (by rw [hsz]; omega) (fun j hj => (OW.out.lt j hj).1)
        have y0 : w2.cell? ⟨w.heap.size + 1, 1, none⟩ = some (.slice ua un uc) := (hbb.cell (p := ⟨w.heap.size + 1, 1, none⟩) (Nat.lt_succ_self _)).trans x1
        have y1 : w2.frozen? ⟨w.heap.size + 1, 1, none⟩ = false := (hbb.frozen (p := ⟨w.heap.size + 1, 1, none⟩) (Nat.lt_succ_self _)).trans x2
        have O2 : Hid (w2.ownsRow (w.heap.size + 2) 37 3 (.slice (some ⟨g, 0, none⟩) (f.length + 1) gc) ((ws.take (k + 1)).map (wayE (1 + p))).length (((ws.take (k + 1)).map (wayE (1 + p))).flatMap encE)) := by
          show World.ownsRow _ _ _ _ _ _ _
          rw [HT.out]; exact hown2
        have B2 : Hid (Below (w.heap.size + 2) wr w2) := hbb
        clear hown2 hgr hsz hbb
        have O2' : Hid (w2.ownsRow (w.heap.size + 2) 37 3 (.slice (some ⟨g, 0, none⟩) (k + 1) gc) ((ws.take (k + 1)).map (wayE (1 + p))).length (((ws.take (k + 1)).map (wayE (1 + p))).flatMap encE)) := by have := O2.out; rwa [hlk] at this
        have HX2 : Hid (w2.heap[w.heap.size + 1]? = some (.cells #[.int .i64 (1 + p), .slice ua un uc] 25 (0, 0))) := (B2.out.block _ (Nat.lt_succ_self _)).trans HX.out
        have KEEP : Hid (∀ V : World, (∀ q, q < wr.heap.size → q < w.heap.size + 2 → V.heap[q]? = wr.heap[q]?) → V.cell? ⟨w.heap.size + 1, 1, none⟩ = some (.slice ua un uc) ∧ V.cell? ⟨w.heap.size + 1, 0, none⟩ = some (.int .i64 (1 + p)) ∧ V.cell? ⟨b, off + k * 3, none⟩ = some (.int .i64 x.1) ∧ V.cell? ⟨b, off + k * 3 + 1, none⟩ = some (.int .i64 x.2.1) ∧ V.cell? ⟨b, off + k * 3 + 2, none⟩ = some (.int .i64 x.2.2)) := fun V hV => by
          have cc : ∀ (q j : Nat) (u : Value), q < w.heap.size + 2 → wr.cell? ⟨q, j, none⟩ = some u → V.cell? ⟨q, j, none⟩ = some u := fun q j u hq hu => (World.cell?_of_block (a := ⟨q, j, none⟩) (hV q (World.block_lt_of_cell? wr _ hu) hq)).trans hu
          exact ⟨cc _ _ _ (by omega) x1, cc _ _ _ (by omega) x0, cc _ _ _ (by omega) c1, cc _ _ _ (by omega) c2, cc _ _ _ (by omega) c3⟩
        have HSD : Hid (wr.drew.cell? ⟨w.heap.size + 1, 1, none⟩ = some (.slice ua un uc) ∧ wr.drew.cell? ⟨w.heap.size + 1, 0, none⟩ = some (.int .i64 (1 + p)) ∧ wr.drew.cell? ⟨b, off + k * 3, none⟩ = some (.int .i64 x.1) ∧ wr.drew.cell? ⟨b, off + k * 3 + 1, none⟩ = some (.int .i64 x.2.1) ∧ wr.drew.cell? ⟨b, off + k * 3 + 2, none⟩ = some (.int .i64 x.2.2)) := KEEP.out _ (fun _ _ _ => rfl)
        have HSE : Hid ((wr.alloc (.cells #[.int .i64 (pickF x.1 (1 + p)), .int .i64 (pickF x.2.1 (1 + p)), .int .i64 (pickF x.2.2 10)] 37)).drew.cell? ⟨w.heap.size + 1, 1, none⟩ = some (.slice ua un uc) ∧ (wr.alloc (.cells #[.int .i64 (pickF x.1 (1 + p)), .int .i64 (pickF x.2.1 (1 + p)), .int .i64 (pickF x.2.2 10)] 37)).drew.cell? ⟨w.heap.size + 1, 0, none⟩ = some (.int .i64 (1 + p)) ∧ (wr.alloc (.cells #[.int .i64 (pickF x.1 (1 + p)), .int .i64 (pickF x.2.1 (1 + p)), .int .i64 (pickF x.2.2 10)] 37)).drew.cell? ⟨b, off + k * 3, none⟩ = some (.int .i64 x.1) ∧ (wr.alloc (.cells #[.int .i64 (pickF x.1 (1 + p)), .int .i64 (pickF x.2.1 (1 + p)), .int .i64 (pickF x.2.2 10)] 37)).drew.cell? ⟨b, off + k * 3 + 1, none⟩ = some (.int .i64 x.2.1) ∧ (wr.alloc (.cells #[.int .i64 (pickF x.1 (1 + p)), .int .i64 (pickF x.2.1 (1 + p)), .int .i64 (pickF x.2.2 10)] 37)).drew.cell? ⟨b, off + k * 3 + 2, none⟩ = some (.int .i64 x.2.2)) := KEEP.out _ (fun q hq _ => (below_alloc wr _).block q hq)
        have HSF : Hid (w2.cell? ⟨w.heap.size + 1, 1, none⟩ = some (.slice ua un uc) ∧ w2.cell? ⟨w.heap.size + 1, 0, none⟩ = some (.int .i64 (1 + p)) ∧ w2.cell? ⟨b, off + k * 3, none⟩ = some (.int .i64 x.1) ∧ w2.cell? ⟨b, off + k * 3 + 1, none⟩ = some (.int .i64 x.2.1) ∧ w2.cell? ⟨b, off + k * 3 + 2, none⟩ = some (.int .i64 x.2.2)) := KEEP.out _ (fun q _ hq => B2.out.block q hq)
        have epk : ∀ args w, (callFunc 7 args).run Try.prog w = .ok (.enter 7 args) w := enters_of Try.func7 (by kernel_rfl) rfl
        refine region_lastF (S := fun V => V.cell? ⟨w.heap.size + 1, 1, none⟩ = some (.slice ua un uc) ∧ V.cell? ⟨w.heap.size + 1, 0, none⟩ = some (.int .i64 (1 + p)) ∧ V.cell? ⟨b, off + k * 3, none⟩ = some (.int .i64 x.1) ∧ V.cell? ⟨b, off + k * 3 + 1, none⟩ = some (.int .i64 x.2.1) ∧ V.cell? ⟨b, off + k * 3 + 2, none⟩ = some (.int .i64 x.2.2)) (by kernel_rfl) (by kernel_rfl) (by kernel_rfl) (by kernel_rfl) ?_
        simp only [List.pop_toArray, List.dropLast_cons_cons, List.dropLast_singleton, List.size_toArray, List.length_cons, List.length_nil, Nat.reduceAdd]
        refine takeH (i := 0) (v := .pointer (some ⟨w.heap.size + 1, 1, none⟩)) (d := 24) rfl rfl (by kernel_rfl) (by kernel_rfl) (by kernel_rfl) (fun _ _ _ h => h) (by rfl) (fun V hV => by obtain ⟨v1, v2, v3, v4, v5⟩ := hV; go_simp) HSD.out ?_
        simp only [Act.put, List.setIfInBounds_toArray, List.set_cons_zero, List.set_cons_succ]
        refine takeH (i := 1) (v := .slice ua un uc) (d := 25) rfl rfl (by kernel_rfl) (by kernel_rfl) (by kernel_rfl) (fun _ _ _ h => h) (by rfl) (fun V hV => by obtain ⟨v1, v2, v3, v4, v5⟩ := hV; go_simp) HSD.out ?_
        simp only [Act.put, List.setIfInBounds_toArray, List.set_cons_zero, List.set_cons_succ]
        refine takeH (i := 2) (v := .slice (some ⟨b, off, none⟩) ws.length cap) (d := 26) rfl rfl (by kernel_rfl) (by kernel_rfl) (by kernel_rfl) (fun _ _ _ h => h) (by rfl) (fun V hV => by obtain ⟨v1, v2, v3, v4, v5⟩ := hV; go_simp) HSD.out ?_
        simp only [Act.put, List.setIfInBounds_toArray, List.set_cons_zero, List.set_cons_succ]
        refine takeH (i := 3) (v := .int .i64 (k : Int)) (d := 27) rfl rfl (by kernel_rfl) (by kernel_rfl) (by kernel_rfl) (fun _ _ _ h => h) (by rfl) (fun V hV => by obtain ⟨v1, v2, v3, v4, v5⟩ := hV; go_simp) HSD.out ?_
        simp only [Act.put, List.setIfInBounds_toArray, List.set_cons_zero, List.set_cons_succ]
        refine takeH (i := 4) (v := .pointer (some ⟨b, off + k * 3, none⟩)) (d := 28) rfl rfl (by kernel_rfl) (by kernel_rfl) (by kernel_rfl) (fun _ _ _ h => h) (by rfl) (fun V hV => by obtain ⟨v1, v2, v3, v4, v5⟩ := hV; go_simp) HSD.out ?_
        simp only [Act.put, List.setIfInBounds_toArray, List.set_cons_zero, List.set_cons_succ]
        refine takeH (i := 5) (v := .pointer (some ⟨b, off + k * 3, none⟩)) (d := 29) rfl rfl (by kernel_rfl) (by kernel_rfl) (by kernel_rfl) (fun _ _ _ h => h) (by rfl) (fun V hV => by obtain ⟨v1, v2, v3, v4, v5⟩ := hV; go_simp) HSD.out ?_
        simp only [Act.put, List.setIfInBounds_toArray, List.set_cons_zero, List.set_cons_succ]
        refine takeH (i := 6) (v := .int .i64 x.1) (d := 30) rfl rfl (by kernel_rfl) (by kernel_rfl) (by kernel_rfl) (fun _ _ _ h => h) (by rfl) (fun V hV => by obtain ⟨v1, v2, v3, v4, v5⟩ := hV; go_simp) HSD.out ?_
        simp only [Act.put, List.setIfInBounds_toArray, List.set_cons_zero, List.set_cons_succ]
        refine takeH (i := 7) (v := .pointer (some ⟨w.heap.size + 1, 0, none⟩)) (d := 31) rfl rfl (by kernel_rfl) (by kernel_rfl) (by kernel_rfl) (fun _ _ _ h => h) (by rfl) (fun V hV => by obtain ⟨v1, v2, v3, v4, v5⟩ := hV; go_simp) HSD.out ?_
        simp only [Act.put, List.setIfInBounds_toArray, List.set_cons_zero, List.set_cons_succ]
        refine takeH (i := 8) (v := .int .i64 (1 + p)) (d := 32) rfl rfl (by kernel_rfl) (by kernel_rfl) (by kernel_rfl) (fun _ _ _ h => h) (by rfl) (fun V hV => by obtain ⟨v1, v2, v3, v4, v5⟩ := hV; go_simp) HSD.out ?_
        simp only [Act.put, List.setIfInBounds_toArray, List.set_cons_zero, List.set_cons_succ]
        refine takeH (i := 10) (v := .slice (some ⟨b, off, none⟩) ws.length cap) (d := 34) rfl rfl (by kernel_rfl) (by kernel_rfl) (by kernel_rfl) (fun _ _ _ h => h) (by rfl) (fun V hV => by obtain ⟨v1, v2, v3, v4, v5⟩ := hV; go_simp) HSD.out ?_
        simp only [Act.put, List.setIfInBounds_toArray, List.set_cons_zero, List.set_cons_succ]
        refine takeH (i := 11) (v := .int .i64 (k : Int)) (d := 35) rfl rfl (by kernel_rfl) (by kernel_rfl) (by kernel_rfl) (fun _ _ _ h => h) (by rfl) (fun V hV => by obtain ⟨v1, v2, v3, v4, v5⟩ := hV; go_simp) HSD.out ?_
        simp only [Act.put, List.setIfInBounds_toArray, List.set_cons_zero, List.set_cons_succ]
        refine takeH (i := 12) (v := .pointer (some ⟨b, off + k * 3, none⟩)) (d := 36) rfl rfl (by kernel_rfl) (by kernel_rfl) (by kernel_rfl) (fun _ _ _ h => h) (by rfl) (fun V hV => by obtain ⟨v1, v2, v3, v4, v5⟩ := hV; go_simp) HSD.out ?_
        simp only [Act.put, List.setIfInBounds_toArray, List.set_cons_zero, List.set_cons_succ]
        refine takeH (i := 13) (v := .pointer (some ⟨b, off + k * 3 + 1, none⟩)) (d := 37) rfl rfl (by kernel_rfl) (by kernel_rfl) (by kernel_rfl) (fun _ _ _ h => h) (by rfl) (fun V hV => by obtain ⟨v1, v2, v3, v4, v5⟩ := hV; go_simp) HSD.out ?_
        simp only [Act.put, List.setIfInBounds_toArray, List.set_cons_zero, List.set_cons_succ]
        refine takeH (i := 14) (v := .int .i64 x.2.1) (d := 38) rfl rfl (by kernel_rfl) (by kernel_rfl) (by kernel_rfl) (fun _ _ _ h => h) (by rfl) (fun V hV => by obtain ⟨v1, v2, v3, v4, v5⟩ := hV; go_simp) HSD.out ?_
        simp only [Act.put, List.setIfInBounds_toArray, List.set_cons_zero, List.set_cons_succ]
        refine takeH (i := 15) (v := .pointer (some ⟨w.heap.size + 1, 0, none⟩)) (d := 39) rfl rfl (by kernel_rfl) (by kernel_rfl) (by kernel_rfl) (fun _ _ _ h => h) (by rfl) (fun V hV => by obtain ⟨v1, v2, v3, v4, v5⟩ := hV; go_simp) HSD.out ?_
        simp only [Act.put, List.setIfInBounds_toArray, List.set_cons_zero, List.set_cons_succ]
        refine takeH (i := 16) (v := .int .i64 (1 + p)) (d := 40) rfl rfl (by kernel_rfl) (by kernel_rfl) (by kernel_rfl) (fun _ _ _ h => h) (by rfl) (fun V hV => by obtain ⟨v1, v2, v3, v4, v5⟩ := hV; go_simp) HSD.out ?_
        simp only [Act.put, List.setIfInBounds_toArray, List.set_cons_zero, List.set_cons_succ]
        refine takeH (i := 18) (v := .slice (some ⟨b, off, none⟩) ws.length cap) (d := 42) rfl rfl (by kernel_rfl) (by kernel_rfl) (by kernel_rfl) (fun _ _ _ h => h) (by rfl) (fun V hV => by obtain ⟨v1, v2, v3, v4, v5⟩ := hV; go_simp) HSD.out ?_
        simp only [Act.put, List.setIfInBounds_toArray, List.set_cons_zero, List.set_cons_succ]
        refine takeH (i := 19) (v := .int .i64 (k : Int)) (d := 43) rfl rfl (by kernel_rfl) (by kernel_rfl) (by kernel_rfl) (fun _ _ _ h => h) (by rfl) (fun V hV => by obtain ⟨v1, v2, v3, v4, v5⟩ := hV; go_simp) HSD.out ?_
        simp only [Act.put, List.setIfInBounds_toArray, List.set_cons_zero, List.set_cons_succ]
        refine takeH (i := 20) (v := .pointer (some ⟨b, off + k * 3, none⟩)) (d := 44) rfl rfl (by kernel_rfl) (by kernel_rfl) (by kernel_rfl) (fun _ _ _ h => h) (by rfl) (fun V hV => by obtain ⟨v1, v2, v3, v4, v5⟩ := hV; go_simp) HSD.out ?_
        simp only [Act.put, List.setIfInBounds_toArray, List.set_cons_zero, List.set_cons_succ]
        refine takeH (i := 21) (v := .pointer (some ⟨b, off + k * 3 + 2, none⟩)) (d := 45) rfl rfl (by kernel_rfl) (by kernel_rfl) (by kernel_rfl) (fun _ _ _ h => h) (by rfl) (fun V hV => by obtain ⟨v1, v2, v3, v4, v5⟩ := hV; go_simp) HSD.out ?_
        simp only [Act.put, List.setIfInBounds_toArray, List.set_cons_zero, List.set_cons_succ]
        refine takeH (i := 22) (v := .int .i64 x.2.2) (d := 46) rfl rfl (by kernel_rfl) (by kernel_rfl) (by kernel_rfl) (fun _ _ _ h => h) (by rfl) (fun V hV => by obtain ⟨v1, v2, v3, v4, v5⟩ := hV; go_simp) HSD.out ?_
        simp only [Act.put, List.setIfInBounds_toArray, List.set_cons_zero, List.set_cons_succ]
        refine oneH (i := 9) rfl (by kernel_rfl) rfl (call_same (d := 33) (f := 7) (xs := #[.tmp 30, .tmp 32]) (ats := #[3, 3]) rfl rfl epk (vs := #[.int .i64 x.1, .int .i64 (1 + p)]) (by simp [Act.eval]) (picked_any _ _ _ (by omega) (by omega) (by omega) (by omega)) ⟨HSD.out, ?_⟩)
        simp only [Act.put, List.setIfInBounds_toArray, List.set_cons_zero, List.set_cons_succ]
        refine oneH (i := 17) rfl (by kernel_rfl) rfl (call_same (d := 41) (f := 7) (xs := #[.tmp 38, .tmp 40]) (ats := #[3, 3]) rfl rfl epk (vs := #[.int .i64 x.2.1, .int .i64 (1 + p)]) (by simp [Act.eval]) (picked_any _ _ _ (by omega) (by omega) (by omega) (by omega)) ⟨HSD.out, ?_⟩)
        simp only [Act.put, List.setIfInBounds_toArray, List.set_cons_zero, List.set_cons_succ]
        refine oneH (i := 23) rfl (by kernel_rfl) rfl (call_same (d := 47) (f := 7) (xs := #[.tmp 46, .const (.int .i64 10)]) (ats := #[3, 3]) rfl rfl epk (vs := #[.int .i64 x.2.2, .int .i64 10]) (by simp [Act.eval]) (picked_any _ _ _ (by omega) (by omega) (by omega) (by omega)) ⟨HSD.out, ?_⟩)
        simp only [Act.put, List.setIfInBounds_toArray, List.set_cons_zero, List.set_cons_succ]
        refine takeH (i := 24) (v := .agg #[.int .i64 (pickF x.1 (1 + p)), .int .i64 (pickF x.2.1 (1 + p)), .int .i64 (pickF x.2.2 10)]) (d := 48) rfl rfl (by kernel_rfl) (by kernel_rfl) (by kernel_rfl) (fun _ _ _ h => h) (by rfl) (fun V hV => by go_simp) HSD.out ?_
        simp only [Act.put, List.setIfInBounds_toArray, List.set_cons_zero, List.set_cons_succ]
        refine oneH (i := 25) rfl (by kernel_rfl) rfl (op_run (d := 49) (v' := .slice (some ⟨wr.heap.size, 0, none⟩) 1 1) (w' := (wr.alloc (.cells #[.int .i64 (pickF x.1 (1 + p)), .int .i64 (pickF x.2.1 (1 + p)), .int .i64 (pickF x.2.2 10)] 37)).drew) rfl (by go_simp) ⟨HSE.out, ?_⟩)
        simp only [Act.put, List.setIfInBounds_toArray, List.set_cons_zero, List.set_cons_succ]
        refine oneH (i := 26) rfl (by kernel_rfl) rfl (call_append (d := 50) (s := .tmp 25) (x := .tmp 49) (t := 23) rfl rfl (v := .slice ua un uc) (v2 := .slice (some ⟨wr.heap.size, 0, none⟩) 1 1) (by simp [Act.eval]) (by simp [Act.eval]) hrun ⟨HSF.out, ?_⟩)
        simp only [Act.put, List.setIfInBounds_toArray, List.set_cons_zero, List.set_cons_succ]
        refine takeH (i := 27) (v := .pointer (some ⟨w.heap.size + 1, 1, none⟩)) (d := 51) rfl rfl (by kernel_rfl) (by kernel_rfl) (by kernel_rfl) (fun _ _ _ h => h) (by rfl) (fun V hV => by go_simp) HSF.out ?_
        simp only [Act.put, List.setIfInBounds_toArray, List.set_cons_zero, List.set_cons_succ]
        refine wpAnyH_done (by kernel_rfl) ?_ _
        clear HSD HSE HSF
        show Oper.wp _ _ _ _ _ _
        go_wp2_with fail
        go_roundw
        case rel => exact ⟨k + 1, .slice (some ⟨g, 0, none⟩) (k + 1) gc, by omega, by omega, by go_num, RowK.setBelow O2'.out (show w.heap.size + 1 < w.heap.size + 2 by omega) _, heap_set1 HX2.out, (HB.out.trans (B2.out.mono (by omega))).setCell (Nat.le_refl _) _⟩
        case measure => simp [intOf]; omega
      · -- ten ways are had
        have O3 : Hid (wr.ownsRow (w.heap.size + 2) 37 3 (.slice ua un uc) (madeL (1 + p) ws).length ((madeL (1 + p) ws).flatMap encE)) := by
          have e : (ws.take k).map (wayE (1 + p)) = madeL (1 + p) ws := by
            unfold madeL
            congr 1
            rw [show k = 10 by omega]
          rw [← e]; exact OW.out
        obtain ⟨q0, q1⟩ := gbox_cells HB.out
        have q2 : wr.frozen? ⟨w.heap.size, 0, none⟩ = false := (HB.out.frozen (p := ⟨w.heap.size, 0, none⟩) (Nat.lt_succ_self _)).trans (by simp only [World.frozen?, heap_alloc_new]; simp)
        have q3 : wr.frozen? ⟨w.heap.size, 1, none⟩ = false := (HB.out.frozen (p := ⟨w.heap.size, 1, none⟩) (Nat.lt_succ_self _)).trans (by simp only [World.frozen?, heap_alloc_new]; simp)
        clear OW
        go_wp2_with fail
        obtain ⟨r0, r1⟩ := gput_cells (n := 1 + p) (v := .slice ua un uc) q0 q1
        refine bodyPost_ret (v := .agg #[.int .i64 (1 + p), .slice ua un uc]) (by simp [results, Try.results5, go_sem, r0, r1]) rfl ⟨_, rfl, ?_, ?_⟩
        · exact own_lower (RowK.setBelow (RowK.setBelow O3.out (show w.heap.size < w.heap.size + 2 by omega) _) (show w.heap.size < w.heap.size + 2 by omega) _) (by omega)
        · exact ((box_below HB.out).setCell (Nat.le_refl _) _).setCell (Nat.le_refl _) _
    · have O3 : Hid (wr.ownsRow (w.heap.size + 2) 37 3 (.slice ua un uc) (madeL (1 + p) ws).length ((madeL (1 + p) ws).flatMap encE)) := by
        have e : (ws.take k).map (wayE (1 + p)) = madeL (1 + p) ws := by
          unfold madeL
          congr 1
          rw [List.take_of_length_le (by omega), List.take_of_length_le (by omega)]
        rw [← e]; exact OW.out
      obtain ⟨q0, q1⟩ := gbox_cells HB.out
      have q2 : wr.frozen? ⟨w.heap.size, 0, none⟩ = false := (HB.out.frozen (p := ⟨w.heap.size, 0, none⟩) (Nat.lt_succ_self _)).trans (by simp only [World.frozen?, heap_alloc_new]; simp)
      have q3 : wr.frozen? ⟨w.heap.size, 1, none⟩ = false := (HB.out.frozen (p := ⟨w.heap.size, 1, none⟩) (Nat.lt_succ_self _)).trans (by simp only [World.frozen?, heap_alloc_new]; simp)
      clear OW
      go_wp2_with fail
      obtain ⟨r0, r1⟩ := gput_cells (n := 1 + p) (v := .slice ua un uc) q0 q1
      refine bodyPost_ret (v := .agg #[.int .i64 (1 + p), .slice ua un uc]) (by simp [results, Try.results5, go_sem, r0, r1]) rfl ⟨_, rfl, ?_, ?_⟩
      · exact own_lower (RowK.setBelow (RowK.setBelow O3.out (show w.heap.size < w.heap.size + 2 by omega) _) (show w.heap.size < w.heap.size + 2 by omega) _) (by omega)
      · exact ((box_below HB.out).setCell (Nat.le_refl _) _).setCell (Nat.le_refl _) _
end Go.Proofs.Ytankibadiomkkab
