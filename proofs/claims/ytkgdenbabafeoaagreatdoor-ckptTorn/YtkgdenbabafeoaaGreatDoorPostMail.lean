/-
  Contract of pacelinekeep's own posts, at whatever number of pieces; posts and trips that came in.
-/
import Derived.Test.YtkgdenbabafeoaaGreatDoorMailTwo
import Derived.Test.YtkgdenbabafeoaaGreatDoorPicked
import Derived.Test.YtkgdenbabafeoaaGreatDoorRegionLast
import Derived.Shelf.Abstract
import Derived.Deep.CutRange
import Derived.Deep.QuietTactic
import Derived.BigQuiet
namespace Go.Proofs.YtkgdenbabafeoaaGreatDoor
set_option maxRecDepth 100000
open Go.ChangeShapes Go.WideShapes Go.ChangeAt Go.RowKit

theorem open_posts {H : Type} {enc : TypeId × Value → H} {W : World} {v0 : Value} {d0 : DataW H} {p0 : List MemPlace} (hv : ∃ a len cap, v0 = .slice a len cap) (h0 : DataW.Trod enc Tryz.prog W 0 (fun _ => true) true 22 v0 d0 p0)
    (hs : ∀ m ∈ d0.weights Tryz.prog 22, m ≤ reachBytes) : ∃ es, MlR W v0 es ∧ (∀ x ∈ es, mlB x) ∧ es.length * 16 ≤ 140737488351232 := by
  obtain ⟨a, len, cap, rfl⟩ := hv
  obtain ⟨fuel, hf⟩ := h0
  have hf' : DataW.trod enc Tryz.prog W 0 (fun _ => true) true fuel 22 [.slice a len cap] = some (d0, p0) := hf
  exact open_twos Tryz.underlying22 Tryz.underlying51 (by kernel_rfl) rfl rfl rfl rfl (by kernel_rfl) hf' hs
/-- What posts makes of raw numbers. -/
def postX (x : Ml) : Ml := (pickF x.1 6, pickF x.2 1000)
def postN (mm : Nat) (es : List Ml) : List Ml := (es.take mm).map postX
theorem postN_len (mm : Nat) (es : List Ml) : (postN mm es).length ≤ mm := by unfold postN; rw [List.length_map, List.length_take]; omega

set_option maxHeartbeats 4000000 in
set_option maxRecDepth 100000 in
theorem posts_upto (mm : Nat) (hmm : mm ≤ 1000) (v : Value) (es : List Ml) (w : World) (h : MlR w v es) (hB : ∀ x ∈ es, mlB x) :
    Calls Tryz.prog 18 #[v, .int .i64 (mm : Int)] w fun e w' => ∃ v', e = .returned v' ∧ w'.ownsRow w.heap.size 62 2 v' (postN mm es).length ((postN mm es).flatMap encM) ∧ Below w.heap.size w w' := by
  have HR : Hid (MlR w v es) := h
  obtain ⟨a, cap, rfl, hcc, hcm, _, _⟩ := h
  unfold maxLen at hcm
  have HPB : Hid (∀ x ∈ es, mlB x) := hB
  clear hB
  go_enter Tryz.func18, Tryz.ntmps18
  go_wp2_with fail
  go_loopw [5, 6] (fun u i wr => ∃ k : Nat, k ≤ es.length ∧ k ≤ mm ∧ i = .int .i64 k ∧ wr.ownsRow w.heap.size 62 2 u ((es.take k).map postX).length (((es.take k).map postX).flatMap encM) ∧ Below w.heap.size w wr) (fun _ i _ => es.length - (intOf i).toNat)
  case atStart => exact ⟨0, by omega, by omega, rfl, World.ownsRow_nil _ _ _ _, Below.refl _ _⟩
  case round =>
    obtain ⟨k, hk, hk40, rfl, hown, hbel⟩ := hrel
    have OW : Hid (wr.ownsRow w.heap.size 62 2 u5 ((es.take k).map postX).length (((es.take k).map postX).flatMap encM)) := hown
    have HB : Hid (Below w.heap.size w wr) := hbel
    have hsr := hbel.size
    clear hown hbel
    by_cases hlt : k < es.length
    · by_cases hlt2 : k < mm
      · obtain ⟨b, off, cap', e1, _, _, lt, hv⟩ := MlR.at (HR.out.below HB.out (Nat.le_refl _)) (by omega)
        have ltw : b < w.heap.size := by
          obtain ⟨b', off', cap'', e2, _, _, lt', _⟩ := MlR.at HR.out (by omega)
          rw [e1] at e2
          injection e2 with e2 _ _
          injection e2 with e2
          injection e2 with e2
          omega
        injection e1 with e1 _ e3
        subst e1 e3
        obtain ⟨x, hx⟩ := getX hlt
        obtain ⟨c1, c2⟩ := hv k x hx
        have hxb := HPB.out x (List.mem_of_getElem? hx)
        have HT : Hid ((es.take (k + 1)).map postX = (es.take k).map postX ++ [postX x]) := by show _ = _; rw [take_snoc hx, List.map_append]; rfl
        have hlk : ((es.take k).map postX).length ≤ 1000 := by simp; omega
        obtain ⟨⟨b0, b1⟩, ⟨b2, b3⟩⟩ := hxb
        have p0 : (0 : Int) ≤ (k : Int) := by omega
        have p1 : (k : Int) < (es.length : Int) := by omega
        clear hv hx
        generalize (es.take k).map postX = f at *
        go_upto_region 5 with fail
        have hsz : (wr.alloc (.cells #[.int .i64 (pickF x.1 6), .int .i64 (pickF x.2 1000)] 62)).drew.heap.size = wr.heap.size + 1 := by simp
        obtain ⟨g, gc, w2, hrun, hown2, hgr⟩ := run_append_newK kM (w := (wr.alloc (.cells #[.int .i64 (pickF x.1 6), .int .i64 (pickF x.2 1000)] 62)).drew) 26 w.heap.size u5 f ((OW.out.alloc _).drew) wr.heap.size (postX x) #[.int .i64 (pickF x.1 6), .int .i64 (pickF x.2 1000)] rfl (0, 0) (heap_alloc_new wr _) (by simp only [kM]; omega) (by unfold maxLen; omega) (by rw [hsz]; omega)
        unfold kM at hrun
        simp only at hrun
        have hbb : Below w.heap.size wr w2 := (((Below.refl _ _).alloc hsr _).drew).grown hgr (by rw [hsz]; omega) (fun j hj => (OW.out.lt j hj).1)
        have O2 : Hid (w2.ownsRow w.heap.size 62 2 (.slice (some ⟨g, 0, none⟩) (f.length + 1) gc) ((es.take (k + 1)).map postX).length (((es.take (k + 1)).map postX).flatMap encM)) := by
          show World.ownsRow _ _ _ _ _ _ _
          rw [HT.out]; exact hown2
        have B2 : Hid (Below w.heap.size w w2) := HB.out.trans hbb
        have KEEP : Hid (∀ V : World, (∀ q, q < wr.heap.size → q < w.heap.size → V.heap[q]? = wr.heap[q]?) → V.cell? ⟨b, off + k * 2, none⟩ = some (.int .i64 x.1) ∧ V.cell? ⟨b, off + k * 2 + 1, none⟩ = some (.int .i64 x.2)) := fun V hV => by
          have cc : ∀ (q j : Nat) (u : Value), q < w.heap.size → wr.cell? ⟨q, j, none⟩ = some u → V.cell? ⟨q, j, none⟩ = some u := fun q j u hq hu => (World.cell?_of_block (a := ⟨q, j, none⟩) (hV q (World.block_lt_of_cell? wr _ hu) hq)).trans hu
          exact ⟨cc _ _ _ ltw c1, cc _ _ _ ltw c2⟩
        have HSD : Hid (wr.drew.cell? ⟨b, off + k * 2, none⟩ = some (.int .i64 x.1) ∧ wr.drew.cell? ⟨b, off + k * 2 + 1, none⟩ = some (.int .i64 x.2)) := KEEP.out _ (fun _ _ _ => rfl)
        have HSE : Hid ((wr.alloc (.cells #[.int .i64 (pickF x.1 6), .int .i64 (pickF x.2 1000)] 62)).drew.cell? ⟨b, off + k * 2, none⟩ = some (.int .i64 x.1) ∧ (wr.alloc (.cells #[.int .i64 (pickF x.1 6), .int .i64 (pickF x.2 1000)] 62)).drew.cell? ⟨b, off + k * 2 + 1, none⟩ = some (.int .i64 x.2)) := KEEP.out _ (fun q hq _ => (below_alloc wr _).block q hq)
        have HSF : Hid (w2.cell? ⟨b, off + k * 2, none⟩ = some (.int .i64 x.1) ∧ w2.cell? ⟨b, off + k * 2 + 1, none⟩ = some (.int .i64 x.2)) := KEEP.out _ (fun q _ hq => hbb.block q hq)
        clear hown2 hgr hsz hbb
        have epk : ∀ args w, (callFunc 7 args).run Tryz.prog w = .ok (.enter 7 args) w := enters_of Tryz.func7 (by kernel_rfl) rfl
        refine wp_region_held (S := fun V => V.cell? ⟨b, off + k * 2, none⟩ = some (.int .i64 x.1) ∧ V.cell? ⟨b, off + k * 2 + 1, none⟩ = some (.int .i64 x.2)) (by kernel_rfl) ?_
        simp only [List.size_toArray, List.length_cons, List.length_nil, Nat.reduceAdd]
        refine takeH (i := 0) (v := u5) (d := 18) rfl rfl (by kernel_rfl) (by kernel_rfl) (by kernel_rfl) (fun _ _ _ h => h) (by rfl) (fun V hV => by obtain ⟨v1, v2⟩ := hV; go_simp) HSD.out ?_
        simp only [Act.put, List.setIfInBounds_toArray, List.set_cons_zero, List.set_cons_succ]
        refine takeH (i := 1) (v := .slice (some ⟨b, off, none⟩) es.length cap) (d := 19) rfl rfl (by kernel_rfl) (by kernel_rfl) (by kernel_rfl) (fun _ _ _ h => h) (by rfl) (fun V hV => by obtain ⟨v1, v2⟩ := hV; go_simp) HSD.out ?_
        simp only [Act.put, List.setIfInBounds_toArray, List.set_cons_zero, List.set_cons_succ]
        refine takeH (i := 2) (v := .int .i64 (k : Int)) (d := 20) rfl rfl (by kernel_rfl) (by kernel_rfl) (by kernel_rfl) (fun _ _ _ h => h) (by rfl) (fun V hV => by obtain ⟨v1, v2⟩ := hV; go_simp) HSD.out ?_
        simp only [Act.put, List.setIfInBounds_toArray, List.set_cons_zero, List.set_cons_succ]
        refine takeH (i := 3) (v := .pointer (some ⟨b, off + k * 2, none⟩)) (d := 21) rfl rfl (by kernel_rfl) (by kernel_rfl) (by kernel_rfl) (fun _ _ _ h => h) (by rfl) (fun V hV => by obtain ⟨v1, v2⟩ := hV; go_simp) HSD.out ?_
        simp only [Act.put, List.setIfInBounds_toArray, List.set_cons_zero, List.set_cons_succ]
        refine takeH (i := 4) (v := .pointer (some ⟨b, off + k * 2, none⟩)) (d := 22) rfl rfl (by kernel_rfl) (by kernel_rfl) (by kernel_rfl) (fun _ _ _ h => h) (by rfl) (fun V hV => by obtain ⟨v1, v2⟩ := hV; go_simp) HSD.out ?_
        simp only [Act.put, List.setIfInBounds_toArray, List.set_cons_zero, List.set_cons_succ]
        refine takeH (i := 5) (v := .int .i64 x.1) (d := 23) rfl rfl (by kernel_rfl) (by kernel_rfl) (by kernel_rfl) (fun _ _ _ h => h) (by rfl) (fun V hV => by obtain ⟨v1, v2⟩ := hV; go_simp) HSD.out ?_
        simp only [Act.put, List.setIfInBounds_toArray, List.set_cons_zero, List.set_cons_succ]
        refine takeH (i := 7) (v := .slice (some ⟨b, off, none⟩) es.length cap) (d := 25) rfl rfl (by kernel_rfl) (by kernel_rfl) (by kernel_rfl) (fun _ _ _ h => h) (by rfl) (fun V hV => by obtain ⟨v1, v2⟩ := hV; go_simp) HSD.out ?_
        simp only [Act.put, List.setIfInBounds_toArray, List.set_cons_zero, List.set_cons_succ]
        refine takeH (i := 8) (v := .int .i64 (k : Int)) (d := 26) rfl rfl (by kernel_rfl) (by kernel_rfl) (by kernel_rfl) (fun _ _ _ h => h) (by rfl) (fun V hV => by obtain ⟨v1, v2⟩ := hV; go_simp) HSD.out ?_
        simp only [Act.put, List.setIfInBounds_toArray, List.set_cons_zero, List.set_cons_succ]
        refine takeH (i := 9) (v := .pointer (some ⟨b, off + k * 2, none⟩)) (d := 27) rfl rfl (by kernel_rfl) (by kernel_rfl) (by kernel_rfl) (fun _ _ _ h => h) (by rfl) (fun V hV => by obtain ⟨v1, v2⟩ := hV; go_simp) HSD.out ?_
        simp only [Act.put, List.setIfInBounds_toArray, List.set_cons_zero, List.set_cons_succ]
        refine takeH (i := 10) (v := .pointer (some ⟨b, off + k * 2 + 1, none⟩)) (d := 28) rfl rfl (by kernel_rfl) (by kernel_rfl) (by kernel_rfl) (fun _ _ _ h => h) (by rfl) (fun V hV => by obtain ⟨v1, v2⟩ := hV; go_simp) HSD.out ?_
        simp only [Act.put, List.setIfInBounds_toArray, List.set_cons_zero, List.set_cons_succ]
        refine takeH (i := 11) (v := .int .i64 x.2) (d := 29) rfl rfl (by kernel_rfl) (by kernel_rfl) (by kernel_rfl) (fun _ _ _ h => h) (by rfl) (fun V hV => by obtain ⟨v1, v2⟩ := hV; go_simp) HSD.out ?_
        simp only [Act.put, List.setIfInBounds_toArray, List.set_cons_zero, List.set_cons_succ]
        refine oneH (i := 6) rfl (by kernel_rfl) rfl (call_same (d := 24) (f := 7) (xs := #[.tmp 23, .const (.int .i64 6)]) (ats := #[3, 3]) rfl rfl epk (vs := #[.int .i64 x.1, .int .i64 6]) (by simp [Act.eval]) (picked_any _ _ _ (by omega) (by omega) (by omega) (by omega)) ⟨HSD.out, ?_⟩)
        simp only [Act.put, List.setIfInBounds_toArray, List.set_cons_zero, List.set_cons_succ]
        refine oneH (i := 12) rfl (by kernel_rfl) rfl (call_same (d := 30) (f := 7) (xs := #[.tmp 29, .const (.int .i64 1000)]) (ats := #[3, 3]) rfl rfl epk (vs := #[.int .i64 x.2, .int .i64 1000]) (by simp [Act.eval]) (picked_any _ _ _ (by omega) (by omega) (by omega) (by omega)) ⟨HSD.out, ?_⟩)
        simp only [Act.put, List.setIfInBounds_toArray, List.set_cons_zero, List.set_cons_succ]
        refine takeH (i := 13) (v := .agg #[.int .i64 (pickF x.1 6), .int .i64 (pickF x.2 1000)]) (d := 31) rfl rfl (by kernel_rfl) (by kernel_rfl) (by kernel_rfl) (fun _ _ _ h => h) (by rfl) (fun V hV => by obtain ⟨v1, v2⟩ := hV; go_simp) HSD.out ?_
        simp only [Act.put, List.setIfInBounds_toArray, List.set_cons_zero, List.set_cons_succ]
        refine oneH (i := 14) rfl (by kernel_rfl) rfl (op_run (d := 32) (v' := .slice (some ⟨wr.heap.size, 0, none⟩) 1 1) (w' := (wr.alloc (.cells #[.int .i64 (pickF x.1 6), .int .i64 (pickF x.2 1000)] 62)).drew) rfl (by go_simp) ⟨HSE.out, ?_⟩)
        simp only [Act.put, List.setIfInBounds_toArray, List.set_cons_zero, List.set_cons_succ]
        refine oneH (i := 15) rfl (by kernel_rfl) rfl (call_append (d := 33) (s := .tmp 18) (x := .tmp 32) (t := 26) rfl rfl (v := u5) (v2 := .slice (some ⟨wr.heap.size, 0, none⟩) 1 1) (by simp [Act.eval]) (by simp [Act.eval]) hrun ⟨HSF.out, ?_⟩)
        simp only [Act.put, List.setIfInBounds_toArray, List.set_cons_zero, List.set_cons_succ]
        refine takeH (i := 16) (v := .slice (some ⟨g, 0, none⟩) (f.length + 1) gc) (d := 5) rfl rfl (by kernel_rfl) (by kernel_rfl) (by kernel_rfl) (fun _ _ _ h => h) (by rfl) (fun V hV => by obtain ⟨v1, v2⟩ := hV; go_simp) HSF.out ?_
        simp only [Act.put, List.setIfInBounds_toArray, List.set_cons_zero, List.set_cons_succ]
        refine wpAnyH_done (by kernel_rfl) ?_ _
        clear HSD HSE HSF KEEP
        go_wp2_with fail
        go_roundw
        case rel => exact ⟨k + 1, by omega, by omega, by go_num, O2.out, B2.out⟩
        case measure => simp [intOf]; omega
      · have O3 : Hid (wr.ownsRow w.heap.size 62 2 u5 (postN mm es).length ((postN mm es).flatMap encM)) := by
          have e : (es.take k).map postX = postN mm es := by unfold postN; rw [show k = mm by omega]
          rw [← e]; exact OW.out
        obtain ⟨ua, un, uc, rfl⟩ : ∃ a n c, u5 = .slice a n c := by obtain ⟨a, c, e, _⟩ := MlR.ownd O3.out; exact ⟨_, _, _, e⟩
        clear OW
        go_wp2_with fail
        go_ret
        exact ⟨_, rfl, O3.out, HB.out⟩
    · have O3 : Hid (wr.ownsRow w.heap.size 62 2 u5 (postN mm es).length ((postN mm es).flatMap encM)) := by
        have e : (es.take k).map postX = postN mm es := by unfold postN; rw [List.take_of_length_le (by omega), List.take_of_length_le (by omega)]
        rw [← e]; exact OW.out
      obtain ⟨ua, un, uc, rfl⟩ : ∃ a n c, u5 = .slice a n c := by obtain ⟨a, c, e, _⟩ := MlR.ownd O3.out; exact ⟨_, _, _, e⟩
      clear OW
      go_wp2_with fail
      go_ret
      exact ⟨_, rfl, O3.out, HB.out⟩

theorem postX_B (x : Ml) : 0 ≤ (postX x).1 ∧ (postX x).1 < 6 ∧ 0 ≤ (postX x).2 ∧ (postX x).2 < 1000 := ⟨(pickF_bd x.1 6 (by decide)).1, (pickF_bd x.1 6 (by decide)).2, (pickF_bd x.2 1000 (by decide)).1, (pickF_bd x.2 1000 (by decide)).2⟩
end Go.Proofs.YtkgdenbabafeoaaGreatDoor
