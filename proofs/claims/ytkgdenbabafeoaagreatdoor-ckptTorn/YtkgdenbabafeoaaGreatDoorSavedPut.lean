/-
  Contract of the closure that writes numbers in ckpt.Encode.
-/
import Derived.Test.YtkgdenbabafeoaaGreatDoorSavedMath
import Derived.Test.YtkgdenbabafeoaaGreatDoorBytesRun
import Derived.Test.YtkgdenbabafeoaaGreatDoorOwnOff
import Derived.Test.YtkgdenbabafeoaaGreatDoorAptMem
import Derived.Test.YtkgdenbabafeoaaGreatDoorRegionCall
import Derived.Test.YtkgdenbabafeoaaGreatDoorPutWalk
import Derived.Shelf.Abstract
import Derived.Deep.CutRange
namespace Go.Proofs.YtkgdenbabafeoaaGreatDoor
set_option maxRecDepth 100000
open Go.ChangeShapes Go.WideShapes Go.ChangeAt Go.RowKit

/-- The payload in its box. -/
structure PyI (q : Nat) (L : List Int) (pv : Value) (w : World) : Prop where
  x : BX 31 w q #[pv]
  o : w.ownsRow q 5 1 pv L.length (L.map (Value.int .u8))
theorem PyI.shape {q : Nat} {L : List Int} {pv : Value} {w : World} (h : PyI q L pv w) : ∃ a n c, pv = .slice a n c := by
  rcases h.o.2 with ⟨hv, h0⟩ | ⟨g, cap, cur, hv, _⟩
  · exact ⟨none, 0, 0, hv⟩
  · exact ⟨_, _, _, hv⟩
theorem PyI.below {q : Nat} {L : List Int} {pv : Value} {w w' : World} (h : PyI q L pv w) (hb : Below w.heap.size w w') : PyI q L pv w' := ⟨h.x.below hb h.x.lt, own_below h.o hb (Nat.le_refl _)⟩
theorem putLen_le (n : Int) : (put n).length ≤ 10 := by have := put_len n; omega

set_option maxHeartbeats 2000000 in
set_option maxRecDepth 100000 in
theorem sPut_any (q : Nat) (pv : Value) (L : List Int) (av : Value) (ns : List Int) (w : World) (h : PyI q L pv w) (ha : w.ownsRow q 3 1 av ns.length (ns.flatMap encI)) (hn : ∀ n ∈ ns, 0 ≤ n ∧ n ≤ 9223372036854775807) (hl : L.length + 10 * ns.length ≤ 1000000) :
    Calls Tryz.prog 20 #[av, .pointer (some ⟨q, 0, none⟩)] w fun e w' => e = .returned (.tuple #[]) ∧ (∃ pv', PyI q (L ++ bytN ns) pv' w') ∧ Below q w w' := by
  have H0 : Hid (PyI q L pv w) := h
  have HA : Hid (w.ownsRow q 3 1 av ns.length (ns.flatMap encI)) := ha
  have HN : Hid (∀ n ∈ ns, 0 ≤ n ∧ n ≤ 9223372036854775807) := hn
  have HZ : Hid (L ++ bytN (ns.take 0) = L) := by show _ = _; simp [bytN]
  obtain ⟨aa, ac, rfl⟩ := (RowK.own encI_len ha : InR w av ns).shape
  have hq := h.x.lt
  clear h ha hn
  go_enter Tryz.func20, Tryz.ntmps20
  go_wp2_with fail
  go_loopw [7] (fun i wr => ∃ (k : Nat) (pv : Value), k ≤ ns.length ∧ i = .int .i64 k ∧ PyI q (L ++ bytN (ns.take k)) pv wr ∧ wr.ownsRow q 3 1 (.slice aa ns.length ac) ns.length (ns.flatMap encI) ∧ Below q w wr) (fun i _ => ns.length - (intOf i).toNat)
  case atStart => exact ⟨0, pv, by omega, rfl, by rw [HZ.out]; exact H0.out, HA.out, Below.refl _ _⟩
  case round =>
    clear H0 HA HZ
    obtain ⟨k, pv, hk, rfl, hpy, hoa, hbel⟩ := hrel
    have PY : Hid (PyI q (L ++ bytN (ns.take k)) pv wr) := hpy
    have OA : Hid (wr.ownsRow q 3 1 (.slice aa ns.length ac) ns.length (ns.flatMap encI)) := hoa
    have AB : Hid (Below q w wr) := hbel
    obtain ⟨pa, pn, pc, rfl⟩ := hpy.shape
    have hsr := hbel.size
    have hqr := hpy.x.lt
    clear hpy hoa hbel
    by_cases hlt : k < ns.length
    · obtain ⟨b, off, cap', e1, _, _, lt, hv⟩ := InR.at (RowK.own encI_len OA.out : InR wr (.slice aa ns.length ac) ns) (by omega)
      injection e1 with e1 _ e3
      subst e1 e3
      obtain ⟨x, hx⟩ := getX hlt
      have c1 := hv k x hx
      obtain ⟨hx0, hx1⟩ := HN.out x (List.mem_of_getElem? hx)
      have HT : Hid (L ++ bytN (ns.take (k + 1)) = (L ++ bytN (ns.take k)) ++ put x) := by show _ = _; rw [take_snoc hx, bytN_app, bytN_one, List.append_assoc]
      have hll : (L ++ bytN (ns.take k)).length ≤ 1000000 := by
        have h1 := bytN_len (ns.take k)
        have h2 : (ns.take k).length ≤ ns.length := by rw [List.length_take]; omega
        rw [List.length_append]
        omega
      have hpl := putLen_le x
      have p0 : (0 : Int) ≤ (k : Int) := by omega
      have p1 : (k : Int) < (ns.length : Int) := by omega
      have wx : IntKind.u64.wrap x = x := by rw [IntKind.wrap_u64]; omega
      have CP : Hid (∀ X, Calls Tryz.prog 21 #[.int .u64 x] X fun e w' => ∃ v, e = .returned v ∧ (w'.ownsRow X.heap.size 5 1 v (put x).length ((put x).map (Value.int .u8)) ∧ Below X.heap.size X w')) := fun X => put_any x X hx0 (by omega)
      have ep : ∀ args w, (callFunc 21 args).run Tryz.prog w = .ok (.enter 21 args) w := enters_of Tryz.func21 (by kernel_rfl) rfl
      have HS : Hid (∀ V, Below wr.heap.size wr V → (V.cell? ⟨q, 0, none⟩ = some (.slice pa pn pc))) := fun V hV => ((PY.out.below hV).x).cell 0
      generalize L ++ bytN (ns.take k) = M at *
      clear hv hx
      go_upto_region 3 with fail
      clear c1
      have bd : Below wr.heap.size wr wr.drew := (Below.refl _ _).drew
      have HS0 : Hid (wr.drew.cell? ⟨q, 0, none⟩ = some (.slice pa pn pc)) := HS.out _ bd
      refine region_lastF (S := fun V => (V.cell? ⟨q, 0, none⟩ = some (.slice pa pn pc))) (by kernel_rfl) rfl (by kernel_rfl) (by kernel_rfl) ?_
      simp only [List.pop_toArray, List.dropLast_cons_cons, List.dropLast_singleton, List.size_toArray, List.length_cons, List.length_nil, Nat.reduceAdd]
      refine takeH (i := 0) (v := .slice pa pn pc) (d := 11) rfl rfl (by kernel_rfl) (by kernel_rfl) (by kernel_rfl) (fun _ _ _ h => h) (by rfl) (fun V hV => by have v1 := hV; go_simp) HS0.out ?_
      simp only [Act.put, List.setIfInBounds_toArray, List.set_cons_zero, List.set_cons_succ]
      refine takeH (i := 1) (v := .int .i64 x) (d := 12) rfl rfl (by kernel_rfl) (by kernel_rfl) (by kernel_rfl) (fun _ _ _ h => h) (by rfl) (fun V hV => by have v1 := hV; go_simp) HS0.out ?_
      simp only [Act.put, List.setIfInBounds_toArray, List.set_cons_zero, List.set_cons_succ]
      refine takeH (i := 2) (v := .int .u64 x) (d := 13) rfl rfl (by kernel_rfl) (by kernel_rfl) (by kernel_rfl) (fun _ _ _ h => h) (by rfl) (fun V hV => by have v1 := hV; go_simp) HS0.out ?_
      simp only [Act.put, List.setIfInBounds_toArray, List.set_cons_zero, List.set_cons_succ]
      refine oneH (i := 3) rfl (by kernel_rfl) rfl (call_gets (d := 14) (f := 21) (xs := #[.tmp 13]) (ats := #[60]) rfl rfl ep (vs := #[.int .u64 x]) (by simp [Act.eval]) (CP.out _) ?_)
      rintro vr w3 ⟨ho3, hb3⟩
      have b3 : Below wr.heap.size wr w3 := bd.trans hb3
      have HS3 : Hid (w3.cell? ⟨q, 0, none⟩ = some (.slice pa pn pc)) := HS.out _ b3
      refine ⟨HS3.out, ?_⟩
      simp only [Act.put, List.setIfInBounds_toArray, List.set_cons_zero, List.set_cons_succ]
      have py3 := PY.out.below b3
      obtain ⟨v4, w4, hrun4, hown4, hg4⟩ := run_append_byt (w := w3) 31 q (.slice pa pn pc) M py3.o vr (put x) (reads_own ho3) (by omega) (by have := b3.size; omega)
      have x4 := py3.x.grown py3.o (by decide) hg4
      have HS4 : Hid (w4.cell? ⟨q, 0, none⟩ = some (.slice pa pn pc)) := x4.cell 0
      refine oneH (i := 4) rfl (by kernel_rfl) rfl (call_append (d := 15) (s := .tmp 11) (x := .tmp 14) (t := 31) rfl rfl rfl rfl hrun4 ⟨HS4.out, ?_⟩)
      simp only [Act.put, List.setIfInBounds_toArray, List.set_cons_zero, List.set_cons_succ]
      obtain ⟨ya, yn, yc, rfl⟩ : ∃ a n c, v4 = .slice a n c := by
        rcases hown4.2 with ⟨hv, h0⟩ | ⟨g, cap, cur, hv, _⟩
        · exact ⟨none, 0, 0, hv⟩
        · exact ⟨_, _, _, hv⟩
      have kp : Kept (fun k => k = q) w4 (w4.setCell ⟨q, 0, none⟩ (.slice ya yn yc)) := Kept.box _ _ _ _
      have oa4 : w4.ownsRow q 3 1 (.slice (some ⟨b, off, none⟩) ns.length ac) ns.length (ns.flatMap encI) := (own_below OA.out b3 (Nat.le_refl _)).kept hg4 (own_apart (own_below OA.out b3 (Nat.le_refl _)) py3.o (by decide))
      have b4 : Below q w w4 := AB.out.trans ((b3.mono (by omega)).grown hg4 (by have := b3.size; omega) (fun g hg => (own_ge py3.o hg).1))
      have NW : Hid (PyI q (M ++ put x) (.slice ya yn yc) (w4.setCell ⟨q, 0, none⟩ (.slice ya yn yc)) ∧ (w4.setCell ⟨q, 0, none⟩ (.slice ya yn yc)).ownsRow q 3 1 (.slice (some ⟨b, off, none⟩) ns.length ac) ns.length (ns.flatMap encI) ∧ Below q w (w4.setCell ⟨q, 0, none⟩ (.slice ya yn yc))) := ⟨⟨x4.set 0 _, own_off hown4 x4 (by decide) kp⟩, own_off oa4 x4 (by decide) kp, b4.trans (kp.below (by have := b4.size; omega) (fun g hg => by omega))⟩
      have f4 := x4.frozen 0
      have c4 := x4.cell 0
      refine wpAnyH_done (by kernel_rfl) ?_ _
      show Oper.wp _ _ _ _ _ _
      refine op_skip (w' := w4.setCell ⟨q, 0, none⟩ (.slice ya yn yc)) rfl (by go_simp) ?_
      clear HS0 HS3 HS4 HS f4 c4 b4 oa4 kp x4 hrun4 hown4 hg4 py3 ho3 hb3 b3 bd PY OA AB
      generalize w4.setCell ⟨q, 0, none⟩ (.slice ya yn yc) = w5 at *
      go_wp2_with fail
      go_roundw
      case rel => exact ⟨k + 1, _, by omega, by go_num, by rw [HT.out]; exact NW.out.1, NW.out.2.1, NW.out.2.2⟩
      case measure => simp [intOf]; omega
    · have ek : ns.take k = ns := List.take_of_length_le (by omega)
      rw [ek] at PY
      have HP : Hid ((∃ pv', PyI q (L ++ bytN ns) pv' wr) ∧ Below q w wr) := ⟨⟨_, PY.out⟩, AB.out⟩
      clear PY AB OA ek
      go_wp2_with fail
      go_end0
      exact ⟨rfl, HP.out⟩
end Go.Proofs.YtkgdenbabafeoaaGreatDoor
