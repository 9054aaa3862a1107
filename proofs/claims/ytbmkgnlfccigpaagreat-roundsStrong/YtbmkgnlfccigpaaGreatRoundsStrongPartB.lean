/-
  Contract of paths.hopsOf.
  P12: which error; lists of numbers and of bools that are answered.
  Contract of cmp.Compare over numbers.
  P4.2 in plain mathematics: edges in order.
  Contract of cmp.Or over three numbers.
  Contract of graph's compare.
  slices.SortFunc: the laying of its contract at this program (numbers of functions and types, each held by the kernel).
  Contract of slices.SortFunc with graph's compare, on a row of edges of the call's own.
  An edge turned; contract of Reverse's closure.
  Contracts of graph's inOrder, for edges as they are and for edges turned.
  Contract of graph.Reverse.
  Contract of paths.Strong.
  Contract of the keeping laws' own sameInts, of lists that read alike.
  Numbers that are handed on along edges, round by round, of which each vertex keeps the least: what holds behind each round, when nothing changes any more, and what it comes to.
  A phase in which each vertex keeps the least number that it hears of: it ends behind as many rounds as there are vertices and one more, at most, and what it leaves.
  Rounds of Dist and Weak: they end in time, and tell the distances, and the least vertices that are joined.
  The phase Back of Strong: which vertices get their label, and that it ends in time.
  Rounds of Strong: pass by pass (Forward and Back), until each vertex has its label: the least that it reaches and that reaches it.
-/
import Derived.Test.YtbmkgnlfccigpaaGreatRoundsStrongPartA
import Derived.Deep.CutRange
import Derived.Test.YtbmkgnlfccigpaaGreatPathLists
import Derived.Test.YtbmkgnlfccigpaaGreatRowNew
import Derived.Test.YtbmkgnlfccigpaaGreatBoolRow
import Derived.Test.YtbmkgnlfccigpaaGreatRowBase
import Derived.Test.YtbmkgnlfccigpaaGreatGraphMath
import Derived.Shelf.SlSortCmp.NoneTotal
import Derived.Deep.RegionHeld3
import Derived.Shelf.SlSortCmp.QuietGrown
import Derived.Test.YtbmkgnlfccigpaaGreatProg
import Derived.Test.YtbmkgnlfccigpaaGreatGraphTwo
import Derived.Test.YtbmkgnlfccigpaaGreatRegionCall
import Derived.Test.YtbmkgnlfccigpaaGreatRowCore
import Derived.Deep.QuietTactic
import Derived.BigQuiet
import Derived.Test.YtbmkgnlfccigpaaGreatLowMath
import Derived.Test.YtbmkgnlfccigpaaGreatRoundMath

namespace Go.Proofs.YtbmkgnlfccigpaaGreat
set_option maxRecDepth 100000
open Go.ChangeShapes Go.WideShapes Go.ChangeAt Go.RowKit
attribute [local go_sem ↓] exec_append

set_option maxHeartbeats 2000000 in
set_option maxRecDepth 100000 in
theorem pHopsOf_any (v : Value) (es : List Ed) (n : Nat) (w : World) (h : EdR w v es) (hn : n ≤ 200) (hl : es.length ≤ 600) (hin : ∀ e ∈ es, 0 ≤ e.1 ∧ e.1 < (n : Int)) :
    Calls Tryz.prog 13 #[.agg #[.int .i64 n, v]] w fun e w' => ∃ v', e = .returned v' ∧ OwnLs w' w.heap.size v' (tblF n es) ∧ Below w.heap.size w w' := by
  have HR : Hid (EdR w v es) := h
  have HI : Hid (∀ e ∈ es, 0 ≤ e.1 ∧ e.1 < (n : Int)) := hin
  obtain ⟨a, cap, rfl, _, hm, _⟩ := h
  unfold maxLen at hm
  clear hin
  have B0 : Hid (Below w.heap.size w (w.alloc (.cells #[.int .i64 n, .slice a es.length cap] 25)) ∧ (w.alloc (.cells #[.int .i64 n, .slice a es.length cap] 25)).heap[w.heap.size]? = some (.cells #[.int .i64 n, .slice a es.length cap] 25 (0, 0))) := ⟨below_alloc _ _, heap_alloc_new w _⟩
  go_enter Tryz.func13, Tryz.ntmps13
  go_upto_region 1 with fail
  generalize w.alloc (.cells #[.int .i64 n, .slice a es.length cap] 25) = w0 at *
  obtain ⟨hb0, hx0⟩ := B0.out
  have c0 : w0.cell? ⟨w.heap.size, 0, none⟩ = some (.int .i64 n) := by rw [cell_of_row _ _ _ _ _ _ hx0]; rfl
  have hlt0 := (Array.getElem?_eq_some_iff.1 hx0).1
  obtain ⟨w1, hmk, htb, hb1⟩ := make_tbl w0 n (by omega)
  have c1 : w1.cell? ⟨w.heap.size, 1, none⟩ = some (.slice a es.length cap) := by rw [(hb1.cell (p := ⟨w.heap.size, 1, none⟩) hlt0), cell_of_row _ _ _ _ _ _ hx0]; rfl
  have hs0 := hb0.size
  have HB1 : Hid (Below w.heap.size w w1) := hb0.trans (hb1.mono hs0)
  have TB : Hid (Tbl w1 w0.heap.size w0.heap.size n (List.replicate n (.slice none 0 0)) (tblF n [])) := by
    show Tbl _ _ _ _ _ _
    rw [tblF_nil]; exact htb
  have hs1 := HB1.out.size
  clear hb0 hx0 htb hb1 B0
  go_wp2_with fail
  generalize w0.heap.size = G at *
  have hs3 : G < w1.heap.size := by
    have := TB.out.row.lt G rfl
    exact this.2
  go_loopw [12] (fun i wr => ∃ (k : Nat) (vs : List Value), k ≤ es.length ∧ i = .int .i64 k ∧ Tbl wr G G n vs (tblF n (es.take k)) ∧ Below w.heap.size w wr ∧ w1.heap.size ≤ wr.heap.size) (fun i _ => es.length - (intOf i).toNat)
  case atStart => exact ⟨0, _, by omega, rfl, TB.out, HB1.out, Nat.le_refl _⟩
  case round =>
    obtain ⟨k, vs, hk, rfl, htb, hbel, hsw⟩ := hrel
    have TR : Hid (Tbl wr G G n vs (tblF n (es.take k))) := htb
    have HB : Hid (Below w.heap.size w wr) := hbel
    have hsr := hbel.size
    clear htb hbel TB HB1 c0 c1 hmk
    by_cases hlt : k < es.length
    · obtain ⟨b, off, cap', e1, _, _, lt, hv⟩ := EdR.at (HR.out.below HB.out (Nat.le_refl _)) (by omega)
      injection e1 with e1 _ e3
      subst e1 e3
      obtain ⟨x, hx⟩ := getE hlt
      obtain ⟨d1, d2, d3⟩ := hv k x hx
      have hxi := HI.out x (List.mem_of_getElem? hx)
      obtain ⟨j, hj⟩ : ∃ j : Nat, x.1 = j := ⟨x.1.toNat, by omega⟩
      have hjn : j < n := by omega
      have HT : Hid (tblF n (es.take (k + 1)) = (tblF n (es.take k)).set j (hopsL (es.take k) (j : Int) ++ [(x.2.1, x.2.2)])) := tblF_step hx hj hjn
      obtain ⟨u, hu⟩ := getX (show j < vs.length by rw [TR.out.lv]; exact hjn)
      have hfl := tblF_at (es := es.take k) hjn
      have hel := TR.out.el j u _ hu hfl
      obtain ⟨ua, un, uc, rfl⟩ : ∃ a n c, u = .slice a n c := by obtain ⟨a, c, e, _⟩ := RowK.own encH_len hel; exact ⟨_, _, _, e⟩
      have hll : (hopsL (es.take k) (j : Int)).length ≤ 600 := by have := hops_len (es.take k) (j : Int); simp at this; omega
      obtain ⟨x1, x2, x3⟩ := x
      simp only at *
      subst hj
      have p0 : (0 : Int) ≤ (k : Int) := by omega
      have p1 : (k : Int) < (es.length : Int) := by omega
      have q0 : (0 : Int) ≤ (j : Int) := by omega
      have q1 : (j : Int) < (n : Int) := by omega
      have HU : Hid (vs[j]? = some (.slice ua un uc)) := hu
      have HFL : Hid ((tblF n (es.take k))[j]? = some (hopsL (es.take k) (j : Int))) := hfl
      clear hv hx hfl hu hel
      generalize hopsL (es.take k) (j : Int) = f at *
      go_upto_region 5 with fail
      have W1 : Hid (Tbl (wr.alloc (.cells #[.int .i64 (j : Int), .int .i64 x2, .int .i64 x3] 44)) G G n vs (tblF n (es.take k)) ∧ Below w.heap.size w (wr.alloc (.cells #[.int .i64 (j : Int), .int .i64 x2, .int .i64 x3] 44)) ∧ (wr.alloc (.cells #[.int .i64 (j : Int), .int .i64 x2, .int .i64 x3] 44)).heap[wr.heap.size]? = some (.cells #[.int .i64 (j : Int), .int .i64 x2, .int .i64 x3] 44 (0, 0)) ∧ w1.heap.size ≤ (wr.alloc (.cells #[.int .i64 (j : Int), .int .i64 x2, .int .i64 x3] 44)).heap.size) := ⟨TR.out.kept ((Kept.refl _ _).alloc _), HB.out.alloc hsr _, heap_alloc_new wr _, by simp; omega⟩
      generalize wr.alloc (.cells #[.int .i64 (j : Int), .int .i64 x2, .int .i64 x3] 44) = w2 at *
      generalize wr.heap.size = bx at *
      obtain ⟨TR2, HB2, bx2, hs2⟩ := W1.out
      have k0 : w2.cell? ⟨bx, 0, none⟩ = some (.int .i64 (j : Int)) := by rw [cell_of_row _ _ _ _ _ _ bx2]; rfl
      have k1 : w2.cell? ⟨bx, 1, none⟩ = some (.int .i64 x2) := by rw [cell_of_row _ _ _ _ _ _ bx2]; rfl
      have k2 : w2.cell? ⟨bx, 2, none⟩ = some (.int .i64 x3) := by rw [cell_of_row _ _ _ _ _ _ bx2]; rfl
      have k3 := TR2.cell HU.out
      have hbx := (Array.getElem?_eq_some_iff.1 bx2).1
      have hG2 : G < w2.heap.size := by omega
      have m0 : ∀ X, (w2.alloc X).cell? ⟨bx, 0, none⟩ = some (.int .i64 (j : Int)) := fun X => ((below_alloc w2 X).cell (p := ⟨bx, 0, none⟩) hbx).trans k0
      have m1 : ∀ X, (w2.alloc X).cell? ⟨G, j, none⟩ = some (.slice ua un uc) := fun X => ((below_alloc w2 X).cell (p := ⟨G, j, none⟩) hG2).trans k3
      have hel := TR2.el j _ f HU.out HFL.out
      have hs4 := HB2.size
      obtain ⟨g5, c5, w5, hrun, ho5, hgr5, hli5⟩ := run_append_newL kH (w := (w2.alloc (.cells #[.int .i64 x2, .int .i64 x3] 64)).drew) 62 G (.slice ua un uc) f ((hel.alloc _).drew) w2.heap.size (x2, x3) #[.int .i64 x2, .int .i64 x3] rfl (0, 0) (heap_alloc_new w2 _) (by simp only [kH]; omega) (by unfold maxLen; omega) (by show G ≤ (w2.alloc _).heap.size; simp; omega)
      obtain ⟨a1, a2, a3⟩ := appOk_of hrun
      have TR3 : Tbl (w2.alloc (.cells #[.int .i64 x2, .int .i64 x3] 64)).drew G G n vs (tblF n (es.take k)) := TR2.kept ((Kept.refl _ _).alloc _).drew
      obtain ⟨T5, k4, k5⟩ := TR3.put HU.out HFL.out hgr5 ho5 hli5
      have T6 : Hid (Tbl (w5.setCell ⟨G, j, none⟩ (.slice (some ⟨g5, 0, none⟩) (f.length + 1) c5)) G G n (vs.set j (.slice (some ⟨g5, 0, none⟩) (f.length + 1) c5)) (tblF n (es.take (k + 1)))) := by
        show Tbl _ _ _ _ _ _
        rw [HT.out]; exact T5
      have HB6 : Hid (Below w.heap.size w (w5.setCell ⟨G, j, none⟩ (.slice (some ⟨g5, 0, none⟩) (f.length + 1) c5))) := by
        have h5 : Below w.heap.size w w5 := ((HB2.alloc hs4 _).drew).trans ((Below.refl _ _).grown hgr5 (by show w.heap.size ≤ (w2.alloc _).heap.size; simp; omega) (fun q hq => by have := own_ge hel hq; omega))
        exact h5.setCell (p := ⟨G, j, none⟩) (by show w.heap.size ≤ G; omega) _
      have hs6 : w1.heap.size ≤ (w5.setCell ⟨G, j, none⟩ (.slice (some ⟨g5, 0, none⟩) (f.length + 1) c5)).heap.size := by
        rw [size_setCell]
        have h1 := hgr5.size
        have h2 : (w2.alloc (.cells #[.int .i64 x2, .int .i64 x3] 64)).drew.heap.size = w2.heap.size + 1 := by simp
        omega
      have m2 : w5.cell? ⟨bx, 0, none⟩ = some (.int .i64 (j : Int)) := by
        have hb5 : w5.heap[bx]? = some (.cells #[.int .i64 (j : Int), .int .i64 x2, .int .i64 x3] 44 (0, 0)) := by
          rw [hgr5.block bx (by show bx < (w2.alloc _).heap.size; simp; omega) (fun e => own_block hel e.symm bx2 (by decide) rfl)]
          exact ((below_alloc w2 _).block bx hbx).trans bx2
        rw [cell_of_row _ _ _ _ _ _ hb5]; rfl
      unfold kH at a1 a2 a3
      simp only at a1 a2 a3
      clear W1 TR HB TR2 HB2 bx2 hel hrun ho5 hgr5 hli5 TR3 T5 d1 d2 d3
      go_region
      generalize w5.setCell ⟨G, j, none⟩ (.slice (some ⟨g5, 0, none⟩) (f.length + 1) c5) = w6 at *
      clear a1 a2 a3 m0 m1 m2 k0 k1 k2 k3 k4 k5
      go_wp2_with fail
      go_roundw
      case rel => exact ⟨k + 1, _, by omega, by go_num, T6.out, HB6.out, hs6⟩
      case measure => simp [intOf]; omega
    · have ek : es.take k = es := List.take_of_length_le (by omega)
      rw [ek] at TR
      clear ek
      go_wp2_with fail
      go_ret
      exact ⟨_, rfl, TR.out.own.lower (by omega), HB.out⟩
end Go.Proofs.YtbmkgnlfccigpaaGreat

namespace Go.Proofs.YtbmkgnlfccigpaaGreat
set_option maxRecDepth 100000
open Go.ChangeShapes Go.WideShapes Go.ChangeAt Go.RowKit

/-- P12.1, P12.3: the error. -/
def errV (n : Int) (es : List Ed) (s : Int) : Int := if faultE n es = 0 then (if 0 ≤ s ∧ s < n then 0 else 2) else faultE n es
theorem errV_bad {n s : Int} {es : List Ed} (h : faultE n es ≠ 0) : errV n es s = faultE n es := by rw [errV, if_neg h]
theorem errV_out {n s : Int} {es : List Ed} (h : faultE n es = 0) (hs : ¬ (0 ≤ s ∧ s < n)) : errV n es s = 2 := by rw [errV, if_pos h, if_neg hs]
theorem errV_ok {n s : Int} {es : List Ed} (h : faultE n es = 0) (hs : 0 ≤ s ∧ s < n) : errV n es s = 0 := by rw [errV, if_pos h, if_pos hs]
theorem in_fault {m : Nat} {es : List Ed} (h : faultE (m : Int) es = 0) : InG m es := fun e he => by
  have := in_of_out ((fault_ok h).2.2.2 e he)
  exact ⟨this.1, this.2.1, this.2.2.1, this.2.2.2.1, this.2.2.2.2.1⟩
/-- A list of numbers and an error. -/
def NmsP (w : World) (f : Int) (l : List Int) (e : Ending) (w' : World) : Prop :=
  ∃ v', e = .returned (.tuple #[v', .int .i64 f]) ∧ w'.ownsRow w.heap.size 3 1 v' (okL f l).length ((okL f l).flatMap encI) ∧ Below w.heap.size w w'
theorem NmsP.no {w w' : World} {f : Int} {l : List Int} (hf : f ≠ 0) (hb : Below w.heap.size w w') : NmsP w f l (.returned (.tuple #[.slice none 0 0, .int .i64 f])) w' :=
  ⟨_, rfl, by rw [okL_no hf]; exact World.ownsRow_nil _ _ _ _, hb⟩
theorem NmsP.yes {w w' : World} {l : List Int} {v : Value} (h : w'.ownsRow w.heap.size 3 1 v l.length (l.flatMap encI)) (hb : Below w.heap.size w w') : NmsP w 0 l (.returned (.tuple #[v, .int .i64 0])) w' := ⟨_, rfl, h, hb⟩
/-- A list of bools and an error. -/
def BolP (w : World) (f : Int) (l : List Bool) (e : Ending) (w' : World) : Prop :=
  ∃ v', e = .returned (.tuple #[v', .int .i64 f]) ∧ w'.ownsRow w.heap.size 4 1 v' (okL f l).length ((okL f l).flatMap encT) ∧ Below w.heap.size w w'
theorem BolP.no {w w' : World} {f : Int} {l : List Bool} (hf : f ≠ 0) (hb : Below w.heap.size w w') : BolP w f l (.returned (.tuple #[.slice none 0 0, .int .i64 f])) w' :=
  ⟨_, rfl, by rw [okL_no hf]; exact World.ownsRow_nil _ _ _ _, hb⟩
theorem BolP.yes {w w' : World} {l : List Bool} {v : Value} (h : w'.ownsRow w.heap.size 4 1 v l.length (l.flatMap encT)) (hb : Below w.heap.size w w') : BolP w 0 l (.returned (.tuple #[v, .int .i64 0])) w' := ⟨_, rfl, h, hb⟩
end Go.Proofs.YtbmkgnlfccigpaaGreat

namespace Go.Proofs.YtbmkgnlfccigpaaGreat
set_option maxRecDepth 100000
open Go.ChangeShapes Go.WideShapes Go.ChangeAt Go.RowKit

def cmpI (a b : Int) : Int := if a < b then -1 else if b < a then 1 else 0

set_option maxHeartbeats 400000 in
theorem isNaN_any (a : Int) (w : World) : Calls Tryz.prog 67 #[.int .i64 a] w fun e w' => e = .returned (.bool false) ∧ w' = w := by
  have h : (a != a) = false := by simp
  go_enter Tryz.func67, Tryz.ntmps67
  go_wp2
  go_ret
  exact ⟨rfl, rfl⟩

set_option maxHeartbeats 1000000 in
theorem cmpInt_any (a b : Int) (w : World) : Calls Tryz.prog 46 #[.int .i64 a, .int .i64 b] w fun e w' => e = .returned (.int .i64 (cmpI a b)) ∧ w' = w := by
  unfold cmpI
  by_cases h1 : a < b
  · rw [if_pos h1]
    go_enter Tryz.func46, Tryz.ntmps46
    go_wp2_with (go_at_call 67; refine (isNaN_any _ _).mono ?_; rintro e w1 ⟨rfl, rfl⟩)
    go_ret
    exact ⟨rfl, rfl⟩
  · rw [if_neg h1]
    by_cases h2 : b < a
    · rw [if_pos h2]
      go_enter Tryz.func46, Tryz.ntmps46
      go_wp2_with (go_at_call 67; refine (isNaN_any _ _).mono ?_; rintro e w1 ⟨rfl, rfl⟩)
      go_ret
      exact ⟨rfl, rfl⟩
    · rw [if_neg h2]
      go_enter Tryz.func46, Tryz.ntmps46
      go_wp2_with (go_at_call 67; refine (isNaN_any _ _).mono ?_; rintro e w1 ⟨rfl, rfl⟩)
      go_ret
      exact ⟨rfl, rfl⟩

end Go.Proofs.YtbmkgnlfccigpaaGreat

namespace Go.Proofs.YtbmkgnlfccigpaaGreat
set_option maxRecDepth 100000
open Go.Sort

/-- From, then To, then Weight. -/
def cmpE (x y : Ed) : Int := if cmpI x.1 y.1 ≠ 0 then cmpI x.1 y.1 else if cmpI x.2.1 y.2.1 ≠ 0 then cmpI x.2.1 y.2.1 else cmpI x.2.2 y.2.2
/-- x stands ahead of y. -/
def ltE (x y : Ed) : Prop := x.1 < y.1 ∨ (x.1 = y.1 ∧ (x.2.1 < y.2.1 ∨ (x.2.1 = y.2.1 ∧ x.2.2 < y.2.2)))
/-- The same, told. -/
def ltEb (x y : Ed) : Bool := decide (x.1 < y.1 ∨ (x.1 = y.1 ∧ (x.2.1 < y.2.1 ∨ (x.2.1 = y.2.1 ∧ x.2.2 < y.2.2))))
theorem ltEb_true {x y : Ed} : ltEb x y = true ↔ ltE x y := by unfold ltEb ltE; exact decide_eq_true_iff
theorem ltEb_false {x y : Ed} : ltEb x y = false ↔ ¬ ltE x y := by unfold ltEb ltE; exact decide_eq_false_iff_not
theorem cmpE_lt (x y : Ed) : cmpE x y < 0 ↔ ltE x y := by
  unfold cmpE cmpI ltE
  constructor
  · intro h; split at h <;> (try split at h) <;> omega
  · intro h; split <;> (try split) <;> omega
theorem ltOf_cmp (x y : Ed) : ltOf cmpE x y = ltEb x y := by
  unfold ltOf ltEb
  congr 1
  exact propext (cmpE_lt x y)
theorem swoE : SWO (ltOf cmpE) where
  irrefl x := by rw [ltOf_cmp, ltEb_false]; unfold ltE; omega
  trans x y z h1 h2 := by
    rw [ltOf_cmp, ltEb_true] at *
    unfold ltE at *; omega
  ntrans x y z h1 h2 := by
    rw [ltOf_cmp, ltEb_false] at *
    unfold ltE at *; omega
theorem totE (x y : Ed) (h1 : ltOf cmpE x y = false) (h2 : ltOf cmpE y x = false) : x = y := by
  rw [ltOf_cmp, ltEb_false] at h1 h2
  unfold ltE at h1 h2
  have e1 : x.1 = y.1 := by omega
  have e2 : x.2.1 = y.2.1 := by omega
  have e3 : x.2.2 = y.2.2 := by omega
  exact Prod.ext e1 (Prod.ext e2 e3)
/-- Not behind. -/
def leE (x y : Ed) : Bool := !ltOf cmpE y x
/-- Edges in order. -/
def sortE (es : List Ed) : List Ed := es.mergeSort fun x y => !ltOf cmpE y x

theorem leE_iff (x y : Ed) : leE x y = true ↔ ¬ ltE y x := by unfold leE; rw [ltOf_cmp, Bool.not_eq_true', ltEb_false]
theorem leE_trans (x y z : Ed) (h1 : leE x y = true) (h2 : leE y z = true) : leE x z = true := by rw [leE_iff] at *; unfold ltE at *; omega
theorem leE_total (x y : Ed) : (leE x y || leE y x) = true := by
  rw [Bool.or_eq_true, leE_iff, leE_iff]; unfold ltE; omega
theorem leE_anti (x y : Ed) (h1 : leE x y = true) (h2 : leE y x = true) : x = y := by
  unfold leE at h1 h2
  exact totE x y (by simpa using h2) (by simpa using h1)
theorem sortE_perm (es : List Ed) : (sortE es).Perm es := List.mergeSort_perm _ _
theorem sortE_len (es : List Ed) : (sortE es).length = es.length := (sortE_perm es).length_eq
theorem sortE_sorted (es : List Ed) : (sortE es).Pairwise fun x y => leE x y = true := by
  have := List.pairwise_mergeSort (le := leE) leE_trans leE_total es
  exact this
/-- What is in order and has the same edges is the same list. -/
theorem sorted_uniq {l es : List Ed} (hp : l.Perm es) (hs : l.Pairwise fun x y => leE x y = true) : l = sortE es := by
  refine List.Perm.eq_of_pairwise (le := fun x y => leE x y = true) ?_ hs (sortE_sorted es) (hp.trans (sortE_perm es).symm)
  intro a b _ _ h1 h2
  exact leE_anti a b h1 h2
theorem sort_sort (es : List Ed) : sortE (sortE es) = sortE es := (sorted_uniq (sortE_perm es) (sortE_sorted es)).symm ▸ (sorted_uniq (l := sortE es) (es := sortE es) (List.Perm.refl _) (sortE_sorted es)).symm
theorem sort_congr {l es : List Ed} (hp : l.Perm es) : sortE l = sortE es := sorted_uniq ((sortE_perm l).trans hp) (sortE_sorted l)
end Go.Proofs.YtbmkgnlfccigpaaGreat

namespace Go.Proofs.YtbmkgnlfccigpaaGreat
set_option maxRecDepth 100000
open Go.ChangeShapes Go.WideShapes Go.ChangeAt Go.RowKit Go.Sort

/-- The first that is not 0. -/
def or3 (a b c : Int) : Int := if a ≠ 0 then a else if b ≠ 0 then b else c

set_option maxHeartbeats 1000000 in
theorem cmpOr_any (a b c : Int) (q : Nat) (w : World) (h0 : w.cell? ⟨q, 0, none⟩ = some (.int .i64 a)) (h1 : w.cell? ⟨q, 1, none⟩ = some (.int .i64 b)) (h2 : w.cell? ⟨q, 2, none⟩ = some (.int .i64 c)) :
    Calls Tryz.prog 45 #[.slice (some ⟨q, 0, none⟩) 3 3] w fun e w' => e = .returned (.int .i64 (or3 a b c)) ∧ w' = w := by
  unfold or3
  by_cases ha : a ≠ 0
  · rw [if_pos ha]
    have ha' : (a != 0) = true := by simpa using ha
    go_enter Tryz.func45, Tryz.ntmps45
    go_wp2
    refine wp_loop_rounds 1 ?_
    rw [rounds_succ]
    go_wp2
    go_ret
    exact ⟨rfl, rfl⟩
  · rw [if_neg ha]
    have ha' : (a != 0) = false := by simpa using ha
    by_cases hb : b ≠ 0
    · rw [if_pos hb]
      have hb' : (b != 0) = true := by simpa using hb
      go_enter Tryz.func45, Tryz.ntmps45
      go_wp2
      refine wp_loop_rounds 2 ?_
      rw [rounds_succ]
      go_wp2
      rw [rounds_succ]
      go_wp2
      go_ret
      exact ⟨rfl, rfl⟩
    · rw [if_neg hb]
      have hb' : (b != 0) = false := by simpa using hb
      by_cases hc : c ≠ 0
      · have hc' : (c != 0) = true := by simpa using hc
        go_enter Tryz.func45, Tryz.ntmps45
        go_wp2
        refine wp_loop_rounds 3 ?_
        rw [rounds_succ]
        go_wp2
        rw [rounds_succ]
        go_wp2
        rw [rounds_succ]
        go_wp2
        go_ret
        exact ⟨rfl, rfl⟩
      · have hc' : (c != 0) = false := by simpa using hc
        have hc0 : c = 0 := by simpa using hc
        go_enter Tryz.func45, Tryz.ntmps45
        go_wp2
        refine wp_loop_rounds 4 ?_
        rw [rounds_succ]
        go_wp2
        rw [rounds_succ]
        go_wp2
        rw [rounds_succ]
        go_wp2
        rw [rounds_succ]
        go_wp2
        go_ret
        exact ⟨by rw [hc0]; rfl, rfl⟩

theorem cmpE_or (x y : Ed) : cmpE x y = or3 (cmpI x.1 y.1) (cmpI x.2.1 y.2.1) (cmpI x.2.2 y.2.2) := rfl
end Go.Proofs.YtbmkgnlfccigpaaGreat

namespace Go.Proofs.YtbmkgnlfccigpaaGreat
set_option maxRecDepth 100000
open Go.ChangeShapes Go.WideShapes Go.ChangeAt Go.RowKit Go.Sort

theorem heap_third (w : World) (o1 o2 : Obj) (cs : Array Value) (t : TypeId) : (((w.alloc o1).alloc o2).alloc (.cells cs t)).drew.heap[w.heap.size + 1 + 1]? = some (.cells cs t (0, 0)) := by
  have := heap_second (w.alloc o1) o2 cs t
  have e : (w.alloc o1).heap.size = w.heap.size + 1 := by simp
  rw [e] at this
  exact this
/-- A world behind W: blocks are laid, nothing is turned; the boxes of the two edges. -/
def CmpS (W V : World) (a0 a1 a2 b0 b1 b2 : Int) : Prop :=
  V.cell? ⟨W.heap.size, 0, none⟩ = some (.int .i64 a0) ∧ V.cell? ⟨W.heap.size + 1, 0, none⟩ = some (.int .i64 b0) ∧ V.cell? ⟨W.heap.size, 1, none⟩ = some (.int .i64 a1) ∧ V.cell? ⟨W.heap.size + 1, 1, none⟩ = some (.int .i64 b1) ∧ V.cell? ⟨W.heap.size, 2, none⟩ = some (.int .i64 a2) ∧ V.cell? ⟨W.heap.size + 1, 2, none⟩ = some (.int .i64 b2) ∧ ∃ q os', V = grow (W.drewN q) os'
theorem cmpS_start (W : World) (a0 a1 a2 b0 b1 b2 : Int) : CmpS W ((W.alloc (.cells #[.int .i64 a0, .int .i64 a1, .int .i64 a2] 44)).alloc (.cells #[.int .i64 b0, .int .i64 b1, .int .i64 b2] 44)).drew a0 a1 a2 b0 b1 b2 := by
  refine ⟨by simp, by simp, by simp, by simp, by simp, by simp, 1, #[.cells #[.int .i64 a0, .int .i64 a1, .int .i64 a2] 44, .cells #[.int .i64 b0, .int .i64 b1, .int .i64 b2] 44], ?_⟩
  rw [alloc_eq_grow, alloc_eq_grow, grow_grow]; rfl
theorem cmpS_alloc {W V : World} {a0 a1 a2 b0 b1 b2 : Int} (h : CmpS W V a0 a1 a2 b0 b1 b2) (o : Obj) : CmpS W (V.alloc o) a0 a1 a2 b0 b1 b2 := by
  obtain ⟨h1, h2, h3, h4, h5, h6, q, os, h7⟩ := h
  have c : ∀ {p : Addr} {v : Value}, V.cell? p = some v → (V.alloc o).cell? p = some v := fun {p v} hp => ((below_alloc V o).cell (p := p) (World.block_lt_of_cell? V p hp)).trans hp
  exact ⟨c h1, c h2, c h3, c h4, c h5, c h6, q, os ++ #[o], by rw [alloc_eq_grow, h7, grow_grow]⟩

set_option maxHeartbeats 2000000 in
set_option maxRecDepth 100000 in
/-- graph's compare: in whatever world; blocks are laid, nothing is turned. -/
theorem compare_any (x y : Ed) (W : World) : Calls Tryz.prog 30 #[.agg #[.int .i64 x.1, .int .i64 x.2.1, .int .i64 x.2.2], .agg #[.int .i64 y.1, .int .i64 y.2.1, .int .i64 y.2.2]] W fun e w' => e = .returned (.int .i64 (cmpE x y)) ∧ ∃ q os', w' = grow (W.drewN q) os' := by
  rw [cmpE_or]
  obtain ⟨a0, a1, a2⟩ := x
  obtain ⟨b0, b1, b2⟩ := y
  simp only
  have HS0 : Hid (CmpS W _ a0 a1 a2 b0 b1 b2) := cmpS_start W a0 a1 a2 b0 b1 b2
  generalize hor : or3 (cmpI a0 b0) (cmpI a1 b1) (cmpI a2 b2) = rr
  have c3 : Hid (∀ (q : Nat) (V : World), V.heap[q]? = some (.cells #[.int .i64 (cmpI a0 b0), .int .i64 (cmpI a1 b1), .int .i64 (cmpI a2 b2)] 3 (0, 0)) → Calls Tryz.prog 45 #[.slice (some ⟨q, 0, none⟩) 3 3] V fun e w' => e = .returned (.int .i64 rr) ∧ w' = V) := fun q V h => by rw [← hor]; exact cmpOr_any _ _ _ q V (by rw [cell_of_row _ _ _ _ _ _ h]; rfl) (by rw [cell_of_row _ _ _ _ _ _ h]; rfl) (by rw [cell_of_row _ _ _ _ _ _ h]; rfl)
  clear hor
  go_enter Tryz.func30, Tryz.ntmps30
  go_wp2_with fail
  go_region_held3 (fun V => V.cell? ⟨W.heap.size, 0, none⟩ = some (.int .i64 a0) ∧ V.cell? ⟨W.heap.size + 1, 0, none⟩ = some (.int .i64 b0) ∧ V.cell? ⟨W.heap.size, 1, none⟩ = some (.int .i64 a1) ∧ V.cell? ⟨W.heap.size + 1, 1, none⟩ = some (.int .i64 b1) ∧ V.cell? ⟨W.heap.size, 2, none⟩ = some (.int .i64 a2) ∧ V.cell? ⟨W.heap.size + 1, 2, none⟩ = some (.int .i64 b2) ∧ ∃ q os', V = grow (W.drewN q) os') (first | exact HS0.out | assumption | exact cmpS_alloc (by assumption) _) (first | (go_at_call 46; refine (cmpInt_any _ _ _).mono ?_; rintro e w1 ⟨rfl, rfl⟩) | (go_at_call 45; refine (c3.out _ _ (heap_third _ _ _ _ _)).mono ?_; rintro e w1 ⟨rfl, rfl⟩))
  all_goals (rename_i hh; clear hh)
  go_wp2_with fail
  go_ret
  exact ⟨rfl, 1, _, by rw [alloc_eq_grow, alloc_eq_grow, alloc_eq_grow, grow_grow, grow_grow]; rfl⟩
end Go.Proofs.YtbmkgnlfccigpaaGreat

namespace Go.Proofs.YtbmkgnlfccigpaaGreat
open Go.Shelf
def Tryz.sortE_ren : Go.Shelf.Ren := ⟨fun | 6 => 29 | 15 => 44 | 14 => 43 | 28 => 65 | 29 => 66 | 20 => 57 | 21 => 58 | 22 => 59 | 23 => 60 | 24 => 61 | 25 => 62 | 26 => 63 | 27 => 64 | 46 => 78 | 47 => 79 | 48 => 80 | 49 => 81 | 50 => 82 | 57 => 86 | n => n, fun | 22 => 23 | 24 => 44 | 25 => 76 | 3 => 3 | 39 => 97 | 0 => 0 | 53 => 123 | 55 => 125 | 4 => 4 | 46 => 116 | 45 => 115 | 50 => 120 | 5 => 5 | 9 => 9 | 66 => 140 | 70 => 144 | 76 => 148 | 77 => 149 | n => n, fun | n => n⟩
theorem Tryz.sortE : Go.Proofs.SlLaysF0.n6 Tryz.prog Tryz.sortE_ren := {
  mixed := by kernel_rfl
  f6 := ⟨Tryz.f29.name, by decide, Tryz.func29.trans (congrArg some (by kernel_rfl))⟩
  f14 := ⟨Tryz.f43.name, by decide, Tryz.func43.trans (congrArg some (by kernel_rfl))⟩
  f15 := Tryz.func44.trans (congrArg some (by kernel_rfl))
  f20 := ⟨Tryz.f57.name, by decide, Tryz.func57.trans (congrArg some (by kernel_rfl))⟩
  f21 := ⟨Tryz.f58.name, by decide, Tryz.func58.trans (congrArg some (by kernel_rfl))⟩
  f22 := ⟨Tryz.f59.name, by decide, Tryz.func59.trans (congrArg some (by kernel_rfl))⟩
  f23 := ⟨Tryz.f60.name, by decide, Tryz.func60.trans (congrArg some (by kernel_rfl))⟩
  f24 := ⟨Tryz.f61.name, by decide, Tryz.func61.trans (congrArg some (by kernel_rfl))⟩
  f25 := ⟨Tryz.f62.name, by decide, Tryz.func62.trans (congrArg some (by kernel_rfl))⟩
  f26 := ⟨Tryz.f63.name, by decide, Tryz.func63.trans (congrArg some (by kernel_rfl))⟩
  f27 := ⟨Tryz.f64.name, by decide, Tryz.func64.trans (congrArg some (by kernel_rfl))⟩
  f28 := Tryz.func65.trans (congrArg some (by kernel_rfl))
  f29 := Tryz.func66.trans (congrArg some (by kernel_rfl))
  f46 := ⟨Tryz.f78.name, by decide, Tryz.func78.trans (congrArg some (by kernel_rfl))⟩
  f47 := Tryz.func79.trans (congrArg some (by kernel_rfl))
  f48 := Tryz.func80.trans (congrArg some (by kernel_rfl))
  f49 := ⟨Tryz.f81.name, by decide, Tryz.func81.trans (congrArg some (by kernel_rfl))⟩
  f50 := ⟨Tryz.f82.name, by decide, Tryz.func82.trans (congrArg some (by kernel_rfl))⟩
  f57 := ⟨Tryz.f86.name, by decide, Tryz.func86.trans (congrArg some (by kernel_rfl))⟩
  t0 := Tryz.underlying0
  a0 := Tryz.isAgg0
  z0 := Tryz.sizeOf0
  v0 := Tryz.zeroValue0
  t3 := Tryz.underlying3
  a3 := Tryz.isAgg3
  z3 := Tryz.sizeOf3
  v3 := Tryz.zeroValue3
  t4 := Tryz.underlying4
  a4 := Tryz.isAgg4
  z4 := Tryz.sizeOf4
  v4 := Tryz.zeroValue4
  t5 := Tryz.underlying5
  a5 := Tryz.isAgg5
  z5 := Tryz.sizeOf5
  v5 := Tryz.zeroValue5
  t9 := Tryz.underlying9
  a9 := Tryz.isAgg9
  z9 := Tryz.sizeOf9
  v9 := Tryz.zeroValue9
  t22 := Tryz.underlying23
  a22 := Tryz.isAgg23
  z22 := Tryz.sizeOf23
  v22 := Tryz.zeroValue23
  t25 := Tryz.underlying76
  a25 := Tryz.isAgg76
  z25 := Tryz.sizeOf76
  v25 := Tryz.zeroValue76
  t39 := Tryz.underlying97
  a39 := Tryz.isAgg97
  z39 := Tryz.sizeOf97
  v39 := Tryz.zeroValue97
  t45 := Tryz.underlying115
  a45 := Tryz.isAgg115
  z45 := Tryz.sizeOf115
  v45 := Tryz.zeroValue115
  t46 := Tryz.underlying116
  a46 := Tryz.isAgg116
  z46 := Tryz.sizeOf116
  v46 := Tryz.zeroValue116
  t50 := Tryz.underlying120
  a50 := Tryz.isAgg120
  z50 := Tryz.sizeOf120
  v50 := Tryz.zeroValue120
  t53 := Tryz.underlying123
  a53 := Tryz.isAgg123
  z53 := Tryz.sizeOf123
  v53 := Tryz.zeroValue123
  t55 := Tryz.underlying125
  a55 := Tryz.isAgg125
  z55 := Tryz.sizeOf125
  v55 := Tryz.zeroValue125
  t66 := Tryz.underlying140
  a66 := Tryz.isAgg140
  z66 := Tryz.sizeOf140
  v66 := Tryz.zeroValue140
  t70 := Tryz.underlying144
  a70 := Tryz.isAgg144
  z70 := Tryz.sizeOf144
  v70 := Tryz.zeroValue144
  t76 := Tryz.underlying148
  a76 := Tryz.isAgg148
  z76 := Tryz.sizeOf148
  v76 := Tryz.zeroValue148
  t77 := Tryz.underlying149
  a77 := Tryz.isAgg149
  z77 := Tryz.sizeOf149
  v77 := Tryz.zeroValue149 }
end Go.Proofs.YtbmkgnlfccigpaaGreat

namespace Go.Proofs.YtbmkgnlfccigpaaGreat
set_option maxRecDepth 100000
open Go.ChangeShapes Go.WideShapes Go.ChangeAt Go.RowKit Go.Sort

theorem encE_agg (x : Ed) : (.agg (encE x).toArray : Value) = .agg #[.int .i64 x.1, .int .i64 x.2.1, .int .i64 x.2.2] := rfl
theorem cmpLaysE (blk off size : Nat) (w : World) : CmpLays Tryz.prog 30 #[] encE 3 cmpE blk off size w := fun _ _ _ _ x y => compare_any x y _

theorem flat_get (d : List Ed) (t : Nat) (h : t < d.length * 3) : (d.flatMap encE)[t]? = some (flatK encE 3 d.toArray)[t]! := by
  have h1 : t / 3 < d.length := by omega
  have h2 : t % 3 < 3 := by omega
  have hx : d[t / 3]? = some d[t / 3] := List.getElem?_eq_getElem h1
  have hm2 : t % 3 < (encE d[t / 3]).length := h2
  have hu : (encE d[t / 3])[t % 3]? = some (encE d[t / 3])[t % 3] := List.getElem?_eq_getElem hm2
  have := flat_at encE_len hx hu
  rw [show t / 3 * 3 + t % 3 = t by omega] at this
  rw [this, get_flatK _ _ _ _ (by simpa using h)]
  congr 1
  have e1 : d.toArray[t / 3]! = d[t / 3] := by rw [getElem!_pos _ _ (by simpa using h1)]; simp
  rw [e1]
  exact (getElem!_pos (encE d[t / 3]) (t % 3) hm2).symm

/-- An owned row of edges, in the sort's words. -/
theorem holds_own {w : World} {base g n cap : Nat} {d : List Ed} (h : w.ownsRow base 44 3 (.slice (some ⟨g, 0, none⟩) n cap) d.length (d.flatMap encE)) : HoldsK encE 3 w g 0 d.toArray := by
  intro j hj
  rw [size_flatK] at hj
  have hj' : j < d.length * 3 := by simpa using hj
  rcases own_shapeK h with ⟨hv, _⟩ | ⟨g', cap', hv, _, _, _, _, hc⟩
  · cases hv
  · injection hv with h1 h2 h3
    injection h1 with h1
    injection h1 with h1
    subst h1 h2 h3
    refine ⟨?_, frozenK h _⟩
    have := hc j _ (flat_get d j hj')
    rw [Nat.zero_add]; exact this
/-- .. and back, behind the sort. -/
theorem own_sorted {w : World} {base g n cap m : Nat} {d d' : List Ed} {os : Array Obj} (h : w.ownsRow base 44 3 (.slice (some ⟨g, 0, none⟩) n cap) d.length (d.flatMap encE)) (hl : d'.length = d.length) :
    (sortWorldK encE 3 w g 0 m d'.toArray os).ownsRow base 44 3 (.slice (some ⟨g, 0, none⟩) n cap) d'.length (d'.flatMap encE) ∧ Below base w (sortWorldK encE 3 w g 0 m d'.toArray os) := by
  rcases h.2 with ⟨hv, _⟩ | ⟨g', cap', cur, hv, hg, hgg, hc, hm, hcur, htk⟩
  · cases hv
  · injection hv with h1 h2 h3
    injection h1 with h1
    injection h1 with h1
    subst h1 h2 h3
    have lt : g < w.heap.size := (Array.getElem?_eq_some_iff.1 hgg).1
    have hblk : (sortWorldK encE 3 w g 0 m d'.toArray os).heap[g]? = some (.cells (putCells id 0 (flatK encE 3 d'.toArray) cur) 44 (0, 0)) := by
      simp only [sortWorldK, grow, putRowK, putRow, mapBlock, Sort.ahead]
      rw [Array.getElem?_append_left (by simpa using lt), Array.getElem?_modify, if_pos rfl, hgg]
      rfl
    refine ⟨⟨flat_len encE_len d', .inr ⟨g, cap, _, by rw [hl], hg, hblk, by rw [hl]; exact hc, hm, by simp [putCells, hcur], ?_⟩⟩, ?_⟩
    · refine List.ext_getElem? fun t => ?_
      rcases Nat.lt_or_ge t (d'.length * 3) with ht | ht
      · rw [List.getElem?_take_of_lt ht, flat_get d' t ht, Array.getElem?_toList]
        simp only [putCells, Array.getElem?_mapIdx]
        have hc2 : t < cur.size := by rw [hcur]; rw [hl] at ht; omega
        rw [Array.getElem?_eq_getElem hc2, Option.map_some, if_pos ⟨by omega, by rw [size_flatK]; simpa using ht⟩]
        rfl
      · rw [List.getElem?_eq_none (by rw [List.length_take]; omega), List.getElem?_eq_none (by rw [flat_len encE_len d']; omega)]
    · refine ⟨rfl, rfl, rfl, ?_, fun k hk => ?_⟩
      · simp [sortWorldK, grow, putRowK, putRow, mapBlock, Sort.ahead]
      · have hk2 : k < w.heap.size := by omega
        simp only [sortWorldK, grow, putRowK, putRow, mapBlock, Sort.ahead]
        rw [Array.getElem?_append_left (by simpa using hk2), Array.getElem?_modify, if_neg (by omega)]

/-- slices.SortFunc with compare. -/
theorem sort_any (base : Nat) (v : Value) (es : List Ed) (w : World) (h : w.ownsRow base 44 3 v es.length (es.flatMap encE)) (hl : es.length < 4611686018427387904) :
    Calls Tryz.prog 29 #[v, .func (.func 30) #[] #[]] w fun e w' => e = .returned (.tuple #[]) ∧ w'.ownsRow base 44 3 v (sortE es).length ((sortE es).flatMap encE) ∧ Below base w w' := by
  rcases own_shapeK h with ⟨rfl, h0, _⟩ | ⟨g, cap, rfl, hg, lt, hc, hm, _⟩
  · have : es = [] := List.eq_nil_of_length_eq_zero h0
    subst this
    have hcon := AnyF.slices_SortFunc_none Tryz.sortE none 0 (.func (.func 30) #[] #[]) w
    change Calls Tryz.prog 29 _ _ _ at hcon
    refine hcon.mono ?_
    rintro e w' ⟨rfl, rfl⟩
    exact ⟨rfl, by simpa [sortE] using h, Below.refl _ _⟩
  · have eg : ∀ args w, (callFunc 30 args).run Tryz.prog w = .ok (.enter 30 args) w := Go.Proofs.enters_of Tryz.func30 (by kernel_rfl) rfl
    have hcon := AnyQ.slices_SortFunc_total Tryz.sortE 3 Tryz.isAgg44 Tryz.sizeOf44 encE encE_len (fun x u hu => encE_one x u hu) cmpE swoE 30 #[] g 0 cap es.toArray w eg (cmpLaysE _ _ _ _) (holds_own h) lt (by simpa using hl) totE
    change Calls Tryz.prog 29 _ _ _ at hcon
    rw [show es.toArray.size = es.length by simp] at hcon
    refine hcon.mono ?_
    rintro e w' ⟨rfl, m, os, rfl⟩
    have := own_sorted (m := m) (os := os) h (sortE_len es)
    exact ⟨rfl, this.1, this.2⟩
end Go.Proofs.YtbmkgnlfccigpaaGreat

namespace Go.Proofs.YtbmkgnlfccigpaaGreat
set_option maxRecDepth 100000
open Go.ChangeShapes Go.WideShapes Go.ChangeAt Go.RowKit

/-- From and To exchanged. -/
def turnE (e : Ed) : Ed := (e.2.1, e.1, e.2.2)
def sameE (e : Ed) : Ed := e

set_option maxHeartbeats 400000 in
theorem turn_any (x : Ed) (w : World) : Calls Tryz.prog 18 #[.agg #[.int .i64 x.1, .int .i64 x.2.1, .int .i64 x.2.2]] w fun e w' => e = .returned (.agg #[.int .i64 (turnE x).1, .int .i64 (turnE x).2.1, .int .i64 (turnE x).2.2]) ∧ Below w.heap.size w w' := by
  obtain ⟨a, b, c⟩ := x
  unfold turnE
  simp only
  go_enter Tryz.func18, Tryz.ntmps18
  go_wp2_with fail
  have hb := heap_second w (.cells #[.int .i64 a, .int .i64 b, .int .i64 c] 44) #[.int .i64 b, .int .i64 a, .int .i64 c] 44
  have r0 := fun j => cell_of_row _ _ j _ _ _ hb
  refine bodyPost_ret (v := .agg #[.int .i64 b, .int .i64 a, .int .i64 c]) (by simp [results, Tryz.results18, go_sem, r0]) rfl ⟨rfl, ?_⟩
  exact (below_alloc w _).alloc (by simp) _
end Go.Proofs.YtbmkgnlfccigpaaGreat

namespace Go.Proofs.YtbmkgnlfccigpaaGreat
set_option maxRecDepth 100000
open Go.ChangeShapes Go.WideShapes Go.ChangeAt Go.RowKit

set_option maxHeartbeats 2000000 in
set_option maxRecDepth 100000 in
theorem inOrder_turn (v : Value) (es : List Ed) (n : Int) (w : World) (h : EdR w v es) :
    Calls Tryz.prog 17 #[.agg #[.int .i64 n, v], .func (.func 18) #[] #[]] w fun e w' => ∃ v', e = .returned (.tuple #[.agg #[.int .i64 (okN (faultE n es) n), v'], .int .i64 (faultE n es)]) ∧
      w'.ownsRow w.heap.size 44 3 v' (okL (faultE n es) (sortE (es.map turnE))).length ((okL (faultE n es) (sortE (es.map turnE))).flatMap encE) ∧ Below w.heap.size w w' := by
  have HR : Hid (EdR w v es) := h
  obtain ⟨a, cap, rfl, hc, hm, _, _⟩ := h
  unfold maxLen at hm
  by_cases hf : faultE n es = 0
  · have HOK : Hid (0 ≤ n ∧ n ≤ 200 ∧ es.length ≤ 600 ∧ ∀ e ∈ es, outE n e = false) := fault_ok hf
    have hle := HOK.out.2.2.1
    rw [hf, okN_yes, okL_yes]
    have HF0 : Hid (faultE n es = 0) := hf
    clear hf
    go_enter Tryz.func17, Tryz.ntmps17
    go_wp2_with fail
    have hchk := fun X (hX : EdR X (.slice a es.length cap) es) => check_any _ es n X hX
    rw [HF0.out] at hchk
    refine (hchk _ ?_).mono ?_
    · exact HR.out.below ((below_alloc w _).alloc (by simp) _) (Nat.le_refl _)
    clear hchk
    rintro e w1 ⟨rfl, hb1⟩
    have B1 : Hid (Below (w.heap.size + 2) ((w.alloc (.cells #[.int .i64 n, .slice a es.length cap] 25)).alloc (.cells #[.int .i64 0, .slice none 0 0] 25)) w1) := by
      show Below _ _ _
      simpa using hb1
    have hs1 : w.heap.size + 2 ≤ w1.heap.size := by have := B1.out.size; simpa using this
    clear hb1
    obtain ⟨k4, k5⟩ := gbox1 B1.out
    go_wp2_with fail
    go_loopw [7, 19] (fun u i wr => ∃ k : Nat, k ≤ es.length ∧ i = .int .i64 k ∧ wr.ownsRow (w.heap.size + 2) 44 3 u ((es.take k).map turnE).length (((es.take k).map turnE).flatMap encE) ∧ Below (w.heap.size + 2) ((w.alloc (.cells #[.int .i64 n, .slice a es.length cap] 25)).alloc (.cells #[.int .i64 0, .slice none 0 0] 25)) wr) (fun _ i _ => es.length - (intOf i).toNat)
    case atStart => exact ⟨0, by omega, rfl, World.ownsRow_nil _ _ _ _, B1.out⟩
    case round =>
      obtain ⟨k, hk, rfl, hown, hbel⟩ := hrel
      have OW : Hid (wr.ownsRow (w.heap.size + 2) 44 3 u7 ((es.take k).map turnE).length (((es.take k).map turnE).flatMap encE)) := hown
      have HB : Hid (Below (w.heap.size + 2) ((w.alloc (.cells #[.int .i64 n, .slice a es.length cap] 25)).alloc (.cells #[.int .i64 0, .slice none 0 0] 25)) wr) := hbel
      have hsr : w.heap.size + 2 ≤ wr.heap.size := by have := hbel.size; simpa using this
      clear hown hbel
      by_cases hlt : k < es.length
      · obtain ⟨b, off, cap', e1, _, _, lt, hv⟩ := EdR.at (HR.out.below (below_two HB.out) (Nat.le_refl _)) (by omega)
        injection e1 with e1 _ e3
        subst e1 e3
        obtain ⟨x, hx⟩ := getE hlt
        obtain ⟨c1, c2, c3⟩ := hv k x hx
        have HT : Hid ((es.take (k + 1)).map turnE = (es.take k).map turnE ++ [turnE x]) := by show _ = _; rw [take_snoc hx, List.map_append]; rfl
        have hlen : ((es.take k).map turnE).length ≤ 600 := by simp; omega
        clear hv hx k4 k5
        generalize (es.take k).map turnE = f at *
        go_wp2_with fail
        refine (turn_any x _).mono ?_
        rintro e w2 ⟨rfl, hb2⟩
        have HB2 : Hid (Below (w.heap.size + 2) ((w.alloc (.cells #[.int .i64 n, .slice (some ⟨b, off, none⟩) es.length cap] 25)).alloc (.cells #[.int .i64 0, .slice none 0 0] 25)) w2) := (HB.out.alloc hsr _).trans (hb2.mono (by simp; omega))
        have O2 : Hid (w2.ownsRow (w.heap.size + 2) 44 3 u7 f.length (f.flatMap encE)) := own_below (OW.out.alloc _) hb2 (Nat.le_refl _)
        have hs2 : wr.heap.size + 1 ≤ w2.heap.size := by have := hb2.size; simpa using this
        clear hb2
        generalize turnE x = y at *
        go_wp2_with (at_builtin; refine wpList_append_newK kE rfl _ _ rfl (w.heap.size + 2) _ f rfl (O2.out.alloc _) w2.heap.size y rfl #[.int .i64 y.1, .int .i64 y.2.1, .int .i64 y.2.2] rfl (0, 0) (heap_alloc_new _ _) (by simp [kE]; omega) (by unfold maxLen; omega) (by simp; omega) ?_)
        intro g c w3 hown3 hb3 _
        have O3 : Hid (w3.ownsRow (w.heap.size + 2) 44 3 (.slice (some ⟨g, 0, none⟩) (f.length + 1) c) ((es.take (k + 1)).map turnE).length (((es.take (k + 1)).map turnE).flatMap encE)) := by show World.ownsRow _ _ _ _ _ _ _; rw [HT.out, flat_snoc, List.length_append]; exact hown3
        have HB3 : Hid (Below (w.heap.size + 2) ((w.alloc (.cells #[.int .i64 n, .slice (some ⟨b, off, none⟩) es.length cap] 25)).alloc (.cells #[.int .i64 0, .slice none 0 0] 25)) w3) := (HB2.out.alloc (by omega) _).trans hb3
        clear hown3 hb3
        go_wp2_with fail
        go_roundw
        case rel => exact ⟨k + 1, by omega, by go_num, O3.out, HB3.out⟩
        case measure => simp [intOf]; omega
      · have ek : es.take k = es := List.take_of_length_le (by omega)
        have O2 : Hid (wr.ownsRow (w.heap.size + 2) 44 3 u7 (es.map turnE).length ((es.map turnE).flatMap encE)) := by have := OW.out; rwa [ek] at this
        have hml : (es.map turnE).length < 4611686018427387904 := by simp; omega
        clear ek OW k4 k5
        go_wp2_with fail
        refine (sort_any _ _ (es.map turnE) _ O2.out hml).mono ?_
        rintro e w3 ⟨rfl, hown3, hb3⟩
        have O3 : Hid (w3.ownsRow (w.heap.size + 2) 44 3 u7 (sortE (es.map turnE)).length ((sortE (es.map turnE)).flatMap encE)) := hown3
        have BB : Hid (Below (w.heap.size + 2) ((w.alloc (.cells #[.int .i64 n, .slice a es.length cap] 25)).alloc (.cells #[.int .i64 0, .slice none 0 0] 25)) w3) := HB.out.trans hb3
        obtain ⟨q0, q1, q2, q3⟩ := gbox2 BB.out
        obtain ⟨q4, q5⟩ := gbox1 BB.out
        obtain ⟨va, vn, vc, rfl⟩ : ∃ a n c, u7 = .slice a n c := by obtain ⟨a, c, e, _⟩ := RowK.own encE_len O3.out; exact ⟨_, _, _, e⟩
        clear hown3 hb3 O2 HB
        go_wp2_with fail
        obtain ⟨r0, r1⟩ := gput_cells (n := n) (v := .slice va vn vc) q0 q1
        have hb : ∀ (p : Addr), p.block = w.heap.size + 1 → p.block < w.heap.size + 2 := fun p hp => by omega
        refine bodyPost_ret (v := .tuple #[.agg #[.int .i64 n, .slice va vn vc], .int .i64 0]) (by simp [results, Tryz.results17, go_sem, r0, r1]) rfl ⟨_, rfl, ?_, ?_⟩
        · exact own_lower (RowK.setBelow (RowK.setBelow O3.out (hb _ rfl) _) (hb _ rfl) _) (by omega)
        · exact ((below_two BB.out).setCell (Nat.le_succ _) _).setCell (Nat.le_succ _) _
  · have hne : (faultE n es != 0) = true := by simpa using hf
    rw [okN_no hf, okL_no hf]
    have HCK : Hid (∀ X, EdR X (.slice a es.length cap) es → Calls Tryz.prog 28 #[.agg #[.int .i64 n, .slice a es.length cap]] X fun e w' => e = .returned (.int .i64 (faultE n es)) ∧ Below X.heap.size X w') := fun X hX => check_any _ es n X hX
    generalize faultE n es = fe at *
    clear hf
    go_enter Tryz.func17, Tryz.ntmps17
    go_wp2_with fail
    refine (HCK.out _ ?_).mono ?_
    · exact HR.out.below ((below_alloc w _).alloc (by simp) _) (Nat.le_refl _)
    rintro e w1 ⟨rfl, hb1⟩
    have B1 : Hid (Below (w.heap.size + 2) ((w.alloc (.cells #[.int .i64 n, .slice a es.length cap] 25)).alloc (.cells #[.int .i64 0, .slice none 0 0] 25)) w1) := by
      show Below _ _ _
      simpa using hb1
    have hs1 : w.heap.size + 2 ≤ w1.heap.size := by have := B1.out.size; simpa using this
    clear hb1
    obtain ⟨q0, q1, q2, q3⟩ := gbox2 B1.out
    go_wp2_with fail
    obtain ⟨r0, r1⟩ := gput_cells (n := 0) (v := .slice none 0 0) q0 q1
    refine bodyPost_ret (v := .tuple #[.agg #[.int .i64 0, .slice none 0 0], .int .i64 fe]) (by simp [results, Tryz.results17, go_sem, r0, r1]) rfl ⟨_, rfl, ?_, ?_⟩
    · exact World.ownsRow_nil _ _ _ _
    · exact ((below_two B1.out).setCell (Nat.le_succ _) _).setCell (Nat.le_succ _) _
end Go.Proofs.YtbmkgnlfccigpaaGreat

namespace Go.Proofs.YtbmkgnlfccigpaaGreat
set_option maxRecDepth 100000
open Go.ChangeShapes Go.WideShapes Go.ChangeAt Go.RowKit

set_option maxHeartbeats 1000000 in
theorem reverse_any (v : Value) (es : List Ed) (n : Int) (w : World) (h : EdR w v es) :
    Calls Tryz.prog 11 #[.agg #[.int .i64 n, v]] w fun e w' => ∃ v', e = .returned (.tuple #[.agg #[.int .i64 (okN (faultE n es) n), v'], .int .i64 (faultE n es)]) ∧
      w'.ownsRow w.heap.size 44 3 v' (okL (faultE n es) (sortE (es.map turnE))).length ((okL (faultE n es) (sortE (es.map turnE))).flatMap encE) ∧ Below w.heap.size w w' := by
  have HR : Hid (EdR w v es) := h
  have HC : Hid (∀ X, EdR X v es → Calls Tryz.prog 17 #[.agg #[.int .i64 n, v], .func (.func 18) #[] #[]] X fun e w' => ∃ v', e = .returned (.tuple #[.agg #[.int .i64 (okN (faultE n es) n), v'], .int .i64 (faultE n es)]) ∧
      w'.ownsRow X.heap.size 44 3 v' (okL (faultE n es) (sortE (es.map turnE))).length ((okL (faultE n es) (sortE (es.map turnE))).flatMap encE) ∧ Below X.heap.size X w') := fun X hX => inOrder_turn v es n X hX
  obtain ⟨a, cap, rfl⟩ := h.shape
  clear h
  generalize okL (faultE n es) (sortE (es.map turnE)) = L at *
  generalize okN (faultE n es) n = N at *
  generalize faultE n es = fe at *
  go_enter Tryz.func11, Tryz.ntmps11
  go_wp2_with fail
  refine (HC.out _ ?_).mono ?_
  · exact HR.out.below ((below_alloc w _).alloc (by simp) _) (Nat.le_refl _)
  rintro e w1 ⟨v', rfl, hown, hb1⟩
  have B1 : Hid (Below (w.heap.size + 2) ((w.alloc (.cells #[.int .i64 n, .slice a es.length cap] 25)).alloc (.cells #[.int .i64 0, .slice none 0 0] 25)) w1) := by
    show Below _ _ _
    simpa using hb1
  have OW : Hid (w1.ownsRow (w.heap.size + 2) 44 3 v' L.length (L.flatMap encE)) := by
    show World.ownsRow _ _ _ _ _ _ _
    simpa using hown
  obtain ⟨q0, q1, q2, q3⟩ := gbox2 B1.out
  obtain ⟨va, vn, vc, rfl⟩ : ∃ a n c, v' = .slice a n c := by obtain ⟨a, c, e, _⟩ := RowK.own encE_len OW.out; exact ⟨_, _, _, e⟩
  clear hown hb1 HC
  go_wp2_with fail
  obtain ⟨r0, r1⟩ := gput_cells (n := N) (v := .slice va vn vc) q0 q1
  have hb : ∀ (p : Addr), p.block = w.heap.size + 1 → p.block < w.heap.size + 2 := fun p hp => by omega
  refine bodyPost_ret (v := .tuple #[.agg #[.int .i64 N, .slice va vn vc], .int .i64 fe]) (by simp [results, Tryz.results11, go_sem, r0, r1]) rfl ⟨_, rfl, ?_, ?_⟩
  · exact own_lower (RowK.setBelow (RowK.setBelow OW.out (hb _ rfl) _) (hb _ rfl) _) (by omega)
  · exact ((below_two B1.out).setCell (Nat.le_succ _) _).setCell (Nat.le_succ _) _
end Go.Proofs.YtbmkgnlfccigpaaGreat

namespace Go.Proofs.YtbmkgnlfccigpaaGreat
set_option maxRecDepth 100000
open Go.ChangeShapes Go.WideShapes Go.ChangeAt Go.RowKit

theorem turn_in {n : Int} {es : List Ed} (hg : InG n es) : InG n (sortE (es.map turnE)) := fun e he => by
  obtain ⟨d, hd, rfl⟩ := List.mem_map.1 ((sortE_perm _).mem_iff.1 he)
  obtain ⟨f0, f1, t0, t1, w0⟩ := hg d hd
  exact ⟨t0, t1, f0, f1, w0⟩
theorem turn_len (es : List Ed) : (sortE (es.map turnE)).length = es.length := by rw [sortE_len, List.length_map]
theorem turn_rch {es : List Ed} (u v : Int) : Rch (sortE (es.map turnE)) u v ↔ Rch es v u := by
  constructor
  · exact rch_turn fun e he => by
      obtain ⟨d, hd, rfl⟩ := List.mem_map.1 ((sortE_perm _).mem_iff.1 he)
      exact ⟨d.2.2, hd⟩
  · exact rch_turn fun e he => ⟨e.2.2, (sortE_perm _).mem_iff.2 (List.mem_map.2 ⟨e, he, rfl⟩)⟩

set_option maxHeartbeats 2000000 in
set_option maxRecDepth 100000 in
theorem pStrong_any (v : Value) (es : List Ed) (n : Int) (w : World) (h : EdR w v es) :
    Calls Tryz.prog 6 #[.agg #[.int .i64 n, v]] w (NmsP w (faultE n es) (strongF n.toNat es)) := by
  have HR : Hid (EdR w v es) := h
  obtain ⟨a, cap, rfl, hca, hma, _, _⟩ := h
  unfold maxLen at hma
  have HCK : Hid (∀ X, EdR X (.slice a es.length cap) es → Calls Tryz.prog 11 #[.agg #[.int .i64 n, .slice a es.length cap]] X fun e w' => ∃ v', e = .returned (.tuple #[.agg #[.int .i64 (okN (faultE n es) n), v'], .int .i64 (faultE n es)]) ∧
      w'.ownsRow X.heap.size 44 3 v' (okL (faultE n es) (sortE (es.map turnE))).length ((okL (faultE n es) (sortE (es.map turnE))).flatMap encE) ∧ Below X.heap.size X w') := fun X hX => reverse_any _ es n X hX
  obtain ⟨W0, hW0⟩ : ∃ W0, W0 = w.alloc (.cells #[.int .i64 n, .slice a es.length cap] 25) := ⟨_, rfl⟩
  have Q0 : BX 25 W0 w.heap.size #[.int .i64 n, .slice a es.length cap] := by rw [hW0]; exact BX.new _ _ _
  have BH : Hid (Below w.heap.size w W0) := by show Below _ _ _; rw [hW0]; exact below_alloc _ _
  have s1 : w.heap.size + 1 ≤ W0.heap.size := by rw [hW0]; simp
  have HK : Hid (∀ X, Below W0.heap.size W0 X → BX 25 X w.heap.size #[.int .i64 n, .slice a es.length cap] ∧ Below w.heap.size w X ∧ EdR X (.slice a es.length cap) es) := fun X hX => ⟨Q0.below hX (by omega), BH.out.trans (hX.mono (by omega)), HR.out.below (BH.out.trans (hX.mono (by omega))) (Nat.le_refl _)⟩
  have R0 : Hid (EdR W0 (.slice a es.length cap) es) := HR.out.below BH.out (Nat.le_refl _)
  obtain ⟨q0, q1, _⟩ := Q0.all2
  clear Q0
  by_cases hf : faultE n es = 0
  · obtain ⟨hn0, hn1, hle, hgd⟩ := fault_ok hf
    rw [hf, okN_yes, okL_yes] at HCK
    rw [hf]
    obtain ⟨m, rfl⟩ : ∃ m : Nat, n = m := ⟨n.toNat, by omega⟩
    rw [Int.toNat_natCast]
    have HG : Hid (InG m es) := in_fault hf
    have HD : Hid (InG m (sortE (es.map turnE))) := turn_in HG.out
    have hdl : (sortE (es.map turnE)).length ≤ 600 := by rw [turn_len]; omega
    have HT : Hid (∀ u v, Rch (sortE (es.map turnE)) u v ↔ Rch es v u) := fun u v => turn_rch u v
    have HP : Hid (∀ v (w' : World), w'.ownsRow w.heap.size 3 1 v m ((strongF m es).flatMap encI) → Below w.heap.size w w' → NmsP w 0 (strongF m es) (.returned (.tuple #[v, .int .i64 0])) w') := fun v w' h1 h2 => NmsP.yes (by rw [strongF_len]; exact h1) h2
    generalize NmsP w 0 (strongF m es) = P at *
    generalize sortE (es.map turnE) = ds at *
    clear hf hgd
    go_enter Tryz.func6, Tryz.ntmps6
    go_upto_region 1 with fail
    rw [← hW0]
    clear hW0
    go_wp2_with fail
    refine (HCK.out _ R0.out).mono ?_
    rintro e w1 ⟨v', rfl, ho1, hb1⟩
    have A1 : Hid (Below W0.heap.size W0 w1) := hb1
    have D1 : Hid (EdR w1 v' ds) := RowK.own encE_len ho1
    obtain ⟨da, dc, rfl⟩ := D1.out.shape
    clear ho1 hb1 q0 q1 HCK
    go_upto_region 2 with fail
    have W2 : Hid (Below W0.heap.size W0 (w1.alloc (.cells #[.int .i64 (m : Int), .slice da ds.length dc] 25)) ∧ EdR (w1.alloc (.cells #[.int .i64 (m : Int), .slice da ds.length dc] 25)) (.slice da ds.length dc) ds ∧ BX 25 (w1.alloc (.cells #[.int .i64 (m : Int), .slice da ds.length dc] 25)) w1.heap.size #[.int .i64 (m : Int), .slice da ds.length dc]) :=
      ⟨A1.out.alloc A1.out.size _, D1.out.below (below_alloc _ _) (Nat.le_refl _), BX.new _ _ _⟩
    generalize w1.alloc (.cells #[.int .i64 (m : Int), .slice da ds.length dc] 25) = w2 at *
    generalize w1.heap.size = b4 at *
    obtain ⟨a2, d2, bx2⟩ := W2.out
    have A2 : Hid (Below W0.heap.size W0 w2) := a2
    have D2 : Hid (EdR w2 (.slice da ds.length dc) ds) := d2
    have HS : Hid (∀ V, Below w2.heap.size w2 V → V.cell? ⟨w.heap.size, 0, none⟩ = some (.int .i64 (m : Int)) ∧ V.cell? ⟨w.heap.size, 1, none⟩ = some (.slice a es.length cap) ∧ V.cell? ⟨b4, 0, none⟩ = some (.int .i64 (m : Int)) ∧ V.cell? ⟨b4, 1, none⟩ = some (.slice da ds.length dc)) := fun V hV => by
      obtain ⟨x1, x2, _⟩ := ((HK.out _ a2).1.below hV (by have := a2.size; omega)).all2
      obtain ⟨x3, x4, _⟩ := (bx2.below hV bx2.lt).all2
      exact ⟨x1, x2, x3, x4⟩
    have E2 : Hid (EdR w2 (.slice a es.length cap) es) := (HK.out _ a2).2.2
    have BW2 : Hid (Below w.heap.size w w2) := (HK.out _ a2).2.1
    have hsw := BW2.out.size
    have HH1 : Hid (∀ X, Below w2.heap.size w2 X → Calls Tryz.prog 13 #[.agg #[.int .i64 (m : Int), .slice a es.length cap]] X fun e w' => ∃ v', e = .returned v' ∧ (LsR w' v' (tblF m es) ∧ Below X.heap.size X w')) := fun X hX => (pHopsOf_any _ es m X (E2.out.below hX (Nat.le_refl _)) (by omega) (by omega) (fun e he => ⟨(HG.out e he).1, (HG.out e he).2.1⟩)).mono (by
      rintro e w' ⟨v', he, h1, h2⟩
      exact ⟨v', he, h1.reads, h2⟩)
    have HH2 : Hid (∀ X, Below w2.heap.size w2 X → Calls Tryz.prog 13 #[.agg #[.int .i64 (m : Int), .slice da ds.length dc]] X fun e w' => ∃ v', e = .returned v' ∧ (LsR w' v' (tblF m ds) ∧ Below X.heap.size X w')) := fun X hX => (pHopsOf_any _ ds m X (D2.out.below hX (Nat.le_refl _)) (by omega) (by omega) (fun e he => ⟨(HD.out e he).1, (HD.out e he).2.1⟩)).mono (by
      rintro e w' ⟨v', he, h1, h2⟩
      exact ⟨v', he, h1.reads, h2⟩)
    have HH3 : Hid (∀ vo vi X, LsR X vo (tblF m es) → LsR X vi (tblF m ds) → Calls Tryz.prog 12 #[vo, vi] X (BthP m es X)) := fun vo vi X h1 h2 => bothWays_any vo vi es ds m X h1 h2 HG.out HD.out HT.out (by omega) (by omega) (by omega)
    clear a2 d2 bx2 W2 A1 D1
    go_upto_region 4 with fail
    have eho : ∀ args w, (callFunc 13 args).run Tryz.prog w = .ok (.enter 13 args) w := enters_of Tryz.func13 (by kernel_rfl) rfl
    have ebo : ∀ args w, (callFunc 12 args).run Tryz.prog w = .ok (.enter 12 args) w := enters_of Tryz.func12 (by kernel_rfl) rfl
    have B0' : Hid (Below w2.heap.size w2 w2.drew) := (Below.refl _ _).drew
    refine wp_region_held (S := fun V => V.cell? ⟨w.heap.size, 0, none⟩ = some (.int .i64 (m : Int)) ∧ V.cell? ⟨w.heap.size, 1, none⟩ = some (.slice a es.length cap) ∧ V.cell? ⟨b4, 0, none⟩ = some (.int .i64 (m : Int)) ∧ V.cell? ⟨b4, 1, none⟩ = some (.slice da ds.length dc)) (by kernel_rfl) ?_
    simp only [List.size_toArray, List.length_cons, List.length_nil, Nat.reduceAdd]
    refine takeH (i := 0) (v := .agg #[.int .i64 (m : Int), .slice a es.length cap]) (d := 14) rfl rfl (by kernel_rfl) (by kernel_rfl) (by kernel_rfl) (fun _ _ _ h => h) (by rfl) (fun V hV => by obtain ⟨v1, v2, v3, v4⟩ := hV; go_simp) (HS.out _ B0'.out) ?_
    simp only [Act.put, List.setIfInBounds_toArray, List.set_cons_zero, List.set_cons_succ]
    refine takeH (i := 2) (v := .agg #[.int .i64 (m : Int), .slice da ds.length dc]) (d := 16) rfl rfl (by kernel_rfl) (by kernel_rfl) (by kernel_rfl) (fun _ _ _ h => h) (by rfl) (fun V hV => by obtain ⟨v1, v2, v3, v4⟩ := hV; go_simp) (HS.out _ B0'.out) ?_
    simp only [Act.put, List.setIfInBounds_toArray, List.set_cons_zero, List.set_cons_succ]
    refine oneH (i := 1) rfl (by kernel_rfl) rfl (call_gets (d := 15) (f := 13) (xs := #[.tmp 14]) (ats := #[25]) rfl rfl eho (vs := #[.agg #[.int .i64 (m : Int), .slice a es.length cap]]) (by simp [Act.eval]) (HH1.out _ B0'.out) ?_)
    rintro vo w3 ⟨hl3, hb3⟩
    have B3 : Hid (Below w2.heap.size w2 w3) := below_undrew hb3
    have L3 : Hid (LsR w3 vo (tblF m es)) := hl3
    refine ⟨HS.out _ B3.out, ?_⟩
    clear hl3 hb3
    simp only [Act.put, List.setIfInBounds_toArray, List.set_cons_zero, List.set_cons_succ]
    refine oneH (i := 3) rfl (by kernel_rfl) rfl (call_gets (d := 17) (f := 13) (xs := #[.tmp 16]) (ats := #[25]) rfl rfl eho (vs := #[.agg #[.int .i64 (m : Int), .slice da ds.length dc]]) (by simp [Act.eval]) (HH2.out _ B3.out) ?_)
    rintro vi w4 ⟨hl4, hb4⟩
    have B4 : Hid (Below w2.heap.size w2 w4) := B3.out.trans (hb4.mono B3.out.size)
    have L4 : Hid (LsR w4 vi (tblF m ds)) := hl4
    have L4' : Hid (LsR w4 vo (tblF m es)) := L3.out.below hb4 (Nat.le_refl _)
    refine ⟨HS.out _ B4.out, ?_⟩
    clear hl4 hb4
    simp only [Act.put, List.setIfInBounds_toArray, List.set_cons_zero, List.set_cons_succ]
    refine oneH (i := 4) rfl (by kernel_rfl) rfl (call_gets (d := 18) (f := 12) (xs := #[.tmp 15, .tmp 17]) (ats := #[51, 51]) rfl rfl ebo (vs := #[vo, vi]) (by simp [Act.eval]) (HH3.out _ _ _ L4'.out L4.out) ?_)
    rintro vr w5 ⟨ho5, hb5⟩
    have B5 : Hid (Below w2.heap.size w2 w5) := B4.out.trans (hb5.mono B4.out.size)
    have O5 : Hid (w5.ownsRow w.heap.size 3 1 vr m ((strongF m es).flatMap encI)) := own_lower ho5 (by have := B4.out.size; omega)
    have BE : Hid (Below w.heap.size w w5) := BW2.out.trans (B5.out.mono hsw)
    refine ⟨HS.out _ B5.out, ?_⟩
    obtain ⟨va, vn, vc, rfl⟩ : ∃ a n c, vr = .slice a n c := by
      rcases own_shapeK ho5 with ⟨e, _⟩ | ⟨g', c', e, _⟩
      · exact ⟨_, _, _, e⟩
      · exact ⟨_, _, _, e⟩
    clear ho5 hb5
    simp only [Act.put, List.setIfInBounds_toArray, List.set_cons_zero, List.set_cons_succ]
    refine takeH (i := 5) (v := .slice va vn vc) (d := 2) rfl rfl (by kernel_rfl) (by kernel_rfl) (by kernel_rfl) (fun _ _ _ h => h) (by rfl) (fun V hV => by obtain ⟨v1, v2, v3, v4⟩ := hV; go_simp) (HS.out _ B5.out) ?_
    simp only [Act.put, List.setIfInBounds_toArray, List.set_cons_zero, List.set_cons_succ]
    refine takeH (i := 6) (v := .int .i64 0) (d := 3) rfl rfl (by kernel_rfl) (by kernel_rfl) (by kernel_rfl) (fun _ _ _ h => h) (by rfl) (fun V hV => by obtain ⟨v1, v2, v3, v4⟩ := hV; go_simp) (HS.out _ B5.out) ?_
    simp only [Act.put, List.setIfInBounds_toArray, List.set_cons_zero, List.set_cons_succ]
    refine wpAnyH_done (by kernel_rfl) ?_ _
    go_wp2_with fail
    exact HP.out _ _ O5.out BE.out
  · have HP : Hid (∀ (w' : World), Below w.heap.size w w' → NmsP w (faultE n es) (strongF n.toNat es) (.returned (.tuple #[.slice none 0 0, .int .i64 (faultE n es)])) w') := fun w' h => NmsP.no hf h
    generalize NmsP w (faultE n es) (strongF n.toNat es) = P at *
    generalize okL (faultE n es) (sortE (es.map turnE)) = ds at *
    generalize okN (faultE n es) n = n2 at *
    generalize faultE n es = fe at *
    have t0 : (fe != 0) = true := by simpa using hf
    clear hf
    go_enter Tryz.func6, Tryz.ntmps6
    go_upto_region 1 with fail
    rw [← hW0]
    clear hW0
    go_wp2_with fail
    refine (HCK.out _ R0.out).mono ?_
    rintro e w1 ⟨v', rfl, ho1, hb1⟩
    have A1 : Hid (Below W0.heap.size W0 w1) := hb1
    obtain ⟨da, dc, rfl⟩ := (RowK.own encE_len ho1).shape
    clear ho1 hb1 q0 q1 HCK
    go_upto_region 2 with fail
    have W2 : Hid (Below w.heap.size w (w1.alloc (.cells #[.int .i64 n2, .slice da ds.length dc] 25))) := (HK.out _ (A1.out.alloc A1.out.size _)).2.1
    generalize w1.alloc (.cells #[.int .i64 n2, .slice da ds.length dc] 25) = w2 at *
    go_wp2_with fail
    exact HP.out _ W2.out
end Go.Proofs.YtbmkgnlfccigpaaGreat

namespace Go.Proofs.YtbmkgnlfccigpaaGreat
set_option maxRecDepth 100000
open Go.ChangeShapes Go.WideShapes Go.ChangeAt Go.RowKit

set_option maxHeartbeats 1000000 in
set_option maxRecDepth 100000 in
theorem sameIntsK_yes (va vb : Value) (es : List Int) (w : World) (ha : InR w va es) (hb : InR w vb es) :
    Calls Tryz.prog 7 #[va, vb] w fun e w' => e = .returned (.bool true) ∧ Below w.heap.size w w' := by
  have HA : Hid (InR w va es) := ha
  have HB : Hid (InR w vb es) := hb
  obtain ⟨a, ca, rfl, hca, hma, _, _⟩ := ha
  obtain ⟨b, cb, rfl, hcb, hmb, _, _⟩ := hb
  unfold maxLen at hma hmb
  have hll : ((es.length : Int) != (es.length : Int)) = false := by simp
  go_enter Tryz.func7, Tryz.ntmps7
  go_wp2_with fail
  go_loopw [5] (fun i wr => ∃ k : Nat, k ≤ es.length ∧ i = .int .i64 k ∧ Below w.heap.size w wr) (fun i _ => es.length - (intOf i).toNat)
  case atStart => exact ⟨0, by omega, rfl, Below.refl _ _⟩
  case round =>
    obtain ⟨k, hk, rfl, hbel⟩ := hrel
    have HBL : Hid (Below w.heap.size w wr) := hbel
    clear hbel
    by_cases hlt : k < es.length
    · obtain ⟨xa, oa, cap', e1, _, _, la, hva⟩ := InR.at (HA.out.below HBL.out (Nat.le_refl _)) (by omega)
      injection e1 with e1 _ e3
      subst e1 e3
      obtain ⟨xb, ob, cap', e1, _, _, lb, hvb⟩ := InR.at (HB.out.below HBL.out (Nat.le_refl _)) (by omega)
      injection e1 with e1 _ e3
      subst e1 e3
      obtain ⟨x, hx⟩ := getX hlt
      have p0 : (0 : Int) ≤ (k : Int) := by omega
      have p1 : (k : Int) < (es.length : Int) := by omega
      have c1 := hva k x hx
      have d1 := hvb k x hx
      have hxx : (x != x) = false := by simp
      clear hva hvb hx
      go_wp2_with fail
      go_quiet (fail)
      go_wp2_with fail
      go_roundw
      case rel => exact ⟨k + 1, by omega, by go_num, below_drewN HBL.out _⟩
      case measure => simp [intOf]; omega
    · go_wp2_with fail
      go_ret
      exact ⟨rfl, HBL.out⟩
end Go.Proofs.YtbmkgnlfccigpaaGreat

namespace Go.Proofs.YtbmkgnlfccigpaaGreat
set_option maxRecDepth 100000

/-- x is the weight of a walk to v from a vertex that begins, its first number counted. -/
def Wkk (n : Nat) (ds : List Ed) (ini : Int → Int) (v x : Int) : Prop := ∃ u p, (0 ≤ u ∧ u < (n : Int)) ∧ 0 ≤ ini u ∧ (∀ e ∈ p, e ∈ ds) ∧ Chn u p v ∧ ini u + sumW p = x
/-- Behind t rounds: numbers a, mail m. Vertices that take no part (not act) are not spoken of. -/
structure MnI (n t : Nat) (ds : List Ed) (ini : Int → Int) (act : Int → Bool) (a : Int → Int) (m : Int → List Int) : Prop where
  val : ∀ v : Int, 0 ≤ v ∧ v < (n : Int) → act v = true → a v = -1 ∨ (0 ≤ a v ∧ Wkk n ds ini v (a v))
  mls : ∀ v : Int, 0 ≤ v ∧ v < (n : Int) → act v = true → ∀ x ∈ m v, Wkk n ds ini v x
  tel : ∀ e ∈ ds, 0 ≤ a e.1 → (0 ≤ a e.2.1 ∧ a e.2.1 ≤ a e.1 + e.2.2) ∨ a e.1 + e.2.2 ∈ m e.2.1
  low : ∀ (u : Int) (p : List Ed) (v : Int), 0 ≤ u ∧ u < (n : Int) → 0 ≤ ini u → (∀ e ∈ p, e ∈ ds) → Chn u p v → p.length < t → 0 ≤ a v ∧ a v ≤ ini u + sumW p
/-- Edges lie between vertices that take part; who begins takes part. -/
structure MnG (n : Nat) (ds : List Ed) (ini : Int → Int) (act : Int → Bool) : Prop where
  inn : InG n ds
  ends : ∀ e ∈ ds, act e.1 = true ∧ act e.2.1 = true
  begs : ∀ v, 0 ≤ ini v → act v = true
section
variable {n t : Nat} {ds : List Ed} {ini : Int → Int} {act sd : Int → Bool} {a a' : Int → Int} {m m' : Int → List Int}
theorem MnG.end (h : MnG n ds ini act) {u v : Int} {p : List Ed} (hu : 0 ≤ ini u) (hp : ∀ e ∈ p, e ∈ ds) (hc : Chn u p v) : act v = true := by
  rcases List.eq_nil_or_concat p with rfl | ⟨q, e, rfl⟩
  · have : u = v := hc
    rw [← this]; exact h.begs u hu
  · rw [List.concat_eq_append] at hc hp
    obtain ⟨_, h2⟩ := chn_snoc hc
    rw [← h2]
    exact (h.ends e (hp e (by simp))).2
theorem Wkk.nn (hg : MnG n ds ini act) {v x : Int} (h : Wkk n ds ini v x) : 0 ≤ x := by
  obtain ⟨u, p, _, h0, hp, _, rfl⟩ := h
  have := sumW_nn hg.inn hp
  omega
theorem Wkk.next {e : Ed} (h : Wkk n ds ini e.1 (a e.1)) (he : e ∈ ds) : Wkk n ds ini e.2.1 (a e.1 + e.2.2) := by
  obtain ⟨u, p, hu, h0, hp, hc, hx⟩ := h
  refine ⟨u, p ++ [e], hu, h0, fun d hd => ?_, chn_app hc ⟨rfl, rfl⟩, ?_⟩
  · rcases List.mem_append.1 hd with hd | hd
    · exact hp d hd
    · simp at hd; rw [hd]; exact he
  · rw [sumW_app, sumW_cons, sumW_nil]; omega
/-- The round in which all begin. -/
theorem MnI.start (hg : MnG n ds ini act) (ha : ∀ v : Int, 0 ≤ v ∧ v < (n : Int) → act v = true → a v = ini v) (hn : ∀ v, -1 ≤ ini v)
    (hm : ∀ u : Int, 0 ≤ u ∧ u < (n : Int) → act u = true → ∀ x, x ∈ m u ↔ ∃ e ∈ ds, e.2.1 = u ∧ 0 ≤ ini e.1 ∧ x = a e.1 + e.2.2) : MnI n 1 ds ini act a m := by
  refine ⟨fun v hv hA => ?_, fun v hv hA x hx => ?_, fun e he h0 => .inr ?_, fun u p v hu h0 hp hc hl => ?_⟩
  · rw [ha v hv hA]
    by_cases e : 0 ≤ ini v
    · exact .inr ⟨e, v, [], hv, e, by simp, rfl, by simp [sumW]⟩
    · have := hn v
      exact .inl (by omega)
  · obtain ⟨e, he, rfl, h0, rfl⟩ := (hm v hv hA x).1 hx
    obtain ⟨f0, f1, _⟩ := hg.inn e he
    have : a e.1 = ini e.1 := ha _ ⟨f0, f1⟩ (hg.ends e he).1
    refine Wkk.next ?_ he
    rw [this]
    exact ⟨e.1, [], ⟨f0, f1⟩, h0, by simp, rfl, by simp [sumW]⟩
  · obtain ⟨f0, f1, t0, t1, _⟩ := hg.inn e he
    refine (hm _ ⟨t0, t1⟩ (hg.ends e he).2 _).2 ⟨e, he, rfl, ?_, rfl⟩
    rw [← ha _ ⟨f0, f1⟩ (hg.ends e he).1]; exact h0
  · have : p = [] := List.eq_nil_of_length_eq_zero (by omega)
    subst this
    have e : u = v := hc
    subst e
    rw [ha u hu (hg.begs u h0)]
    simp [sumW, h0]
theorem MnI.vnn (h : MnI n t ds ini act a m) {v : Int} (hv : 0 ≤ v ∧ v < (n : Int)) (hA : act v = true) : -1 ≤ a v := by rcases h.val v hv hA with g | g <;> omega
theorem MnI.mnn (h : MnI n t ds ini act a m) (hg : MnG n ds ini act) {v : Int} (hv : 0 ≤ v ∧ v < (n : Int)) (hA : act v = true) : ∀ y ∈ m v, 0 ≤ y := fun y hy => (h.mls v hv hA y hy).nn hg
/-- One more round. -/
theorem MnI.next (h : MnI n t ds ini act a m) (ht : 0 < t) (hg : MnG n ds ini act) (ha : ∀ v : Int, 0 ≤ v ∧ v < (n : Int) → act v = true → lowF (a v) (m v) = (a' v, sd v))
    (hm : ∀ u : Int, 0 ≤ u ∧ u < (n : Int) → act u = true → ∀ x, x ∈ m' u ↔ ∃ e ∈ ds, e.2.1 = u ∧ sd e.1 = true ∧ x = a' e.1 + e.2.2) : MnI n (t + 1) ds ini act a' m' := by
  have hval : ∀ v : Int, 0 ≤ v ∧ v < (n : Int) → act v = true → a' v = -1 ∨ (0 ≤ a' v ∧ Wkk n ds ini v (a' v)) := fun v hv hA => by
    obtain ⟨h1, _, _⟩ := lowF_spec (a := a v) (h.vnn hv hA) (h.mnn hg hv hA)
    rw [ha v hv hA] at h1
    rcases h1 with h1 | ⟨_, h1, _⟩
    · injection h1 with h1 _
      rw [h1]; exact h.val v hv hA
    · have := h.mls v hv hA _ h1
      exact .inr ⟨this.nn hg, this⟩
  have hto : ∀ e ∈ ds, (0 ≤ e.1 ∧ e.1 < (n : Int)) ∧ (0 ≤ e.2.1 ∧ e.2.1 < (n : Int)) := fun e he => by
    obtain ⟨f0, f1, t0, t1, _⟩ := hg.inn e he
    exact ⟨⟨f0, f1⟩, ⟨t0, t1⟩⟩
  /- what is there already, or comes, is heard -/
  have hear : ∀ e ∈ ds, 0 ≤ a e.1 → 0 ≤ a' e.2.1 ∧ a' e.2.1 ≤ a e.1 + e.2.2 := fun e he h0 => by
    obtain ⟨_, h2, h3⟩ := lowF_spec (a := a e.2.1) (h.vnn (hto e he).2 (hg.ends e he).2) (h.mnn hg (hto e he).2 (hg.ends e he).2)
    rw [ha _ (hto e he).2 (hg.ends e he).2] at h2 h3
    rcases h.tel e he h0 with ⟨g1, g2⟩ | g
    · have := h3 g1
      simp only at this
      omega
    · exact h2 _ g
  refine ⟨hval, fun v hv hA x hx => ?_, fun e he h0 => ?_, fun u p v hu h0 hp hc hl => ?_⟩
  · obtain ⟨e, he, rfl, hs, rfl⟩ := (hm v hv hA x).1 hx
    refine Wkk.next ?_ he
    obtain ⟨h1, _, _⟩ := lowF_spec (a := a e.1) (h.vnn (hto e he).1 (hg.ends e he).1) (h.mnn hg (hto e he).1 (hg.ends e he).1)
    rw [ha _ (hto e he).1 (hg.ends e he).1] at h1
    rcases h1 with h1 | ⟨_, h1, _⟩
    · injection h1 with _ h1
      rw [h1] at hs; cases hs
    · exact h.mls _ (hto e he).1 (hg.ends e he).1 _ h1
  · obtain ⟨h1, _, _⟩ := lowF_spec (a := a e.1) (h.vnn (hto e he).1 (hg.ends e he).1) (h.mnn hg (hto e he).1 (hg.ends e he).1)
    rw [ha _ (hto e he).1 (hg.ends e he).1] at h1
    rcases h1 with h1 | ⟨h1, _, _⟩
    · injection h1 with h1 _
      rw [h1] at h0 ⊢
      exact .inl (hear e he h0)
    · exact .inr ((hm _ (hto e he).2 (hg.ends e he).2 _).2 ⟨e, he, rfl, h1, rfl⟩)
  · rcases List.eq_nil_or_concat p with rfl | ⟨q, e, rfl⟩
    · have ev : u = v := hc
      subst ev
      obtain ⟨_, _, h3⟩ := lowF_spec (a := a u) (h.vnn hu (hg.begs u h0)) (h.mnn hg hu (hg.begs u h0))
      rw [ha u hu (hg.begs u h0)] at h3
      have := h.low u [] u hu h0 (by simp) rfl (by simpa using ht)
      have h4 := h3 this.1
      simp only at h4
      omega
    · rw [List.concat_eq_append] at hc hp hl ⊢
      obtain ⟨c1, c2⟩ := chn_snoc hc
      simp at hl
      have he := hp e (by simp)
      have := h.low u q e.1 hu h0 (fun d hd => hp d (by simp [hd])) c1 (by omega)
      have h2 := hear e he this.1
      rw [c2] at h2
      rw [sumW_app, sumW_cons, sumW_nil]
      omega
/-- Behind as many rounds as there are vertices nothing is heard any more. -/
theorem MnI.still (h : MnI n t ds ini act a m) (hg : MnG n ds ini act) (hn : n ≤ t) {v : Int} (hv : 0 ≤ v ∧ v < (n : Int)) (hA : act v = true) : lowF (a v) (m v) = (a v, false) := by
  obtain ⟨h1, _, _⟩ := lowF_spec (a := a v) (h.vnn hv hA) (h.mnn hg hv hA)
  rcases h1 with h1 | ⟨_, h1, h2⟩
  · exact h1
  · exfalso
    obtain ⟨u, p, hu, h0, hp, hc, hx⟩ := h.mls v hv hA _ h1
    obtain ⟨q, hq, hd, hl, hw⟩ := chn_short hg.inn p.length (Nat.le_refl _) hp hu hc
    have := h.low u q v hu h0 hq hd (by omega)
    omega
/-- Once there is no mail each number is the least. -/
theorem MnI.done (h : MnI n t ds ini act a m) (ht : 0 < t) (hg : MnG n ds ini act) (hm : ∀ v : Int, 0 ≤ v ∧ v < (n : Int) → act v = true → m v = []) {v : Int} (hv : 0 ≤ v ∧ v < (n : Int)) (hA : act v = true) :
    (a v = -1 ∧ ∀ x, ¬ Wkk n ds ini v x) ∨ (0 ≤ a v ∧ Wkk n ds ini v (a v) ∧ ∀ x, Wkk n ds ini v x → a v ≤ x) := by
  have key : ∀ x, Wkk n ds ini v x → 0 ≤ a v ∧ a v ≤ x := fun x ⟨u, p, hu, h0, hp, hc, hx⟩ => by
    have := walk_ind (es := ds) (s := u) (P := fun p v => 0 ≤ a v ∧ a v ≤ ini u + sumW p) (h.low u [] u hu h0 (by simp) rfl (by simpa using ht)) (fun q e _ he _ ih => by
      obtain ⟨f0, f1, t0, t1, _⟩ := hg.inn e he
      rw [sumW_app, sumW_cons, sumW_nil]
      rcases h.tel e he ih.1 with g | g
      · omega
      · rw [hm _ ⟨t0, t1⟩ (hg.ends e he).2] at g
        simp at g) p.length p v rfl hp hc
    omega
  rcases h.val v hv hA with g | ⟨g1, g2⟩
  · exact .inl ⟨g, fun x hx => by have := key x hx; omega⟩
  · exact .inr ⟨g1, g2, fun x hx => (key x hx).2⟩
end
end Go.Proofs.YtbmkgnlfccigpaaGreat

namespace Go.Proofs.YtbmkgnlfccigpaaGreat
set_option maxRecDepth 100000

/-- A vertex without a label takes part. -/
def actL (lab : Int → Int) (v : Int) : Bool := decide (lab v = -1)
/-- What is wanted of a job in such a phase: labels lab, edges ds with what they add, first numbers ini, at most C, and at most M more an edge. -/
structure FwG (n : Nat) (es : List Ed) (j : Jb) (s : Int) (lab : Int → Int) (ds : List Ed) (ini : Int → Int) (C M : Int) : Prop where
  gr : MnG n ds ini (actL lab)
  ing : InG n es
  inn : ∀ v, -1 ≤ ini v ∧ ini v ≤ C
  wgt : ∀ e ∈ ds, e.2.2 ≤ M
  cps : 0 ≤ C ∧ 0 ≤ M
  fr : ∀ v : Int, 0 ≤ v ∧ v < (n : Int) → ∀ x : Ml, x.2 = lab v → lab v = -1 → beginF j v s x = ((ini v, -1), decide (0 ≤ ini v))
  he : ∀ (x : Ml) m, x.2 = -1 → hearF j x m = lowV x m
  st : ∀ v : Int, 0 ≤ v ∧ v < (n : Int) → lab v ≠ -1 → ∀ (x : Ml) b m, x.2 = lab v → wakeV j v s x b m = (x, false)
  way : ∀ (r : Int → Ml × Bool), (∀ v : Int, 0 ≤ v ∧ v < (n : Int) → lab v ≠ -1 → (r v).2 = false) → ∀ u : Int, 0 ≤ u ∧ u < (n : Int) → lab u = -1 → ∀ x, x ∈ msgs j r es u ↔ ∃ e ∈ ds, e.2.1 = u ∧ (r e.1).2 = true ∧ x = (r e.1).1.1 + e.2.2
  ov : ∀ e ∈ es, ∀ a, sayJ j a e.2.2 ≤ a + M
  top : C + ((n : Int) + 1) * M ≤ Jb.top j
/-- Numbers stay small. -/
structure MnB (n t : Nat) (lab : Int → Int) (C M : Int) (a : Int → Int) (m : Int → List Int) : Prop where
  val : ∀ v : Int, 0 ≤ v ∧ v < (n : Int) → lab v = -1 → a v ≤ C + ((t : Int) - 1) * M
  mls : ∀ v : Int, 0 ≤ v ∧ v < (n : Int) → lab v = -1 → ∀ x ∈ m v, x ≤ C + (t : Int) * M
/-- Behind t rounds of the phase. old: the values with which it began. -/
structure PhI (n t : Nat) (lab : Int → Int) (ds : List Ed) (ini : Int → Int) (C M : Int) (old : Int → Ml) (vs : List Ml) (ms : List (List Int)) : Prop where
  lv : vs.length = n
  lm : ms.length = n
  lb : ∀ v : Int, 0 ≤ v ∧ v < (n : Int) → (vlA vs v).2 = lab v
  od : ∀ v : Int, 0 ≤ v ∧ v < (n : Int) → lab v ≠ -1 → vlA vs v = old v
  mn : MnI n t ds ini (actL lab) (fun v => (vlA vs v).1) (mlA ms)
  bd : MnB n t lab C M (fun v => (vlA vs v).1) (mlA ms)
section
variable {n t : Nat} {es ds : List Ed} {j : Jb} {k s : Int} {lab ini : Int → Int} {C M : Int} {old : Int → Ml}
theorem actL_iff {v : Int} : actL lab v = true ↔ lab v = -1 := by simp [actL]
theorem FwG.rnd_off (h : FwG n es j s lab ds ini C M) {T : StS} (hl : ∀ v : Int, 0 ≤ v ∧ v < (n : Int) → (vlA T.vals v).2 = lab v) {v : Int} (hv : 0 ≤ v ∧ v < (n : Int)) (ha : lab v ≠ -1) : rndV j s T v = (vlA T.vals v, false) := by
  unfold rndV
  split
  · exact h.st v hv ha _ _ _ (hl v hv)
  · rfl
theorem FwG.rnd_new (h : FwG n es j s lab ds ini C M) {T : StS} (hf : T.fresh = true) (hl : ∀ v : Int, 0 ≤ v ∧ v < (n : Int) → (vlA T.vals v).2 = lab v) {v : Int} (hv : 0 ≤ v ∧ v < (n : Int)) (ha : lab v = -1) : rndV j s T v = ((ini v, -1), decide (0 ≤ ini v)) := by
  unfold rndV
  rw [hf]
  simp only [Bool.true_or, if_true]
  show wakeV j v s _ true _ = _
  unfold wakeV
  rw [if_pos rfl]
  exact h.fr v hv _ (hl v hv) ha
theorem FwG.rnd_low (h : FwG n es j s lab ds ini C M) {T : StS} (hf : T.fresh = false) (hl : ∀ v : Int, 0 ≤ v ∧ v < (n : Int) → (vlA T.vals v).2 = lab v) {v : Int} (hv : 0 ≤ v ∧ v < (n : Int)) (ha : lab v = -1) :
    rndV j s T v = (((lowF (vlA T.vals v).1 (mlA T.mail v)).1, -1), (lowF (vlA T.vals v).1 (mlA T.mail v)).2) := by
  have h2 : (vlA T.vals v).2 = -1 := by rw [hl v hv, ha]
  unfold rndV
  rw [hf]
  simp only [Bool.false_or]
  split
  · show wakeV j v s _ false _ = _
    unfold wakeV
    rw [if_neg (by simp), h.he _ _ h2]
    unfold lowV
    rw [h2]
  · next hc =>
    have : mlA T.mail v = [] := by simpa using hc
    rw [this]
    show _ = (((vlA T.vals v).1, -1), false)
    rw [← h2]
/-- A round's outcome, as a round of the least. -/
theorem FwG.msgs_in (h : FwG n es j s lab ds ini C M) {r : Int → Ml × Bool} (hr : ∀ v : Int, 0 ≤ v ∧ v < (n : Int) → lab v ≠ -1 → (r v).2 = false) {u : Int} (hu : 0 ≤ u ∧ u < (n : Int)) (ha : actL lab u = true) (x : Int) :
    x ∈ mlA (mailR n j r es) u ↔ ∃ e ∈ ds, e.2.1 = u ∧ (r e.1).2 = true ∧ x = (r e.1).1.1 + e.2.2 := by
  rw [mlA_mail hu, sortN_mem]
  exact h.way r hr u hu (actL_iff.1 ha) x
theorem FwG.first (h : FwG n es j s lab ds ini C M) {T : StS} (hf : T.fresh = true) (hl : ∀ v : Int, 0 ≤ v ∧ v < (n : Int) → (vlA T.vals v).2 = lab v) : PhI n 1 lab ds ini C M (vlA T.vals) (valsR n (rndV j s T)) (mailR n j (rndV j s T) es) := by
  have hoff : ∀ v : Int, 0 ≤ v ∧ v < (n : Int) → lab v ≠ -1 → (rndV j s T v).2 = false := fun v hv ha => by rw [h.rnd_off hl hv ha]
  have hv1 : ∀ v : Int, 0 ≤ v ∧ v < (n : Int) → lab v = -1 → (vlA (valsR n (rndV j s T)) v).1 = ini v := fun v hv ha => by rw [vlA_vals hv, h.rnd_new hf hl hv ha]
  refine ⟨valsR_len _ _, mailR_len _ _ _ _, fun v hv => ?_, fun v hv ha => ?_, ?_, ?_⟩
  · rw [vlA_vals hv]
    by_cases e : lab v = -1
    · rw [h.rnd_new hf hl hv e, e]
    · rw [h.rnd_off hl hv e]; exact hl v hv
  · rw [vlA_vals hv, h.rnd_off hl hv ha]
  · refine MnI.start h.gr (fun v hv ha => hv1 v hv (actL_iff.1 ha)) (fun v => (h.inn v).1) fun u hu ha x => ?_
    rw [h.msgs_in hoff hu ha]
    constructor
    · rintro ⟨e, he, h1, h2, h3⟩
      obtain ⟨f0, f1, _⟩ := h.gr.inn e he
      have hA := actL_iff.1 (h.gr.ends e he).1
      rw [h.rnd_new hf hl ⟨f0, f1⟩ hA] at h2 h3
      refine ⟨e, he, h1, by simpa using h2, ?_⟩
      rw [hv1 _ ⟨f0, f1⟩ hA]; exact h3
    · rintro ⟨e, he, h1, h2, h3⟩
      obtain ⟨f0, f1, _⟩ := h.gr.inn e he
      have hA := actL_iff.1 (h.gr.ends e he).1
      rw [hv1 _ ⟨f0, f1⟩ hA] at h3
      refine ⟨e, he, h1, ?_, ?_⟩
      · rw [h.rnd_new hf hl ⟨f0, f1⟩ hA]; simpa using h2
      · rw [h.rnd_new hf hl ⟨f0, f1⟩ hA]; exact h3
  · refine ⟨fun v hv ha => ?_, fun v hv ha x hx => ?_⟩
    · rw [hv1 v hv ha]
      have := (h.inn v).2
      simp
      exact this
    · obtain ⟨e, he, h1, h2, h3⟩ := (h.msgs_in hoff hv (actL_iff.2 ha) x).1 hx
      obtain ⟨f0, f1, _⟩ := h.gr.inn e he
      rw [h.rnd_new hf hl ⟨f0, f1⟩ (actL_iff.1 (h.gr.ends e he).1)] at h3
      have g1 := (h.inn e.1).2
      have g2 := h.wgt e he
      simp only at h3
      simp
      omega
theorem FwG.more (h : FwG n es j s lab ds ini C M) (ht : 0 < t) {T : StS} (hf : T.fresh = false) (hI : PhI n t lab ds ini C M old T.vals T.mail) : PhI n (t + 1) lab ds ini C M old (valsR n (rndV j s T)) (mailR n j (rndV j s T) es) := by
  have hl := hI.lb
  have hoff : ∀ v : Int, 0 ≤ v ∧ v < (n : Int) → lab v ≠ -1 → (rndV j s T v).2 = false := fun v hv ha => by rw [h.rnd_off hl hv ha]
  have hv1 : ∀ v : Int, 0 ≤ v ∧ v < (n : Int) → lab v = -1 → (vlA (valsR n (rndV j s T)) v).1 = (lowF (vlA T.vals v).1 (mlA T.mail v)).1 := fun v hv ha => by rw [vlA_vals hv, h.rnd_low hf hl hv ha]
  have hmul : ((t + 1 : Nat) : Int) * M = (t : Int) * M + M := by rw [Int.natCast_add, Int.add_mul]; simp
  have hmu2 : (((t + 1 : Nat) : Int) - 1) * M = (t : Int) * M := by simp
  have hmu3 : ((t : Int) - 1) * M = (t : Int) * M - M := by rw [Int.sub_mul]; simp
  have hbv : ∀ v : Int, 0 ≤ v ∧ v < (n : Int) → lab v = -1 → (lowF (vlA T.vals v).1 (mlA T.mail v)).1 ≤ C + (t : Int) * M := fun v hv ha => by
    have hA := actL_iff.2 ha
    obtain ⟨h1, _, _⟩ := lowF_spec (hI.mn.vnn hv hA) (hI.mn.mnn h.gr hv hA)
    rcases h1 with h1 | ⟨_, h1, _⟩
    · rw [h1]
      have g1 := hI.bd.val v hv ha
      have g2 := h.cps.2
      simp only at g1 ⊢
      omega
    · exact hI.bd.mls v hv ha _ h1
  refine ⟨valsR_len _ _, mailR_len _ _ _ _, fun v hv => ?_, fun v hv ha => ?_, ?_, ?_⟩
  · rw [vlA_vals hv]
    by_cases e : lab v = -1
    · rw [h.rnd_low hf hl hv e, e]
    · rw [h.rnd_off hl hv e]; exact hl v hv
  · rw [vlA_vals hv, h.rnd_off hl hv ha]; exact hI.od v hv ha
  · refine hI.mn.next ht h.gr (sd := fun v => (rndV j s T v).2) (fun v hv ha => ?_) fun u hu ha x => ?_
    · have hA := actL_iff.1 ha
      rw [hv1 v hv hA, h.rnd_low hf hl hv hA]
    · rw [h.msgs_in hoff hu ha]
      constructor
      · rintro ⟨e, he, h1, h2, h3⟩
        obtain ⟨f0, f1, _⟩ := h.gr.inn e he
        refine ⟨e, he, h1, h2, ?_⟩
        rw [vlA_vals ⟨f0, f1⟩]; exact h3
      · rintro ⟨e, he, h1, h2, h3⟩
        obtain ⟨f0, f1, _⟩ := h.gr.inn e he
        rw [vlA_vals ⟨f0, f1⟩] at h3
        exact ⟨e, he, h1, h2, h3⟩
  · refine ⟨fun v hv ha => ?_, fun v hv ha x hx => ?_⟩
    · rw [hv1 v hv ha, hmu2]
      exact hbv v hv ha
    · obtain ⟨e, he, h1, h2, h3⟩ := (h.msgs_in hoff hv (actL_iff.2 ha) x).1 hx
      obtain ⟨f0, f1, _⟩ := h.gr.inn e he
      have hA := actL_iff.1 (h.gr.ends e he).1
      rw [h.rnd_low hf hl ⟨f0, f1⟩ hA] at h3
      have g1 := hbv e.1 ⟨f0, f1⟩ hA
      have g2 := h.wgt e he
      simp only at h3
      rw [hmul]
      omega
/-- Nothing that is said is too great. -/
theorem FwG.small (h : FwG n es j s lab ds ini C M) {r : Int → Ml × Bool} (hr : ∀ v : Int, 0 ≤ v ∧ v < (n : Int) → (r v).2 = true → (r v).1.1 ≤ C + (n : Int) * M) : overR j r es = false := by
  unfold overR
  rw [List.any_eq_false]
  intro e he
  obtain ⟨f0, f1, _⟩ := h.ing e he
  simp only [Bool.and_eq_true, decide_eq_true_eq, not_and, Int.not_lt]
  rintro ⟨_, h2⟩
  have h3 := hr e.1 ⟨f0, f1⟩ h2
  have h4 := h.ov e he (r e.1).1.1
  have h5 := h.top
  have : ((n : Int) + 1) * M = (n : Int) * M + M := by rw [Int.add_mul]; simp
  omega
theorem FwG.small_first (h : FwG n es j s lab ds ini C M) {T : StS} (hf : T.fresh = true) (hl : ∀ v : Int, 0 ≤ v ∧ v < (n : Int) → (vlA T.vals v).2 = lab v) : overR j (rndV j s T) es = false := h.small fun v hv hs => by
  by_cases e : lab v = -1
  · rw [h.rnd_new hf hl hv e]
    have h1 := (h.inn v).2
    have h2 := Int.mul_nonneg (a := (n : Int)) (b := M) (by omega) h.cps.2
    simp only
    omega
  · rw [h.rnd_off hl hv e] at hs; cases hs
theorem FwG.small_more (h : FwG n es j s lab ds ini C M) (htn : t ≤ n) {T : StS} (hf : T.fresh = false) (hI : PhI n t lab ds ini C M old T.vals T.mail) : overR j (rndV j s T) es = false := h.small fun v hv hs => by
  by_cases e : lab v = -1
  · have hA := actL_iff.2 e
    rw [h.rnd_low hf hI.lb hv e] at hs ⊢
    obtain ⟨h1, _, _⟩ := lowF_spec (hI.mn.vnn hv hA) (hI.mn.mnn h.gr hv hA)
    rcases h1 with h1 | ⟨_, h1, _⟩
    · simp only at h1 hs
      rw [h1] at hs; cases hs
    · have h2 := hI.bd.mls v hv e _ h1
      have h3 : (t : Int) * M ≤ (n : Int) * M := Int.mul_le_mul_of_nonneg_right (by omega) h.cps.2
      simp only at h2 ⊢
      omega
  · rw [h.rnd_off hI.lb hv e] at hs; cases hs
/-- What stands behind the phase: there is no mail, and each number is the least of all walks. -/
structure FwE (n : Nat) (lab : Int → Int) (ds : List Ed) (ini : Int → Int) (old : Int → Ml) (vs : List Ml) (ms : List (List Int)) : Prop where
  lv : vs.length = n
  lm : ms.length = n
  no : manyL ms = 0
  off : ∀ v : Int, 0 ≤ v ∧ v < (n : Int) → lab v ≠ -1 → vlA vs v = old v
  on : ∀ v : Int, 0 ≤ v ∧ v < (n : Int) → lab v = -1 → (vlA vs v).2 = -1 ∧ (((vlA vs v).1 = -1 ∧ ∀ x, ¬ Wkk n ds ini v x) ∨ (0 ≤ (vlA vs v).1 ∧ Wkk n ds ini v (vlA vs v).1 ∧ ∀ x, Wkk n ds ini v x → (vlA vs v).1 ≤ x))
theorem PhI.ended (h : FwG n es j s lab ds ini C M) (ht : 0 < t) {vs : List Ml} {ms : List (List Int)} (hI : PhI n t lab ds ini C M old vs ms) (hm : manyL ms = 0) : FwE n lab ds ini old vs ms := by
  have hmt : ∀ v : Int, mlA ms v = [] := fun v => by
    unfold mlA
    rw [List.getD_eq_getElem?_getD]
    cases he : ms[v.toNat]? with
    | none => rfl
    | some l => exact manyL_zero.1 hm l (List.mem_of_getElem? he)
  refine ⟨hI.lv, hI.lm, hm, hI.od, fun v hv ha => ⟨by rw [hI.lb v hv, ha], ?_⟩⟩
  exact hI.mn.done ht h.gr (fun u _ _ => hmt u) hv (actL_iff.2 ha)
/-- From round t on, up to the end. -/
theorem FwG.rest (h : FwG n es j s lab ds ini C M) {phase : Int} (hj : jobF k phase = some j) : ∀ (d t : Nat) (step : Int) (vs : List Ml) (ms : List (List Int)), 0 < t → t + d = n → PhI n t lab ds ini C M old vs ms → 0 < manyL ms →
    ∃ (i : Nat) (vs' : List Ml) (ms' : List (List Int)), 1 ≤ i ∧ i ≤ d + 1 ∧ FwE n lab ds ini old vs' ms' ∧ GoesR n es k s i ⟨step, phase, false, false, vs, ms⟩ (behR j (step + i - 1) phase vs' ms')
  | d, t, step, vs, ms, ht, hd, hI, hm => by
    have hov := h.small_more (T := ⟨step, phase, false, false, vs, ms⟩) (by omega) rfl hI
    have hg := GoesR.one (n := n) (es := es) (k := k) (s := s) (t := ⟨step, phase, false, false, vs, ms⟩) rfl hj hov
    have hN := h.more ht (T := ⟨step, phase, false, false, vs, ms⟩) rfl hI
    by_cases hz : manyL (mailR n j (rndV j s ⟨step, phase, false, false, vs, ms⟩) es) = 0
    · refine ⟨1, _, _, Nat.le_refl _, by omega, hN.ended h (by omega) hz, ?_⟩
      rw [show step + ((1 : Nat) : Int) - 1 = step by omega]
      exact hg
    · cases d with
      | zero =>
        exfalso
        apply hz
        rw [mailR_zero]
        intro u hu
        refine msgs_none fun e he => ?_
        have still : ∀ v : Int, 0 ≤ v ∧ v < (n : Int) → (rndV j s ⟨step, phase, false, false, vs, ms⟩ v).2 = false := fun v hv => by
          by_cases e : lab v = -1
          · rw [h.rnd_low (T := ⟨step, phase, false, false, vs, ms⟩) rfl hI.lb hv e]
            have := hI.mn.still h.gr (by omega) hv (actL_iff.2 e)
            simp only at this ⊢
            rw [this]
          · rw [h.rnd_off (T := ⟨step, phase, false, false, vs, ms⟩) hI.lb hv e]
        obtain ⟨f0, f1, t0, t1, _⟩ := h.ing e he
        exact ⟨still _ ⟨f0, f1⟩, still _ ⟨t0, t1⟩⟩
      | succ d =>
        have hb : nextS n es j s ⟨step, phase, false, false, vs, ms⟩ = ⟨step + 1, phase, false, false, valsR n (rndV j s ⟨step, phase, false, false, vs, ms⟩), mailR n j (rndV j s ⟨step, phase, false, false, vs, ms⟩) es⟩ := by
          unfold nextS behR
          rw [if_pos (by omega)]
        rw [hb] at hg
        obtain ⟨i, vs', ms', h1, h2, h3, h4⟩ := h.rest hj d (t + 1) (step + 1) _ _ (by omega) (by omega) hN (by omega)
        refine ⟨i + 1, vs', ms', by omega, by omega, h3, ?_⟩
        have := hg.trans h4
        rw [show 1 + i = i + 1 by omega] at this
        rw [show step + ((i + 1 : Nat) : Int) - 1 = step + 1 + (i : Int) - 1 by omega]
        exact this
/-- The whole phase. -/
theorem FwG.run (h : FwG n es j s lab ds ini C M) (hn : 0 < n) {T : StS} (hj : jobF k T.phase = some j) (hf : T.fresh = true) (hd : T.done = false) (hl : ∀ v : Int, 0 ≤ v ∧ v < (n : Int) → (vlA T.vals v).2 = lab v) :
    ∃ (i : Nat) (vs' : List Ml) (ms' : List (List Int)), 1 ≤ i ∧ i ≤ n + 1 ∧ FwE n lab ds ini (vlA T.vals) vs' ms' ∧ GoesR n es k s i T (behR j (T.step + i - 1) T.phase vs' ms') := by
  have hov := h.small_first hf hl
  have hg := GoesR.one (n := n) (es := es) (k := k) (s := s) hd hj hov
  have hN := h.first hf hl
  by_cases hz : manyL (mailR n j (rndV j s T) es) = 0
  · refine ⟨1, _, _, Nat.le_refl _, by omega, hN.ended h (by omega) hz, ?_⟩
    rw [show T.step + ((1 : Nat) : Int) - 1 = T.step by omega]
    exact hg
  · have hb : nextS n es j s T = ⟨T.step + 1, T.phase, false, false, valsR n (rndV j s T), mailR n j (rndV j s T) es⟩ := by
      unfold nextS behR
      rw [if_pos (by omega)]
    rw [hb] at hg
    obtain ⟨i, vs', ms', h1, h2, h3, h4⟩ := h.rest hj (n - 1) 1 (T.step + 1) _ _ (by omega) (by omega) hN (by omega)
    refine ⟨i + 1, vs', ms', by omega, by omega, h3, ?_⟩
    have := hg.trans h4
    rw [show 1 + i = i + 1 by omega] at this
    rw [show T.step + ((i + 1 : Nat) : Int) - 1 = T.step + 1 + (i : Int) - 1 by omega]
    exact this
end
end Go.Proofs.YtbmkgnlfccigpaaGreat

namespace Go.Proofs.YtbmkgnlfccigpaaGreat
set_option maxRecDepth 100000

theorem vlA_rep {n : Nat} {v : Int} : vlA (List.replicate n (-1, -1)) v = (-1, -1) := by
  unfold vlA
  rw [List.getD_eq_getElem?_getD, List.getElem?_replicate]
  split <;> rfl
theorem atD_fst {l : List Ml} {n : Nat} {v : Int} (hl : l.length = n) (hv : 0 ≤ v ∧ v < (n : Int)) : atD (l.map fun x => x.1) v = (vlA l v).1 := by
  have h : v.toNat < l.length := by omega
  unfold atD vlA
  rw [List.getD_eq_getElem?_getD, List.getD_eq_getElem?_getD, List.getElem?_map, List.getElem?_eq_getElem h]
  rfl
theorem atD_snd {l : List Ml} {n : Nat} {v : Int} (hl : l.length = n) (hv : 0 ≤ v ∧ v < (n : Int)) : atD (l.map fun x => x.2) v = (vlA l v).2 := by
  have h : v.toNat < l.length := by omega
  unfold atD vlA
  rw [List.getD_eq_getElem?_getD, List.getD_eq_getElem?_getD, List.getElem?_map, List.getElem?_eq_getElem h]
  rfl
/-- An edge that adds nothing. -/
def zE (e : Ed) : Ed := (e.1, e.2.1, 0)
theorem sumW_z {ds p : List Ed} (h : ∀ e ∈ p, e ∈ ds.map zE) : sumW p = 0 := by
  induction p with
  | nil => rfl
  | cons e p ih =>
    rw [sumW_cons, ih fun d hd => h d (by simp [hd])]
    obtain ⟨d, _, rfl⟩ := List.mem_map.1 (h e (by simp))
    rfl
theorem rch_z {ds : List Ed} {u v : Int} : Rch (ds.map zE) u v ↔ Rch ds u v := by
  constructor
  · rintro ⟨p, hp, hc⟩
    exact walk_ind (es := ds.map zE) (P := fun _ v => Rch ds u v) (Rch.refl _ _) (fun q e _ he _ ih => by
      obtain ⟨d, hd, rfl⟩ := List.mem_map.1 he
      exact Rch.step (e := d) ih hd) p.length p v rfl hp hc
  · rintro ⟨p, hp, hc⟩
    exact walk_ind (es := ds) (P := fun _ v => Rch (ds.map zE) u v) (Rch.refl _ _) (fun q e _ he _ ih => by
      exact Rch.step (e := zE e) ih (List.mem_map.2 ⟨e, he, rfl⟩)) p.length p v rfl hp hc
/-- Numbers of vertices, along edges that add nothing. -/
def iniV (n : Nat) (lab : Int → Int) (v : Int) : Int := if (0 ≤ v ∧ v < (n : Int)) ∧ lab v = -1 then v else -1
theorem iniV_in {n : Nat} {lab : Int → Int} {v : Int} (hv : 0 ≤ v ∧ v < (n : Int)) (ha : lab v = -1) : iniV n lab v = v := if_pos ⟨hv, ha⟩
theorem wkk_z {n : Nat} {ds : List Ed} {lab : Int → Int} {v x : Int} : Wkk n (ds.map zE) (iniV n lab) v x ↔ (0 ≤ x ∧ x < (n : Int)) ∧ lab x = -1 ∧ Rch ds x v := by
  constructor
  · rintro ⟨u, p, hu, h0, hp, hc, hx⟩
    rw [sumW_z hp] at hx
    have hl : lab u = -1 := by
      apply Classical.byContradiction
      intro hne
      rw [show iniV n lab u = -1 from if_neg fun h => hne h.2] at h0
      omega
    rw [iniV_in hu hl] at hx
    have : u = x := by omega
    subst this
    exact ⟨hu, hl, rch_z.1 ⟨p, hp, hc⟩⟩
  · rintro ⟨hx, hl, hr⟩
    obtain ⟨p, hp, hc⟩ := rch_z.2 hr
    refine ⟨x, p, hx, ?_, hp, hc, ?_⟩
    · rw [iniV_in hx hl]; exact hx.1
    · rw [iniV_in hx hl, sumW_z hp]; omega
theorem iniV_bd {n : Nat} (hn : 0 < n) (lab : Int → Int) (v : Int) : -1 ≤ iniV n lab v ∧ iniV n lab v ≤ (n : Int) - 1 := by
  unfold iniV
  split <;> omega

def iniD (s v : Int) : Int := if v = s then 0 else -1
theorem dist_fw {n : Nat} {es : List Ed} {s M : Int} (hg : InG n es) (hM : 0 ≤ M) (hw : ∀ e ∈ es, e.2.2 ≤ M) (ht : ((n : Int) + 1) * M ≤ 4398046511104) : FwG n es (false, false) s (fun _ => -1) es (iniD s) 0 M where
  gr := ⟨hg, fun _ _ => ⟨rfl, rfl⟩, fun _ _ => rfl⟩
  ing := hg
  inn := fun v => by unfold iniD; split <;> omega
  wgt := hw
  cps := ⟨Int.le_refl _, hM⟩
  fr := fun v _ x _ _ => by
    show (if v = s then ((0, -1), true) else ((-1, -1), false)) = _
    unfold iniD
    split <;> rfl
  he := fun _ _ _ => rfl
  st := fun _ _ h => absurd rfl h
  way := fun r _ u _ _ x => by
    rw [msgs_mem]
    constructor
    · rintro (⟨e, he, _, h2, h3, h4⟩ | ⟨e, he, h1, _⟩)
      · exact ⟨e, he, h2, h3, h4⟩
      · cases h1
    · rintro ⟨e, he, h2, h3, h4⟩
      exact .inl ⟨e, he, rfl, h2, h3, h4⟩
  ov := fun e he a => by
    have := hw e he
    show a + e.2.2 ≤ a + M
    omega
  top := by
    show 0 + ((n : Int) + 1) * M ≤ 4398046511104
    omega
theorem wkk_dist {n : Nat} {es : List Ed} {s v x : Int} (hs : 0 ≤ s ∧ s < (n : Int)) : Wkk n es (iniD s) v x ↔ ∃ p, (∀ e ∈ p, e ∈ es) ∧ Chn s p v ∧ sumW p = x := by
  constructor
  · rintro ⟨u, p, _, h0, hp, hc, hx⟩
    have e : u = s := by
      apply Classical.byContradiction
      intro hne
      rw [show iniD s u = -1 from if_neg hne] at h0
      omega
    subst e
    rw [show iniD u u = 0 from if_pos rfl] at hx
    exact ⟨p, hp, hc, by omega⟩
  · rintro ⟨p, hp, hc, hx⟩
    exact ⟨s, p, hs, by rw [show iniD s s = 0 from if_pos rfl]; exact Int.le_refl _, hp, hc, by rw [show iniD s s = 0 from if_pos rfl]; omega⟩
/-- Rounds of Dist. -/
theorem dist_rounds {n : Nat} {es : List Ed} {s M : Int} (hn : 0 < n) (hs : 0 ≤ s ∧ s < (n : Int)) (hg : InG n es) (hM : 0 ≤ M) (hw : ∀ e ∈ es, e.2.2 ≤ M) (ht : ((n : Int) + 1) * M ≤ 4398046511104) :
    ∃ (i : Nat) (t : StS), 1 ≤ i ∧ i ≤ n + 1 ∧ GoesR n es 1 s i (beginS n) t ∧ t.done = true ∧ t.step = i ∧ t.vals.length = n ∧ (t.vals.map fun x => x.1) = distF n es s := by
  obtain ⟨i, vs, ms, h1, h2, h3, h4⟩ := (dist_fw (s := s) hg hM hw ht).run (k := 1) hn (T := beginS n) rfl (by simp [beginS, hn]) (by simp [beginS]; omega) (fun v _ => by rw [show (beginS n).vals = List.replicate n (-1, -1) from rfl, vlA_rep])
  have hb : behR (false, false) ((beginS n).step + i - 1) (beginS n).phase vs ms = ⟨i, 0, false, true, vs, ms⟩ := by
    unfold behR
    rw [if_neg (by rw [h3.no]; omega), if_pos (by simp)]
    simp [beginS]
  rw [hb] at h4
  refine ⟨i, _, h1, h2, h4, rfl, rfl, h3.lv, dist_uniq hg hs ⟨by simp [h3.lv], fun v hv => ?_⟩⟩
  rw [atD_fst h3.lv hv]
  rcases (h3.on v hv rfl).2 with ⟨g1, g2⟩ | ⟨g1, g2, g3⟩
  · exact .inl ⟨g1, fun ⟨p, hp, hc⟩ => g2 _ ((wkk_dist hs).2 ⟨p, hp, hc, rfl⟩)⟩
  · exact .inr ⟨g1, (wkk_dist hs).1 g2, fun p hp hc => g3 _ ((wkk_dist hs).2 ⟨p, hp, hc, rfl⟩)⟩

theorem weak_fw {n : Nat} {es : List Ed} {s : Int} (hn : 0 < n) (hn2 : n ≤ 200) (hg : InG n es) : FwG n es (false, true) s (fun _ => -1) ((bothW es).map zE) (iniV n fun _ => -1) ((n : Int) - 1) 0 where
  gr := ⟨fun e he => by
    obtain ⟨d, hd, rfl⟩ := List.mem_map.1 he
    obtain ⟨f0, f1, t0, t1, _⟩ := both_in hg d hd
    exact ⟨f0, f1, t0, t1, Int.le_refl _⟩, fun _ _ => ⟨rfl, rfl⟩, fun _ _ => rfl⟩
  ing := hg
  inn := iniV_bd hn _
  wgt := fun e he => by obtain ⟨d, _, rfl⟩ := List.mem_map.1 he; exact Int.le_refl _
  cps := ⟨by omega, Int.le_refl _⟩
  fr := fun v hv x _ _ => by
    show ((v, -1), true) = _
    rw [iniV_in hv rfl]
    simp [hv.1]
  he := fun _ _ _ => rfl
  st := fun _ _ h => absurd rfl h
  way := fun r _ u _ _ x => by
    rw [msgs_mem]
    constructor
    · rintro (⟨e, he, _, h2, h3, h4⟩ | ⟨e, he, _, h2, h3, h4⟩)
      · exact ⟨zE e, List.mem_map.2 ⟨e, List.mem_append.2 (.inl he), rfl⟩, h2, h3, by rw [h4]; show (r e.1).1.1 = (r e.1).1.1 + 0; omega⟩
      · exact ⟨zE (e.2.1, e.1, e.2.2), List.mem_map.2 ⟨_, List.mem_append.2 (.inr (List.mem_map.2 ⟨e, he, rfl⟩)), rfl⟩, h2, h3, by rw [h4]; show (r e.2.1).1.1 = (r e.2.1).1.1 + 0; omega⟩
    · rintro ⟨e, he, h2, h3, h4⟩
      obtain ⟨d, hd, rfl⟩ := List.mem_map.1 he
      rcases List.mem_append.1 hd with hd | hd
      · exact .inl ⟨d, hd, rfl, h2, h3, by rw [h4]; show (r d.1).1.1 + 0 = (r d.1).1.1; omega⟩
      · obtain ⟨c, hc, rfl⟩ := List.mem_map.1 hd
        exact .inr ⟨c, hc, rfl, h2, h3, by rw [h4]; show (r c.2.1).1.1 + 0 = (r c.2.1).1.1; omega⟩
  ov := fun e _ a => by show a ≤ a + 0; omega
  top := by
    show (n : Int) - 1 + ((n : Int) + 1) * 0 ≤ 199
    omega
theorem weak_rounds {n : Nat} {es : List Ed} {s : Int} (hn : 0 < n) (hn2 : n ≤ 200) (hg : InG n es) :
    ∃ (i : Nat) (t : StS), 1 ≤ i ∧ i ≤ n + 1 ∧ GoesR n es 2 s i (beginS n) t ∧ t.done = true ∧ t.step = i ∧ t.vals.length = n ∧ (t.vals.map fun x => x.1) = weakF n es := by
  obtain ⟨i, vs, ms, h1, h2, h3, h4⟩ := (weak_fw (s := s) hn hn2 hg).run (k := 2) hn (T := beginS n) rfl (by simp [beginS, hn]) (by simp [beginS]; omega) (fun v _ => by rw [show (beginS n).vals = List.replicate n (-1, -1) from rfl, vlA_rep])
  have hb : behR (false, true) ((beginS n).step + i - 1) (beginS n).phase vs ms = ⟨i, 0, false, true, vs, ms⟩ := by
    unfold behR
    rw [if_neg (by rw [h3.no]; omega), if_pos (by simp)]
    simp [beginS]
  rw [hb] at h4
  refine ⟨i, _, h1, h2, h4, rfl, rfl, h3.lv, weak_uniq hg ⟨by simp [h3.lv], fun v hv => ?_⟩⟩
  rw [atD_fst h3.lv hv]
  rcases (h3.on v hv rfl).2 with ⟨_, g2⟩ | ⟨g1, g2, g3⟩
  · exact absurd (wkk_z.2 ⟨hv, rfl, Rch.refl _ _⟩) (g2 v)
  · obtain ⟨k1, _, k2⟩ := wkk_z.1 g2
    exact ⟨k1, k2, fun u hu hr => g3 u (wkk_z.2 ⟨hu, rfl, hr⟩)⟩
end Go.Proofs.YtbmkgnlfccigpaaGreat

namespace Go.Proofs.YtbmkgnlfccigpaaGreat
set_option maxRecDepth 100000

/-- Edges between vertices without a label. -/
def freeE (lab : Int → Int) (es : List Ed) : List Ed := es.filter fun e => actL lab e.1 && actL lab e.2.1
theorem free_mem {lab : Int → Int} {es : List Ed} {e : Ed} : e ∈ freeE lab es ↔ e ∈ es ∧ lab e.1 = -1 ∧ lab e.2.1 = -1 := by simp [freeE, actL]
theorem fwd_fw {n : Nat} {es : List Ed} {s : Int} {lab : Int → Int} (hn : 0 < n) (hn2 : n ≤ 200) (hg : InG n es) : FwG n es (true, false) s lab ((freeE lab es).map zE) (iniV n lab) ((n : Int) - 1) 0 where
  gr := ⟨fun e he => by
    obtain ⟨d, hd, rfl⟩ := List.mem_map.1 he
    obtain ⟨f0, f1, t0, t1, _⟩ := hg d (free_mem.1 hd).1
    exact ⟨f0, f1, t0, t1, Int.le_refl _⟩, fun e he => by
    obtain ⟨d, hd, rfl⟩ := List.mem_map.1 he
    exact ⟨actL_iff.2 (free_mem.1 hd).2.1, actL_iff.2 (free_mem.1 hd).2.2⟩, fun v h => by
    apply actL_iff.2
    apply Classical.byContradiction
    intro hne
    rw [show iniV n lab v = -1 from if_neg fun h => hne h.2] at h
    omega⟩
  ing := hg
  inn := iniV_bd hn _
  wgt := fun e he => by obtain ⟨d, _, rfl⟩ := List.mem_map.1 he; exact Int.le_refl _
  cps := ⟨by omega, Int.le_refl _⟩
  fr := fun v hv x hx ha => by
    show (if x.2 = -1 then ((v, -1), true) else (x, false)) = _
    rw [if_pos (by rw [hx, ha]), iniV_in hv ha]
    simp [hv.1]
  he := fun x m hx => by
    show (if x.2 = -1 then lowV x m else (x, false)) = _
    rw [if_pos hx]
  st := fun v hv ha x b m hx => by
    have hne : ¬ x.2 = -1 := by rw [hx]; exact ha
    unfold wakeV
    cases b
    · show (if x.2 = -1 then lowV x m else (x, false)) = _
      rw [if_neg hne]
    · show (if x.2 = -1 then ((v, -1), true) else (x, false)) = _
      rw [if_neg hne]
  way := fun r hr u hu ha x => by
    rw [msgs_mem]
    constructor
    · rintro (⟨e, he, _, h2, h3, h4⟩ | ⟨e, he, h1, _⟩)
      · obtain ⟨f0, f1, _⟩ := hg e he
        have hl : lab e.1 = -1 := by
          apply Classical.byContradiction
          intro hne
          rw [hr e.1 ⟨f0, f1⟩ hne] at h3
          cases h3
        exact ⟨zE e, List.mem_map.2 ⟨e, free_mem.2 ⟨he, hl, by rw [h2]; exact ha⟩, rfl⟩, h2, h3, by rw [h4]; show (r e.1).1.1 = (r e.1).1.1 + 0; omega⟩
      · cases h1
    · rintro ⟨e, he, h2, h3, h4⟩
      obtain ⟨d, hd, rfl⟩ := List.mem_map.1 he
      exact .inl ⟨d, (free_mem.1 hd).1, rfl, h2, h3, by rw [h4]; show (r d.1).1.1 + 0 = (r d.1).1.1; omega⟩
  ov := fun e _ a => by show a ≤ a + 0; omega
  top := by
    show (n : Int) - 1 + ((n : Int) + 1) * 0 ≤ 199
    omega

/-- Behind some rounds of the phase Back: c the colours, lab the labels with which it began. -/
structure BkI (n : Nat) (es : List Ed) (lab c : Int → Int) (vs : List Ml) (ms : List (List Int)) : Prop where
  lv : vs.length = n
  lm : ms.length = n
  col : ∀ v : Int, 0 ≤ v ∧ v < (n : Int) → (vlA vs v).1 = c v
  off : ∀ v : Int, 0 ≤ v ∧ v < (n : Int) → lab v ≠ -1 → (vlA vs v).2 = lab v
  on : ∀ v : Int, 0 ≤ v ∧ v < (n : Int) → lab v = -1 → (vlA vs v).2 = -1 ∨ ((vlA vs v).2 = c v ∧ Rch (freeE lab es) v (c v))
  rot : ∀ v : Int, 0 ≤ v ∧ v < (n : Int) → lab v = -1 → c v = v → (vlA vs v).2 ≠ -1
  tel : ∀ e ∈ freeE lab es, (vlA vs e.2.1).2 ≠ -1 → c e.1 = c e.2.1 → (vlA vs e.1).2 ≠ -1 ∨ c e.2.1 ∈ mlA ms e.1
  snd : ∀ v : Int, 0 ≤ v ∧ v < (n : Int) → ∀ x ∈ mlA ms v, ∃ e ∈ es, e.1 = v ∧ lab e.2.1 = -1 ∧ (vlA vs e.2.1).2 ≠ -1 ∧ x = c e.2.1
section
variable {n : Nat} {es : List Ed} {s : Int} {lab c : Int → Int}
theorem back_off {T : StS} {v : Int} (h : (vlA T.vals v).2 ≠ -1) : rndV (true, true) s T v = (vlA T.vals v, false) := by
  unfold rndV
  split
  · unfold wakeV
    cases T.fresh
    · show (if (vlA T.vals v).2 = -1 then labF _ _ else (vlA T.vals v, false)) = _
      rw [if_neg h]
    · show (if (vlA T.vals v).2 = -1 then labF _ _ else (vlA T.vals v, false)) = _
      rw [if_neg h]
  · rfl
theorem back_new {T : StS} {v : Int} (hf : T.fresh = true) (h : (vlA T.vals v).2 = -1) : rndV (true, true) s T v = labF (vlA T.vals v) ((vlA T.vals v).1 == v) := by
  unfold rndV
  rw [hf]
  simp only [Bool.true_or, if_true]
  show (if (vlA T.vals v).2 = -1 then labF _ _ else (vlA T.vals v, false)) = _
  rw [if_pos h]
theorem back_low {T : StS} {v : Int} (hf : T.fresh = false) (h : (vlA T.vals v).2 = -1) : rndV (true, true) s T v = labF (vlA T.vals v) (hasB (mlA T.mail v) (vlA T.vals v).1) := by
  unfold rndV
  rw [hf]
  simp only [Bool.false_or]
  split
  · show (if (vlA T.vals v).2 = -1 then labF _ _ else (vlA T.vals v, false)) = _
    rw [if_pos h]
  · next hc =>
    have : mlA T.mail v = [] := by simpa using hc
    rw [this]
    rfl
theorem labF_fst (x : Ml) (b : Bool) : (labF x b).1.1 = x.1 := by cases b <;> rfl
theorem labF_snd (x : Ml) (b : Bool) : (labF x b).2 = b := rfl
theorem labF_lab (x : Ml) (b : Bool) : (labF x b).1.2 = if b then x.1 else x.2 := by cases b <;> rfl
/-- Who speaks has just got its label. -/
theorem back_said {T : StS} {v : Int} (h : (rndV (true, true) s T v).2 = true) : (vlA T.vals v).2 = -1 ∧ (rndV (true, true) s T v).1 = ((vlA T.vals v).1, (vlA T.vals v).1) := by
  by_cases hl : (vlA T.vals v).2 = -1
  · refine ⟨hl, ?_⟩
    cases hf : T.fresh with
    | true =>
      rw [back_new hf hl] at h ⊢
      rw [labF_snd] at h
      rw [h]; rfl
    | false =>
      rw [back_low hf hl] at h ⊢
      rw [labF_snd] at h
      rw [h]; rfl
  · rw [back_off hl] at h; cases h
theorem back_col {T : StS} {v : Int} : (rndV (true, true) s T v).1.1 = (vlA T.vals v).1 := by
  by_cases hl : (vlA T.vals v).2 = -1
  · cases hf : T.fresh with
    | true => rw [back_new hf hl, labF_fst]
    | false => rw [back_low hf hl, labF_fst]
  · rw [back_off hl]
/-- Who does not speak has the label that it had. -/
theorem back_mute {T : StS} {v : Int} (h : (rndV (true, true) s T v).2 = false) : (rndV (true, true) s T v).1 = vlA T.vals v := by
  by_cases hl : (vlA T.vals v).2 = -1
  · cases hf : T.fresh with
    | true =>
      rw [back_new hf hl] at h ⊢
      rw [labF_snd] at h
      rw [h]; rfl
    | false =>
      rw [back_low hf hl] at h ⊢
      rw [labF_snd] at h
      rw [h]; rfl
  · rw [back_off hl]
theorem back_mail {T : StS} {u x : Int} (hu : 0 ≤ u ∧ u < (n : Int)) : x ∈ mlA (mailR n (true, true) (rndV (true, true) s T) es) u ↔ ∃ e ∈ es, e.1 = u ∧ (rndV (true, true) s T e.2.1).2 = true ∧ x = (vlA T.vals e.2.1).1 := by
  rw [mlA_mail hu, sortN_mem, msgs_mem]
  constructor
  · rintro (⟨e, he, h1, _⟩ | ⟨e, he, _, h2, h3, h4⟩)
    · cases h1
    · refine ⟨e, he, h2, h3, ?_⟩
      rw [h4]
      show (rndV (true, true) s T e.2.1).1.1 = _
      rw [back_col]
  · rintro ⟨e, he, h2, h3, h4⟩
    refine .inr ⟨e, he, rfl, h2, h3, ?_⟩
    rw [h4]
    show _ = (rndV (true, true) s T e.2.1).1.1
    rw [back_col]
/-- The round in which the phase begins. -/
theorem BkI.first (hg : InG n es) {T : StS} (hf : T.fresh = true) (hc : ∀ v : Int, 0 ≤ v ∧ v < (n : Int) → (vlA T.vals v).1 = c v) (hl : ∀ v : Int, 0 ≤ v ∧ v < (n : Int) → (vlA T.vals v).2 = lab v) :
    BkI n es lab c (valsR n (rndV (true, true) s T)) (mailR n (true, true) (rndV (true, true) s T) es) := by
  have hlab : ∀ v : Int, 0 ≤ v ∧ v < (n : Int) → lab v = -1 → (rndV (true, true) s T v) = labF (vlA T.vals v) (c v == v) := fun v hv ha => by
    rw [back_new hf (by rw [hl v hv, ha]), hc v hv]
  refine ⟨valsR_len _ _, mailR_len _ _ _ _, fun v hv => ?_, fun v hv ha => ?_, fun v hv ha => ?_, fun v hv ha hr => ?_, fun e he h1 h2 => ?_, fun v hv x hx => ?_⟩
  · rw [vlA_vals hv, back_col, hc v hv]
  · rw [vlA_vals hv, back_off (by rw [hl v hv]; exact ha)]; exact hl v hv
  · rw [vlA_vals hv, hlab v hv ha, labF_lab]
    by_cases e : c v = v
    · right
      rw [if_pos (by simpa using e), hc v hv]
      exact ⟨rfl, by rw [e]; exact Rch.refl _ _⟩
    · left
      rw [if_neg (by simpa using e), hl v hv, ha]
  · rw [vlA_vals hv, hlab v hv ha, labF_lab, if_pos (by simpa using hr), hc v hv, hr]
    omega
  · obtain ⟨he1, a1, a2⟩ := free_mem.1 he
    obtain ⟨f0, f1, t0, t1, _⟩ := hg e he1
    right
    rw [vlA_vals ⟨t0, t1⟩, hlab _ ⟨t0, t1⟩ a2, labF_lab] at h1
    have h3 : (c e.2.1 == e.2.1) = true := by
      apply Classical.byContradiction
      intro hne
      rw [if_neg hne, hl _ ⟨t0, t1⟩, a2] at h1
      exact h1 rfl
    rw [back_mail ⟨f0, f1⟩]
    refine ⟨e, he1, rfl, ?_, ?_⟩
    · rw [hlab _ ⟨t0, t1⟩ a2, labF_snd]; exact h3
    · rw [hc _ ⟨t0, t1⟩]
  · obtain ⟨e, he, h1, h2, h3⟩ := (back_mail hv).1 hx
    obtain ⟨f0, f1, t0, t1, _⟩ := hg e he
    obtain ⟨g1, g2⟩ := back_said h2
    have ha : lab e.2.1 = -1 := by rw [← hl _ ⟨t0, t1⟩]; exact g1
    refine ⟨e, he, h1, ha, ?_, by rw [h3, hc _ ⟨t0, t1⟩]⟩
    rw [vlA_vals ⟨t0, t1⟩, g2]
    rw [hlab _ ⟨t0, t1⟩ ha, labF_snd] at h2
    have : c e.2.1 = e.2.1 := by simpa using h2
    simp only
    rw [hc _ ⟨t0, t1⟩, this]
    omega
/-- One more round. -/
theorem BkI.more (hg : InG n es) (hcn : ∀ v : Int, 0 ≤ v ∧ v < (n : Int) → lab v = -1 → 0 ≤ c v) {T : StS} (hf : T.fresh = false) (h : BkI n es lab c T.vals T.mail) :
    BkI n es lab c (valsR n (rndV (true, true) s T)) (mailR n (true, true) (rndV (true, true) s T) es) := by
  have hlow : ∀ v : Int, 0 ≤ v ∧ v < (n : Int) → (vlA T.vals v).2 = -1 → rndV (true, true) s T v = labF (vlA T.vals v) (hasB (mlA T.mail v) (c v)) := fun v hv hv2 => by
    rw [back_low hf hv2, h.col v hv]
  have hact : ∀ v : Int, 0 ≤ v ∧ v < (n : Int) → (vlA T.vals v).2 = -1 → lab v = -1 := fun v hv hv2 => by
    apply Classical.byContradiction
    intro hne
    rw [h.off v hv hne] at hv2
    exact hne hv2
  have hkeep : ∀ v : Int, 0 ≤ v ∧ v < (n : Int) → (vlA T.vals v).2 ≠ -1 → (vlA (valsR n (rndV (true, true) s T)) v).2 = (vlA T.vals v).2 := fun v hv hv2 => by
    rw [vlA_vals hv, back_off hv2]
  refine ⟨valsR_len _ _, mailR_len _ _ _ _, fun v hv => ?_, fun v hv ha => ?_, fun v hv ha => ?_, fun v hv ha hr => ?_, fun e he h1 h2 => ?_, fun v hv x hx => ?_⟩
  · rw [vlA_vals hv, back_col, h.col v hv]
  · rw [hkeep v hv (by rw [h.off v hv ha]; exact ha), h.off v hv ha]
  · by_cases e : (vlA T.vals v).2 = -1
    · rw [vlA_vals hv, hlow v hv e, labF_lab]
      cases hb : hasB (mlA T.mail v) (c v) with
      | false => left; exact e
      | true =>
        right
        rw [if_pos rfl, h.col v hv]
        refine ⟨rfl, ?_⟩
        obtain ⟨d, hd, d1, d2, d3, d4⟩ := h.snd v hv _ (hasB_iff.1 hb)
        obtain ⟨f0, f1, t0, t1, _⟩ := hg d hd
        rcases h.on d.2.1 ⟨t0, t1⟩ d2 with g | ⟨_, g⟩
        · exact absurd g d3
        · rw [d4]
          have he : d ∈ freeE lab es := free_mem.2 ⟨hd, by rw [d1]; exact ha, d2⟩
          rw [← d1]
          exact ((Rch.refl _ d.1).step he).trans g
    · rw [hkeep v hv e]
      exact h.on v hv ha
  · have := h.rot v hv ha hr
    rw [hkeep v hv this]; exact this
  · obtain ⟨he1, a1, a2⟩ := free_mem.1 he
    obtain ⟨f0, f1, t0, t1, _⟩ := hg e he1
    by_cases e1 : (vlA T.vals e.2.1).2 = -1
    · right
      rw [back_mail ⟨f0, f1⟩]
      refine ⟨e, he1, rfl, ?_, by rw [h.col _ ⟨t0, t1⟩]⟩
      cases hs : (rndV (true, true) s T e.2.1).2 with
      | true => rfl
      | false =>
        rw [vlA_vals ⟨t0, t1⟩, back_mute hs] at h1
        exact absurd e1 h1
    · left
      rcases h.tel e he e1 h2 with g | g
      · rw [hkeep _ ⟨f0, f1⟩ g]; exact g
      · by_cases e2 : (vlA T.vals e.1).2 = -1
        · rw [vlA_vals ⟨f0, f1⟩, hlow _ ⟨f0, f1⟩ e2, labF_lab, if_pos (hasB_iff.2 (by rw [h2]; exact g)), h.col _ ⟨f0, f1⟩]
          have := hcn _ ⟨f0, f1⟩ a1
          omega
        · rw [hkeep _ ⟨f0, f1⟩ e2]; exact e2
  · obtain ⟨e, he, h1, h2, h3⟩ := (back_mail hv).1 hx
    obtain ⟨f0, f1, t0, t1, _⟩ := hg e he
    obtain ⟨g1, g2⟩ := back_said h2
    have ha := hact _ ⟨t0, t1⟩ g1
    refine ⟨e, he, h1, ha, ?_, by rw [h3, h.col _ ⟨t0, t1⟩]⟩
    rw [vlA_vals ⟨t0, t1⟩, g2]
    have := hcn _ ⟨t0, t1⟩ ha
    simp only
    rw [h.col _ ⟨t0, t1⟩]
    omega
/-- How many have no label. -/
def unl (n : Nat) (vs : List Ml) : Nat := (List.range n).countP fun v : Nat => decide ((vlA vs (v : Int)).2 = -1)
theorem countP_less {α : Type} {p q : α → Bool} : ∀ {l : List α}, (∀ x ∈ l, q x = true → p x = true) → (∃ x ∈ l, p x = true ∧ q x = false) → l.countP q < l.countP p
  | [], _, ⟨x, hx, _⟩ => by simp at hx
  | y :: l, h, ⟨x, hx, h1, h2⟩ => by
    rw [List.countP_cons, List.countP_cons]
    have hle : l.countP q ≤ l.countP p := List.countP_mono_left fun z hz hq => h z (by simp [hz]) hq
    rcases List.mem_cons.1 hx with e | hx
    · subst e
      rw [h1, h2]
      simp
      omega
    · have := countP_less (l := l) (fun z hz => h z (by simp [hz])) ⟨x, hx, h1, h2⟩
      have hy := h y (by simp)
      by_cases e : q y = true
      · rw [e, hy e]; simp; exact this
      · have e' : q y = false := by simpa using e
        rw [e']
        simp
        omega
/-- Somebody speaks: one more has its label. -/
theorem unl_less {T : StS} {v : Int} (hv : 0 ≤ v ∧ v < (n : Int)) (hs : (rndV (true, true) s T v).2 = true) (hc : 0 ≤ (vlA T.vals v).1) : unl n (valsR n (rndV (true, true) s T)) < unl n T.vals := by
  obtain ⟨g1, g2⟩ := back_said hs
  refine countP_less (fun u hu hq => ?_) ⟨v.toNat, List.mem_range.2 (by omega), ?_, ?_⟩
  · have hu' : 0 ≤ (u : Int) ∧ (u : Int) < (n : Int) := by have := List.mem_range.1 hu; omega
    have hq' : (vlA (valsR n (rndV (true, true) s T)) (u : Int)).2 = -1 := by simpa using hq
    rw [vlA_vals hu'] at hq'
    apply decide_eq_true
    apply Classical.byContradiction
    intro hne
    rw [back_off hne] at hq'
    exact hne hq'
  · rw [Int.toNat_of_nonneg hv.1]; exact decide_eq_true g1
  · rw [Int.toNat_of_nonneg hv.1, vlA_vals hv, g2]
    apply decide_eq_false
    simp only
    omega
theorem unl_le {T : StS} : unl n (valsR n (rndV (true, true) s T)) ≤ unl n T.vals := by
  refine List.countP_mono_left fun u hu hq => ?_
  have hu' : 0 ≤ (u : Int) ∧ (u : Int) < (n : Int) := by have := List.mem_range.1 hu; omega
  have hq' : (vlA (valsR n (rndV (true, true) s T)) (u : Int)).2 = -1 := by simpa using hq
  rw [vlA_vals hu'] at hq'
  apply decide_eq_true
  apply Classical.byContradiction
  intro hne
  rw [back_off hne] at hq'
  exact hne hq'
theorem back_over {T : StS} : overR (true, true) (rndV (true, true) s T) es = false := by
  unfold overR
  rw [List.any_eq_false]
  intro e _
  show ¬ ((false && _) && _) = true
  simp
/-- Mail is there only if somebody has spoken. -/
theorem back_some {T : StS} (hm : 0 < manyL (mailR n (true, true) (rndV (true, true) s T) es)) : ∃ e ∈ es, (rndV (true, true) s T e.2.1).2 = true := by
  apply Classical.byContradiction
  intro hne
  have : manyL (mailR n (true, true) (rndV (true, true) s T) es) = 0 := by
    rw [mailR_zero]
    intro u hu
    refine List.eq_nil_iff_forall_not_mem.2 fun x hx => ?_
    have hx' : x ∈ mlA (mailR n (true, true) (rndV (true, true) s T) es) u := by rw [mlA_mail hu, sortN_mem]; exact hx
    obtain ⟨e, he, _, h2, _⟩ := (back_mail hu).1 hx'
    exact hne ⟨e, he, h2⟩
  omega
/-- From a round on, up to the end of the phase. -/
theorem BkI.rest (hg : InG n es) (hcn : ∀ v : Int, 0 ≤ v ∧ v < (n : Int) → lab v = -1 → 0 ≤ c v) : ∀ (d : Nat) (step : Int) (vs : List Ml) (ms : List (List Int)), unl n vs ≤ d → BkI n es lab c vs ms → 0 < manyL ms →
    ∃ (i : Nat) (vs' : List Ml) (ms' : List (List Int)), 1 ≤ i ∧ i ≤ d + 1 ∧ BkI n es lab c vs' ms' ∧ manyL ms' = 0 ∧ unl n vs' ≤ unl n vs ∧ GoesR n es 3 s i ⟨step, 1, false, false, vs, ms⟩ (behR (true, true) (step + i - 1) 1 vs' ms')
  | d, step, vs, ms, hd, hI, hm => by
    have hg1 := GoesR.one (n := n) (es := es) (k := 3) (s := s) (j := (true, true)) (t := ⟨step, 1, false, false, vs, ms⟩) rfl rfl back_over
    have hN := BkI.more (s := s) hg hcn (T := ⟨step, 1, false, false, vs, ms⟩) rfl hI
    have hle := unl_le (n := n) (s := s) (T := ⟨step, 1, false, false, vs, ms⟩)
    by_cases hz : manyL (mailR n (true, true) (rndV (true, true) s ⟨step, 1, false, false, vs, ms⟩) es) = 0
    · refine ⟨1, _, _, Nat.le_refl _, by omega, hN, hz, hle, ?_⟩
      rw [show step + ((1 : Nat) : Int) - 1 = step by omega]
      exact hg1
    · obtain ⟨e, he, hs⟩ := back_some (n := n) (es := es) (s := s) (T := ⟨step, 1, false, false, vs, ms⟩) (by omega)
      obtain ⟨f0, f1, t0, t1, _⟩ := hg e he
      have hl1 := (back_said hs).1
      have ha : lab e.2.1 = -1 := by
        apply Classical.byContradiction
        intro hne
        rw [hI.off _ ⟨t0, t1⟩ hne] at hl1
        exact hne hl1
      have hlt := unl_less (n := n) (s := s) (T := ⟨step, 1, false, false, vs, ms⟩) ⟨t0, t1⟩ hs (by simp only; rw [hI.col _ ⟨t0, t1⟩]; exact hcn _ ⟨t0, t1⟩ ha)
      simp only at hlt
      cases d with
      | zero => omega
      | succ d =>
        have hb : nextS n es (true, true) s ⟨step, 1, false, false, vs, ms⟩ = ⟨step + 1, 1, false, false, valsR n (rndV (true, true) s ⟨step, 1, false, false, vs, ms⟩), mailR n (true, true) (rndV (true, true) s ⟨step, 1, false, false, vs, ms⟩) es⟩ := by
          unfold nextS behR
          rw [if_pos (by omega)]
        rw [hb] at hg1
        obtain ⟨i, vs', ms', h1, h2, h3, h4, h5, h6⟩ := BkI.rest hg hcn d (step + 1) _ _ (by omega) hN (by omega)
        refine ⟨i + 1, vs', ms', by omega, by omega, h3, h4, by omega, ?_⟩
        have := hg1.trans h6
        rw [show 1 + i = i + 1 by omega] at this
        rw [show step + ((i + 1 : Nat) : Int) - 1 = step + 1 + (i : Int) - 1 by omega]
        exact this
/-- The whole phase: somebody is its own colour. -/
theorem BkI.run (hg : InG n es) (hcn : ∀ v : Int, 0 ≤ v ∧ v < (n : Int) → lab v = -1 → 0 ≤ c v) {T : StS} (hp : T.phase = 1) (hf : T.fresh = true) (hd : T.done = false) (hc : ∀ v : Int, 0 ≤ v ∧ v < (n : Int) → (vlA T.vals v).1 = c v) (hl : ∀ v : Int, 0 ≤ v ∧ v < (n : Int) → (vlA T.vals v).2 = lab v)
    {r : Int} (hr : 0 ≤ r ∧ r < (n : Int)) (hrl : lab r = -1) (hrc : c r = r) :
    ∃ (i : Nat) (vs' : List Ml) (ms' : List (List Int)), 1 ≤ i ∧ i ≤ unl n T.vals + 1 ∧ BkI n es lab c vs' ms' ∧ manyL ms' = 0 ∧ unl n vs' < unl n T.vals ∧ GoesR n es 3 s i T (behR (true, true) (T.step + i - 1) 1 vs' ms') := by
  have hg1 := GoesR.one (n := n) (es := es) (k := 3) (s := s) (j := (true, true)) (t := T) hd (by rw [hp]; rfl) back_over
  have hN := BkI.first (s := s) hg hf hc hl
  have hs : (rndV (true, true) s T r).2 = true := by
    rw [back_new hf (by rw [hl r hr]; exact hrl), labF_snd, hc r hr, hrc]
    simp
  have hlt := unl_less (n := n) (s := s) (T := T) hr hs (by rw [hc r hr, hrc]; exact hr.1)
  by_cases hz : manyL (mailR n (true, true) (rndV (true, true) s T) es) = 0
  · refine ⟨1, _, _, Nat.le_refl _, by omega, hN, hz, hlt, ?_⟩
    rw [show T.step + ((1 : Nat) : Int) - 1 = T.step by omega]
    have := hg1
    unfold nextS at this
    rw [hp] at this
    exact this
  · have hb : nextS n es (true, true) s T = ⟨T.step + 1, 1, false, false, valsR n (rndV (true, true) s T), mailR n (true, true) (rndV (true, true) s T) es⟩ := by
      unfold nextS behR
      rw [if_pos (by omega), hp]
    rw [hb] at hg1
    obtain ⟨i, vs', ms', h1, h2, h3, h4, h5, h6⟩ := BkI.rest (s := s) hg hcn (unl n T.vals - 1) (T.step + 1) _ _ (by omega) hN (by omega)
    refine ⟨i + 1, vs', ms', by omega, by omega, h3, h4, by omega, ?_⟩
    have := hg1.trans h6
    rw [show 1 + i = i + 1 by omega] at this
    rw [show T.step + ((i + 1 : Nat) : Int) - 1 = T.step + 1 + (i : Int) - 1 by omega]
    exact this
end
end Go.Proofs.YtbmkgnlfccigpaaGreat

namespace Go.Proofs.YtbmkgnlfccigpaaGreat
set_option maxRecDepth 100000

/-- Labels that are right, as far as there are any: all that are tied both ways have one, or none. -/
structure SnI (n : Nat) (es : List Ed) (lab : Int → Int) : Prop where
  ok : ∀ v : Int, 0 ≤ v ∧ v < (n : Int) → lab v = -1 ∨ ((0 ≤ lab v ∧ lab v < (n : Int)) ∧ Mut es (lab v) v ∧ ∀ u : Int, 0 ≤ u ∧ u < (n : Int) → Mut es u v → lab v ≤ u)
  cl : ∀ u v : Int, 0 ≤ u ∧ u < (n : Int) → 0 ≤ v ∧ v < (n : Int) → Mut es u v → lab u = -1 → lab v = -1
section
variable {n : Nat} {es : List Ed} {s : Int} {lab c : Int → Int}
theorem free_rch {u v : Int} (h : Rch (freeE lab es) u v) : Rch es u v := by
  obtain ⟨p, hp, hc⟩ := h
  exact ⟨p, fun e he => (free_mem.1 (hp e he)).1, hc⟩
/-- Walks between vertices that are tied both ways meet no label. -/
theorem rch_free (hg : InG n es) (h : SnI n es lab) {u v : Int} (hu : 0 ≤ u ∧ u < (n : Int)) (ha : lab u = -1) (hm : Mut es u v) : Rch (freeE lab es) u v := by
  obtain ⟨⟨p, hp, hc⟩, hb⟩ := hm
  have key := walk_ind (es := es) (s := u) (P := fun q x => (∀ e ∈ q, e ∈ es) → Chn u q x → Rch es x v → Rch (freeE lab es) u x) (fun _ _ _ => Rch.refl _ _) (fun q e hq he hcq ih _ _ hx => by
    obtain ⟨f0, f1, t0, t1, _⟩ := hg e he
    have h1 : Rch es u e.1 := ⟨q, hq, hcq⟩
    have h2 : Rch es e.1 v := ((Rch.refl _ e.1).step he).trans hx
    have a1 := h.cl u e.1 hu ⟨f0, f1⟩ ⟨h1, h2.trans hb⟩ ha
    have a2 := h.cl u e.2.1 hu ⟨t0, t1⟩ ⟨h1.step he, hx.trans hb⟩ ha
    exact (ih hq hcq h2).step (free_mem.2 ⟨he, a1, a2⟩)) p.length p v rfl hp hc
  exact key hp hc (Rch.refl _ _)
/-- Colours: of each vertex without a label the least one, without a label, that reaches it. -/
structure ClI (n : Nat) (es : List Ed) (lab c : Int → Int) : Prop where
  inn : ∀ v : Int, 0 ≤ v ∧ v < (n : Int) → lab v = -1 → 0 ≤ c v ∧ c v < (n : Int)
  act : ∀ v : Int, 0 ≤ v ∧ v < (n : Int) → lab v = -1 → lab (c v) = -1
  rch : ∀ v : Int, 0 ≤ v ∧ v < (n : Int) → lab v = -1 → Rch (freeE lab es) (c v) v
  low : ∀ v : Int, 0 ≤ v ∧ v < (n : Int) → lab v = -1 → ∀ u : Int, 0 ≤ u ∧ u < (n : Int) → lab u = -1 → Rch (freeE lab es) u v → c v ≤ u
theorem ClI.same (h : ClI n es lab c) {u v : Int} (hu : 0 ≤ u ∧ u < (n : Int)) (hv : 0 ≤ v ∧ v < (n : Int)) (au : lab u = -1) (av : lab v = -1) (h1 : Rch (freeE lab es) u v) (h2 : Rch (freeE lab es) v u) : c u = c v := by
  have g1 := h.low v hv av (c u) (h.inn u hu au) (h.act u hu au) ((h.rch u hu au).trans h1)
  have g2 := h.low u hu au (c v) (h.inn v hv av) (h.act v hv av) ((h.rch v hv av).trans h2)
  omega
theorem ClI.root (h : ClI n es lab c) {v : Int} (hv : 0 ≤ v ∧ v < (n : Int)) (av : lab v = -1) : c (c v) = c v := by
  have g1 := h.low (c v) (h.inn v hv av) (h.act v hv av) (c v) (h.inn v hv av) (h.act v hv av) (Rch.refl _ _)
  have h2 := h.act v hv av
  have h3 := h.inn v hv av
  have g2 := h.low v hv av (c (c v)) (h.inn _ h3 h2) (h.act _ h3 h2) ((h.rch _ h3 h2).trans (h.rch v hv av))
  omega
theorem col_of {ini : Int → Int} {old : Int → Ml} {vs : List Ml} {ms : List (List Int)} (hi : ini = iniV n lab) (h : FwE n lab ((freeE lab es).map zE) ini old vs ms) : ClI n es lab fun v => (vlA vs v).1 := by
  subst hi
  have key : ∀ v : Int, 0 ≤ v ∧ v < (n : Int) → lab v = -1 → 0 ≤ (vlA vs v).1 ∧ Wkk n ((freeE lab es).map zE) (iniV n lab) v (vlA vs v).1 ∧ ∀ x, Wkk n ((freeE lab es).map zE) (iniV n lab) v x → (vlA vs v).1 ≤ x := fun v hv ha =>
    (h.on v hv ha).2.resolve_left fun g => g.2 v (wkk_z.2 ⟨hv, ha, Rch.refl _ _⟩)
  exact ⟨fun v hv ha => (wkk_z.1 (key v hv ha).2.1).1, fun v hv ha => (wkk_z.1 (key v hv ha).2.1).2.1, fun v hv ha => (wkk_z.1 (key v hv ha).2.1).2.2, fun v hv ha u hu au hr => (key v hv ha).2.2 u (wkk_z.2 ⟨hu, au, hr⟩)⟩
/-- Behind Back a vertex has its label just if it reaches its colour. -/
theorem BkI.who {vs : List Ml} {ms : List (List Int)} (hg : InG n es) (hc : ClI n es lab c) (h : BkI n es lab c vs ms) (hm : manyL ms = 0) {v : Int} (hv : 0 ≤ v ∧ v < (n : Int)) (av : lab v = -1) (hr : Rch (freeE lab es) v (c v)) : (vlA vs v).2 ≠ -1 := by
  have hmt : ∀ u : Int, mlA ms u = [] := fun u => by
    unfold mlA
    rw [List.getD_eq_getElem?_getD]
    cases he : ms[u.toNat]? with
    | none => rfl
    | some l => exact manyL_zero.1 hm l (List.mem_of_getElem? he)
  obtain ⟨p, hp, hch⟩ := hr
  /- from the end of the walk backward -/
  have key : ∀ (p : List Ed) (x : Int), (∀ e ∈ p, e ∈ freeE lab es) → 0 ≤ x ∧ x < (n : Int) → lab x = -1 → Rch (freeE lab es) v x → Chn x p (c v) → (vlA vs x).2 ≠ -1 := by
    intro p
    induction p with
    | nil =>
      intro x _ hx ax _ hcx
      have e : x = c v := hcx
      have hr := hc.root hv av
      exact h.rot x hx ax (by rw [e]; exact hr)
    | cons e p ih =>
      intro x hp hx ax hvx hcx
      have he := hp e (by simp)
      obtain ⟨he1, a1, a2⟩ := free_mem.1 he
      obtain ⟨f0, f1, t0, t1, _⟩ := hg e he1
      have ex : e.1 = x := hcx.1
      have hv2 : Rch (freeE lab es) v e.2.1 := Rch.step (by rw [ex]; exact hvx) he
      have h2 := ih e.2.1 (fun d hd => hp d (by simp [hd])) ⟨t0, t1⟩ a2 hv2 hcx.2
      have hto : Rch (freeE lab es) e.2.1 (c v) := ⟨p, fun d hd => hp d (by simp [hd]), hcx.2⟩
      have hback : ∀ y : Int, Rch (freeE lab es) y (c v) → Rch (freeE lab es) y v := fun y hy => hy.trans (hc.rch v hv av)
      have e1 : c e.1 = c v := hc.same ⟨f0, f1⟩ hv a1 av (hback _ (((Rch.refl _ e.1).step he).trans hto)) (by rw [ex]; exact hvx)
      have e2 : c e.2.1 = c v := hc.same ⟨t0, t1⟩ hv a2 av (hback _ hto) hv2
      rcases h.tel e he h2 (by rw [e1, e2]) with g | g
      · rw [← ex]; exact g
      · rw [hmt] at g; simp at g
  exact key p v hp hv av (Rch.refl _ _) hch
/-- Behind Back the labels are right again. -/
theorem SnI.back {vs : List Ml} {ms : List (List Int)} (hs : SnI n es lab) (hg : InG n es) (hc : ClI n es lab c) (h : BkI n es lab c vs ms) (hm : manyL ms = 0) : SnI n es fun v => (vlA vs v).2 := by
  refine ⟨fun v hv => ?_, fun u v hu hv hM hl => ?_⟩
  · by_cases av : lab v = -1
    · rcases h.on v hv av with g | ⟨g1, g2⟩
      · exact .inl g
      · right
        rw [g1]
        refine ⟨hc.inn v hv av, ⟨free_rch (hc.rch v hv av), free_rch g2⟩, fun u hu hM => ?_⟩
        have au := hs.cl v u hv hu hM.symm av
        exact hc.low v hv av u hu au (rch_free hg hs hu au hM)
    · rw [h.off v hv av]
      exact hs.ok v hv
  · have au : lab u = -1 := by
      apply Classical.byContradiction
      intro hne
      rw [h.off u hu hne] at hl
      exact hne hl
    have av := hs.cl u v hu hv hM au
    rcases h.on v hv av with g | ⟨_, g2⟩
    · exact g
    · exfalso
      have h1 := rch_free hg hs hu au hM
      have h2 := rch_free hg hs hv av hM.symm
      refine h.who hg hc hm hu au ?_ hl
      rw [hc.same hu hv au av h1 h2]
      exact h1.trans g2
theorem unl_pos {vs : List Ml} : 0 < unl n vs ↔ ∃ v : Int, (0 ≤ v ∧ v < (n : Int)) ∧ (vlA vs v).2 = -1 := by
  unfold unl
  rw [List.countP_pos_iff]
  constructor
  · rintro ⟨v, hv, h⟩
    have := List.mem_range.1 hv
    exact ⟨(v : Int), ⟨by omega, by omega⟩, by simpa using h⟩
  · rintro ⟨v, hv, h⟩
    exact ⟨v.toNat, List.mem_range.2 (by omega), by rw [Int.toNat_of_nonneg hv.1]; exact decide_eq_true h⟩
theorem unl_n (vs : List Ml) : unl n vs ≤ n := by
  have := List.countP_le_length (p := fun v : Nat => decide ((vlA vs (v : Int)).2 = -1)) (l := List.range n)
  simpa [unl] using this
theorem vlA_mem {vs : List Ml} {v : Int} (hl : vs.length = n) (hv : 0 ≤ v ∧ v < (n : Int)) : vlA vs v ∈ vs := by
  have h : v.toNat < vs.length := by omega
  unfold vlA
  rw [List.getD_eq_getElem?_getD, List.getElem?_eq_getElem h]
  exact List.getElem_mem h
theorem mem_vlA {vs : List Ml} {x : Ml} (hl : vs.length = n) (hx : x ∈ vs) : ∃ v : Int, (0 ≤ v ∧ v < (n : Int)) ∧ vlA vs v = x := by
  obtain ⟨i, hi, rfl⟩ := List.getElem_of_mem hx
  refine ⟨(i : Int), ⟨by omega, by omega⟩, ?_⟩
  unfold vlA
  rw [Int.toNat_natCast, List.getD_eq_getElem?_getD, List.getElem?_eq_getElem hi]
  rfl
/-- The least vertex without a label. -/
theorem least_free {vs : List Ml} (h : 0 < unl n vs) : ∃ r : Int, (0 ≤ r ∧ r < (n : Int)) ∧ (vlA vs r).2 = -1 ∧ ∀ u : Int, 0 ≤ u ∧ u < (n : Int) → (vlA vs u).2 = -1 → r ≤ u := by
  obtain ⟨v, hv, hl⟩ := unl_pos.1 h
  have key : ∀ (k : Nat) (v : Int), v.toNat ≤ k → 0 ≤ v ∧ v < (n : Int) → (vlA vs v).2 = -1 → ∃ r : Int, (0 ≤ r ∧ r < (n : Int)) ∧ (vlA vs r).2 = -1 ∧ ∀ u : Int, 0 ≤ u ∧ u < (n : Int) → (vlA vs u).2 = -1 → r ≤ u := by
    intro k
    induction k with
    | zero => exact fun v hk hv hl => ⟨v, hv, hl, fun u hu _ => by omega⟩
    | succ k ih =>
      intro v hk hv hl
      by_cases e : ∃ u : Int, (0 ≤ u ∧ u < (n : Int)) ∧ (vlA vs u).2 = -1 ∧ u < v
      · obtain ⟨u, hu, hul, hlt⟩ := e
        exact ih u (by omega) hu hul
      · refine ⟨v, hv, hl, fun u hu hul => ?_⟩
        apply Classical.byContradiction
        intro hne
        exact e ⟨u, hu, hul, by omega⟩
  exact key v.toNat v (Nat.le_refl _) hv hl
/-- A pass: Forward and Back. -/
theorem strong_pass (hn : 0 < n) (hn2 : n ≤ 200) (hg : InG n es) {T : StS} (hp : T.phase = 0) (hf : T.fresh = true) (hd : T.done = false) (hS : SnI n es fun v => (vlA T.vals v).2) (hU : 0 < unl n T.vals) :
    ∃ (i : Nat) (vs : List Ml) (ms : List (List Int)), 1 ≤ i ∧ i ≤ 2 * n + 2 ∧ vs.length = n ∧ ms.length = n ∧ manyL ms = 0 ∧ unl n vs < unl n T.vals ∧ (SnI n es fun v => (vlA vs v).2) ∧ GoesR n es 3 s i T (behR (true, true) (T.step + i - 1) 1 vs ms) := by
  obtain ⟨i, vs, ms, h1, h2, h3, h4⟩ := (fwd_fw (s := s) (lab := fun v => (vlA T.vals v).2) hn hn2 hg).run (k := 3) hn (T := T) (by rw [hp]; rfl) hf hd (fun _ _ => rfl)
  have hb : behR (true, false) (T.step + i - 1) T.phase vs ms = ⟨T.step + i, 1, true, false, vs, ms⟩ := by
    unfold behR
    rw [if_neg (by rw [h3.no]; omega), if_neg (by simp), hp, show T.step + (i : Int) - 1 + 1 = T.step + i by omega]
    rfl
  rw [hb] at h4
  have hC := col_of rfl h3
  have hl : ∀ v : Int, 0 ≤ v ∧ v < (n : Int) → (vlA vs v).2 = (vlA T.vals v).2 := fun v hv => by
    by_cases e : (vlA T.vals v).2 = -1
    · rw [(h3.on v hv e).1, e]
    · rw [h3.off v hv e]
  have hun : unl n vs = unl n T.vals := by
    unfold unl
    refine List.countP_congr fun v hv => ?_
    have := List.mem_range.1 hv
    rw [hl (v : Int) ⟨by omega, by omega⟩]
  obtain ⟨r, hr, hrl, hrm⟩ := least_free hU
  have hrc : (vlA vs r).1 = r := by
    have g1 := hC.low r hr hrl r hr hrl (Rch.refl _ _)
    have g2 := hrm _ (hC.inn r hr hrl) (hC.act r hr hrl)
    omega
  obtain ⟨i2, vs2, ms2, k1, k2, k3, k4, k5, k6⟩ := BkI.run (s := s) (lab := fun v => (vlA T.vals v).2) (c := fun v => (vlA vs v).1) hg (fun v hv ha => (hC.inn v hv ha).1) (T := ⟨T.step + i, 1, true, false, vs, ms⟩) rfl rfl rfl (fun _ _ => rfl) hl hr hrl hrc
  simp only at k2 k5 k6
  have hn3 := unl_n (n := n) vs
  refine ⟨i + i2, vs2, ms2, by omega, by omega, k3.lv, k3.lm, k4, by omega, hS.back hg hC k3 k4, ?_⟩
  have := h4.trans k6
  rw [show T.step + (i : Int) + (i2 : Int) - 1 = T.step + ((i + i2 : Nat) : Int) - 1 by omega] at this
  exact this
/-- All passes. -/
theorem strong_all (hn : 0 < n) (hn2 : n ≤ 200) (hg : InG n es) : ∀ (U : Nat) (T : StS), T.phase = 0 → T.fresh = true → T.done = false → (SnI n es fun v => (vlA T.vals v).2) → 0 < unl n T.vals → unl n T.vals ≤ U →
    ∃ (i : Nat) (t : StS), 1 ≤ i ∧ i ≤ U * (2 * n + 2) ∧ GoesR n es 3 s i T t ∧ t.done = true ∧ t.step = T.step + i ∧ t.vals.length = n ∧ (t.vals.map fun x => x.2) = strongF n es
  | 0, T, _, _, _, _, h1, h2 => by omega
  | U + 1, T, hp, hf, hd, hS, h1, h2 => by
    obtain ⟨i, vs, ms, a1, a2, a3, a4, a5, a6, a7, a8⟩ := strong_pass (s := s) hn hn2 hg hp hf hd hS h1
    have hmul : (U + 1) * (2 * n + 2) = U * (2 * n + 2) + (2 * n + 2) := by rw [Nat.add_mul, Nat.one_mul]
    by_cases ho : openV vs = true
    · have hb : behR (true, true) (T.step + i - 1) 1 vs ms = ⟨T.step + i, 0, true, false, vs, ms⟩ := by
        unfold behR
        rw [if_neg (by rw [a5]; omega), if_neg (by simp [ho]), show T.step + (i : Int) - 1 + 1 = T.step + i by omega]
        rfl
      rw [hb] at a8
      have hpos : 0 < unl n vs := by
        unfold openV at ho
        obtain ⟨x, hx, hx2⟩ := List.any_eq_true.1 ho
        obtain ⟨v, hv, rfl⟩ := mem_vlA a3 hx
        refine unl_pos.2 ⟨v, hv, ?_⟩
        have hx3 : (vlA vs v).2 < 0 := by simpa using hx2
        rcases a7.ok v hv with g | g
        · exact g
        · omega
      obtain ⟨i2, t, b1, b2, b3, b4, b5, b6⟩ := strong_all hn hn2 hg U ⟨T.step + i, 0, true, false, vs, ms⟩ rfl rfl rfl a7 hpos (by simp only; omega)
      refine ⟨i + i2, t, by omega, by omega, a8.trans b3, b4, ?_, b6⟩
      rw [b5]
      simp only
      omega
    · have ho' : openV vs = false := by simpa using ho
      have hb : behR (true, true) (T.step + i - 1) 1 vs ms = ⟨T.step + i, 1, false, true, vs, ms⟩ := by
        unfold behR
        rw [if_neg (by rw [a5]; omega), if_pos (by simp [ho']), show T.step + (i : Int) - 1 + 1 = T.step + i by omega]
      rw [hb] at a8
      refine ⟨i, _, a1, by omega, a8, rfl, rfl, a3, strong_uniq hg ⟨by simp [a3], fun v hv => ?_⟩⟩
      rw [atD_snd a3 hv]
      refine (a7.ok v hv).resolve_left fun g => ?_
      have := List.any_eq_false.1 ho' (vlA vs v) (vlA_mem a3 hv)
      rw [g] at this
      simp at this
theorem strong_rounds (hn : 0 < n) (hn2 : n ≤ 200) (hg : InG n es) :
    ∃ (i : Nat) (t : StS), 1 ≤ i ∧ i ≤ n * (2 * n + 2) ∧ GoesR n es 3 s i (beginS n) t ∧ t.done = true ∧ t.step = i ∧ t.vals.length = n ∧ (t.vals.map fun x => x.2) = strongF n es := by
  have hl : ∀ v : Int, (vlA (beginS n).vals v).2 = -1 := fun v => by rw [show (beginS n).vals = List.replicate n (-1, -1) from rfl, vlA_rep]
  obtain ⟨i, t, h1, h2, h3, h4, h5, h6⟩ := strong_all (s := s) hn hn2 hg n (beginS n) rfl (by simp [beginS, hn]) (by simp [beginS]; omega) ⟨fun v _ => .inl (hl v), fun _ v _ _ _ _ => hl v⟩ (unl_pos.2 ⟨0, ⟨by omega, by omega⟩, hl 0⟩) (unl_n _)
  refine ⟨i, t, h1, h2, h3, h4, ?_, h6⟩
  rw [h5]
  show (0 : Int) + i = i
  omega
end
end Go.Proofs.YtbmkgnlfccigpaaGreat
