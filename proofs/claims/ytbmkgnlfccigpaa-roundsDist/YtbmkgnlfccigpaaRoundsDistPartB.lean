/-
  Contract of container/heap's up, on a heap of tips.
  A row of the call's own, cut off behind.
  Contracts of the heap's Push and Pop.
  Contracts of container/heap's Push and Pop, on a heap of tips.
  Contract of paths.sums.
  Contract of paths.hopsOf.
  P12: which error; lists of numbers and of bools that are answered.
  Contract of paths.check.
  Contract of paths.Dist.
  Contract of the keeping laws' own sameInts, of lists that read alike.
  Numbers that are handed on along edges, round by round, of which each vertex keeps the least: what holds behind each round, when nothing changes any more, and what it comes to.
  A phase in which each vertex keeps the least number that it hears of: it ends behind as many rounds as there are vertices and one more, at most, and what it leaves.
  Rounds of Dist and Weak: they end in time, and tell the distances, and the least vertices that are joined.
  A struct of four cells in a box, stored as a whole.
-/
import Derived.Test.YtbmkgnlfccigpaaRoundsDistPartA
import Derived.Test.YtbmkgnlfccigpaaRowBase
import Derived.Test.YtbmkgnlfccigpaaRowLies
import Derived.BigRegion
import Derived.Test.YtbmkgnlfccigpaaBoxMem
import Derived.Deep.LoopGhost
import Derived.Deep.CutRange
import Derived.Test.YtbmkgnlfccigpaaPathLists
import Derived.Test.YtbmkgnlfccigpaaRowNew
import Derived.Test.YtbmkgnlfccigpaaBoolRow
import Derived.Test.YtbmkgnlfccigpaaCheckFace
import Derived.Test.YtbmkgnlfccigpaaRowCore
import Derived.Deep.QuietTactic
import Derived.BigQuiet
import Derived.Test.YtbmkgnlfccigpaaLowMath
import Derived.Test.YtbmkgnlfccigpaaRoundMath

namespace Go.Proofs.Ytbmkgnlfccigpaa
set_option maxRecDepth 100000
open Go.ChangeShapes Go.WideShapes Go.ChangeAt Go.RowKit

/-- What up leaves. -/
def UpY (w : World) (q : Nat) (hs : List Tp) (w' : World) : Prop := ∃ hs', TX w' q hs' ∧ hs'.Perm hs ∧ TpF hs' 0 hs'.length ∧ TK q w w'

set_option maxHeartbeats 4000000 in
set_option maxRecDepth 100000 in
theorem yUp_any (q : Nat) (hs : List Tp) (j : Nat) (w : World) (h : TX w q hs) (hj : j < hs.length) (hl : hs.length ≤ 6000) (hp : TpU hs hs.length j) :
    Calls Try.prog 75 #[tpV q, .int .i64 j] w fun e w' => e = .returned (.tuple #[]) ∧ UpY w q hs w' := by
  unfold tpV
  have H0 : Hid (TX w q hs) := h
  have HP : Hid (TpU hs hs.length j) := hp
  have mL := nilLessY q
  have mS := nilSwapY q
  obtain ⟨N, hN⟩ : ∃ N, N = hs.length := ⟨_, rfl⟩
  have HN : Hid (N = hs.length) := hN
  have hl2 : N ≤ 6000 := by omega
  have hj2 : j < N := by omega
  clear h hp hN hl hj
  go_enter Try.func75, Try.ntmps75
  go_wp2_with fail
  go_loopw [1] (fun u wr => ∃ (i : Nat) (hr : List Tp), u = .int .i64 i ∧ i < N ∧ TX wr q hr ∧ hr.Perm hs ∧ TpU hr N i ∧ TK q w wr) (fun u _ => (intOf u).toNat)
  case atStart => exact ⟨j, hs, rfl, hj2, H0.out, List.Perm.refl _, by rw [HN.out]; exact HP.out, TK.refl _ _⟩
  case round =>
    obtain ⟨k, hr, rfl, hk, hX, hpm, hU, hK⟩ := hrel
    have HX' : Hid (TX wr q hr) := hX
    have HU : Hid (TpU hr N k) := hU
    have HPM : Hid (hr.Perm hs) := hpm
    have HKW : Hid (TK q w wr) := hK
    have hrl1 : hr.length ≤ N := by rw [HN.out]; exact Nat.le_of_eq hpm.length_eq
    have hrl2 : N ≤ hr.length := by rw [HN.out]; exact Nat.le_of_eq hpm.length_eq.symm
    have HRL : Hid (N = hr.length) := by show _ = _; omega
    clear hX hU hpm hK
    by_cases h0 : k = 0
    · subst h0
      have HFN : Hid (TpF hr 0 hr.length) := by
        show TpF hr 0 hr.length
        rw [← HRL.out]
        exact HU.out.stop fun p x y h => by omega
      clear hrl1 hrl2
      go_wp2_with fail
      go_end0
      exact ⟨rfl, hr, HX'.out, HPM.out, HFN.out, HKW.out⟩
    · obtain ⟨i, ei1, ei2⟩ : ∃ i, 2 * i + 1 ≤ k ∧ k ≤ 2 * i + 2 := ⟨(k - 1) / 2, by omega, by omega⟩
      have a1 : IntKind.i64.wrap ((k : Int) - 1) = (k : Int) - 1 := wrap_id64 (by omega) (by omega)
      have a2 : Int.tdiv ((k : Int) - 1) 2 = (i : Int) := by rw [Int.tdiv_eq_ediv_of_nonneg (by omega)]; omega
      have a3 : IntKind.i64.wrap (i : Int) = (i : Int) := wrap_id64 (by omega) (by omega)
      have a4 : ((i : Int) == (k : Int)) = false := by simp; omega
      obtain ⟨x, hx⟩ := getX (es := hr) (i := i) (by omega)
      obtain ⟨y, hy⟩ := getX (es := hr) (i := k) (by omega)
      have HL3 : Hid (∀ X, TX X q hr → Calls Try.prog 124 #[.pointer (some ⟨q, 0, none⟩), .int .i64 (k : Nat), .int .i64 (i : Nat)] X fun e w' => e = .returned (.bool (ltYb y x)) ∧ Below X.heap.size X w') := fun X hX => yLess_any q hr k i y x X hX hy hx
      have HSW : Hid (∀ X, TX X q hr → Calls Try.prog 127 #[.pointer (some ⟨q, 0, none⟩), .int .i64 (i : Nat), .int .i64 (k : Nat)] X fun e w' => e = .returned (.tuple #[]) ∧ TX w' q ((hr.set i y).set k x) ∧ TK q X w') := fun X hX => ySwap_any q hr i k x y X hX hx hy
      have HNP : Hid (((hr.set i y).set k x).Perm hs) := (swapY_perm hx hy).trans HPM.out
      have HND : Hid (ltY y x → TpU ((hr.set i y).set k x) N i) := fun hlt => HU.out.up (by omega) (by omega) hx hy hlt hk
      have HST : Hid (¬ ltY y x → TpF hr 0 hr.length) := fun hlt => by
        rw [← HRL.out]
        refine HU.out.stop fun p u v k0 k1 hu hv => ?_
        have : p = i := by omega
        subst this
        rw [hx] at hu
        rw [hy] at hv
        injection hu with hu
        injection hv with hv
        subst hu hv
        exact hlt
      clear hrl1 hrl2 hx hy
      generalize (hr.set i y).set k x = hr2 at *
      go_wp2_with fail
      refine (HL3.out _ HX'.out).mono ?_
      rintro e w3 ⟨rfl, hb3⟩
      have HX3 : Hid (TX w3 q hr) := HX'.out.below hb3
      have HK3 : Hid (TK q w w3) := HKW.out.trans (TK.of hb3)
      clear hb3 HL3
      by_cases hlt : ltY y x
      · have et : ltYb y x = true := ltYb_true.2 hlt
        rw [et]
        have HN2 : Hid (TpU hr2 N i) := HND.out hlt
        clear et hlt
        go_wp2_with fail
        refine (HSW.out _ HX3.out).mono ?_
        rintro e w4 ⟨rfl, hx4, hk4⟩
        have HX4 : Hid (TX w4 q hr2) := hx4
        have HK4 : Hid (TK q w w4) := HK3.out.trans hk4
        clear hx4 hk4 HSW
        go_wp2_with fail
        go_roundw
        case rel => exact ⟨i, hr2, rfl, by omega, HX4.out, HNP.out, HN2.out, HK4.out⟩
        case measure => simp [intOf]; omega
      · have et : ltYb y x = false := ltYb_false.2 hlt
        rw [et]
        have HFN : Hid (TpF hr 0 hr.length) := HST.out hlt
        clear et hlt
        go_wp2_with fail
        go_end0
        exact ⟨rfl, hr, HX3.out, HPM.out, HFN.out, HK3.out⟩
end Go.Proofs.Ytbmkgnlfccigpaa

namespace Go.Proofs.Ytbmkgnlfccigpaa
set_option maxRecDepth 100000
open Go.ChangeShapes Go.WideShapes Go.ChangeAt Go.RowKit

theorem own_preY {w : World} {base g n cap m : Nat} {e : TypeId} {size : Nat} {xs : List Value} (h : w.ownsRow base e size (.slice (some ⟨g, 0, none⟩) n cap) n xs) (hm : m ≤ n) : w.ownsRow base e size (.slice (some ⟨g, 0, none⟩) m cap) m (xs.take (m * size)) := by
  have hle : m * size ≤ n * size := Nat.mul_le_mul_right _ hm
  refine ⟨by rw [List.length_take, h.1]; omega, ?_⟩
  rcases h.2 with ⟨hv, _⟩ | ⟨g', cap', cur, hv, hg, hgg, hc, hm2, hcur, htk⟩
  · cases hv
  · injection hv with h1 _ h3
    injection h1 with h1
    injection h1 with h1
    subst h1 h3
    refine .inr ⟨g, cap, cur, rfl, hg, hgg, by omega, hm2, hcur, ?_⟩
    rw [← htk, List.take_take, Nat.min_eq_left hle]
end Go.Proofs.Ytbmkgnlfccigpaa

namespace Go.Proofs.Ytbmkgnlfccigpaa
set_option maxRecDepth 100000
open Go.ChangeShapes Go.WideShapes Go.ChangeAt Go.RowKit
attribute [local go_sem ↓] exec_append

theorem assertY (v : Value) (w : World) : (Instr.typeAssert (.iface 93 v) 20 93 false).run Try.prog w = .ok v w := by kernel_rfl
/-- The heap's row is another one. -/
theorem TX.store {w : World} {q : Nat} {v u : Value} {hs : List Tp} (hq : w.heap[q]? = some (.cells #[v] 95 (0, 0))) (ho : w.ownsRow (q - 1) 93 2 u hs.length (hs.flatMap encY)) : TX (w.setCell ⟨q, 0, none⟩ u) q hs :=
  ⟨u, box1_set hq, (Kept.box w q 0 u).own ho fun g hg => own_block ho hg hq (by decide)⟩

set_option maxHeartbeats 2000000 in
set_option maxRecDepth 100000 in
theorem yPush_any (q : Nat) (hs : List Tp) (x : Tp) (w : World) (h : TX w q hs) (hl : hs.length ≤ 5000) :
    Calls Try.prog 126 #[.pointer (some ⟨q, 0, none⟩), .iface 93 (.agg #[.int .i64 x.2, .int .i64 x.1])] w fun e w' => e = .returned (.tuple #[]) ∧ TX w' q (hs ++ [x]) ∧ TK q w w' := by
  obtain ⟨a, c, hq, ho, c0, hc, hm, hat⟩ := h.at
  have hql := h.lt
  unfold maxLen at hm
  have hbq : w.frozen? ⟨q, 0, none⟩ = false := box_frozen hq 0
  have hsz : (w.alloc (.cells #[.int .i64 x.2, .int .i64 x.1] 93)).drew.heap.size = w.heap.size + 1 := by simp
  obtain ⟨g, gc, w', hrun, hown, hgr, hli⟩ := run_append_newL kY (w := (w.alloc (.cells #[.int .i64 x.2, .int .i64 x.1] 93)).drew) 95 (q - 1) (.slice a hs.length c) hs ((ho.alloc _).drew) w.heap.size x #[.int .i64 x.2, .int .i64 x.1] rfl (0, 0) (heap_alloc_new w _) (by simp only [kY]; omega) (by unfold maxLen; omega) (by rw [hsz]; omega)
  obtain ⟨a1, a2, a3⟩ := appOk_of hrun
  unfold kY at a1 a2 a3 hown
  simp only at a1 a2 a3 hown
  have hrow : ∀ k, (Value.slice a hs.length c).ownBlock = some k → k ≠ q := fun k hk => own_block ho hk hq (by decide)
  have hq1 : (w.alloc (.cells #[.int .i64 x.2, .int .i64 x.1] 93)).drew.heap[q]? = some (.cells #[.slice a hs.length c] 95 (0, 0)) := ((below_alloc w _).block q hql).trans hq
  have hq2 : w'.heap[q]? = some (.cells #[.slice a hs.length c] 95 (0, 0)) := (hgr.block q (by rw [hsz]; omega) (fun e => hrow q e.symm rfl)).trans hq1
  have k0 : w'.cell? ⟨q, 0, none⟩ = some (.slice a hs.length c) := by rw [cell_of_row _ _ _ _ _ _ hq2]; rfl
  have k1 : w'.frozen? ⟨q, 0, none⟩ = false := box_frozen hq2 0
  have hll : (hs ++ [x]).length = hs.length + 1 := by simp
  have HF : Hid (TX (w'.setCell ⟨q, 0, none⟩ (.slice (some ⟨g, 0, none⟩) (hs.length + 1) gc)) q (hs ++ [x]) ∧ TK q w (w'.setCell ⟨q, 0, none⟩ (.slice (some ⟨g, 0, none⟩) (hs.length + 1) gc))) := by
    refine ⟨TX.store hq2 hown, hgr.os, hgr.tape, hgr.output, by rw [size_setCell]; have := hgr.size; rw [hsz] at this; omega, fun _ => ?_, fun _ k hk hne hr => ?_⟩
    · rw [rowB_at (box1_set hq2), rowB_at hq]
      rcases hli with e | e
      · exact .inl e.symm
      · exact .inr ⟨g, rfl, by rw [e, hsz]; omega⟩
    · rw [Below.heap_setCell _ _ _ _ (by exact hne)]
      rw [rowB_at hq] at hr
      exact (hgr.block k (by rw [hsz]; omega) fun e => hr e.symm).trans ((below_alloc w _).block k hk)
  clear hrun hli hown hgr hrow hq1 hq2 hat ho hq h hll hsz
  have ta := assertY
  go_enter Try.func126, Try.ntmps126
  go_wp2_with fail
  go_region
  go_end0
  exact ⟨rfl, HF.out.1, HF.out.2⟩

set_option maxHeartbeats 1000000 in
set_option maxRecDepth 100000 in
theorem yPop_any (q : Nat) (hs : List Tp) (x : Tp) (w : World) (h : TX w q (hs ++ [x])) :
    Calls Try.prog 125 #[.pointer (some ⟨q, 0, none⟩)] w fun e w' => e = .returned (.iface 93 (.agg #[.int .i64 x.2, .int .i64 x.1])) ∧ TX w' q hs ∧ TK q w w' := by
  obtain ⟨a, c, hq, ho, c0, hc, hm, hat⟩ := h.at
  have hql := h.lt
  have hll : (hs ++ [x]).length = hs.length + 1 := by simp
  obtain ⟨g, rfl, hqg, hqb, hgl, hcell⟩ := hat (by omega)
  obtain ⟨x1, x2⟩ := hcell hs.length x (by simp)
  rw [hll] at hq ho c0 hc
  unfold maxLen at hm
  have hbq : w.frozen? ⟨q, 0, none⟩ = false := box_frozen hq 0
  have hq1 : ∀ o, (w.alloc o).heap[q]? = some (.cells #[.slice (some ⟨g, 0, none⟩) (hs.length + 1) c] 95 (0, 0)) := fun o => ((below_alloc w o).block q hql).trans hq
  have k0 : ∀ o, (w.alloc o).cell? ⟨q, 0, none⟩ = some (.slice (some ⟨g, 0, none⟩) (hs.length + 1) c) := fun o => by rw [cell_of_row _ _ _ _ _ _ (hq1 o)]; rfl
  have k1 : ∀ o, (w.alloc o).frozen? ⟨q, 0, none⟩ = false := fun o => box_frozen (hq1 o) 0
  have ho2 : w.ownsRow (q - 1) 93 2 (.slice (some ⟨g, 0, none⟩) hs.length c) hs.length (hs.flatMap encY) := by
    have := own_preY ho (m := hs.length) (by omega)
    rw [flat_snoc] at this
    rwa [List.take_left' (flat_len encY_len hs)] at this
  have HF : Hid (∀ o, TX ((w.setCell ⟨q, 0, none⟩ (.slice (some ⟨g, 0, none⟩) hs.length c)).alloc o) q hs ∧ TK q w ((w.setCell ⟨q, 0, none⟩ (.slice (some ⟨g, 0, none⟩) hs.length c)).alloc o)) := fun o =>
    ⟨(TX.store hq ho2).below (below_alloc _ o), TK.trans (b := w.setCell ⟨q, 0, none⟩ (.slice (some ⟨g, 0, none⟩) hs.length c)) ⟨rfl, rfl, rfl, by rw [size_setCell]; exact Nat.le_refl _, fun _ => .inl (by rw [rowB_at (box1_set hq), rowB_at hq]; rfl), fun _ k _ hne _ => Below.heap_setCell _ _ _ _ (by exact hne)⟩ (TK.of (below_alloc _ o))⟩
  have i1 : IntKind.i64.wrap ((hs.length : Int) + 1 - 1) = (hs.length : Int) := by rw [Int.add_sub_cancel]; exact wrap_id64 (by omega) (by omega)
  have i2 : (0 : Int) ≤ (hs.length : Int) := by omega
  have i3 : (hs.length : Int) < (hs.length : Int) + 1 := by omega
  have i4 : hs.length ≤ c := by omega
  have i5 : (hs.length : Int) ≤ (c : Int) := by omega
  have hne : q ≠ w.heap.size := by omega
  clear ho2 hq1 hat hcell ho hq h hll hbq
  go_enter Try.func125, Try.ntmps125
  go_wp2_with fail
  go_ret
  exact ⟨rfl, (HF.out _).1, (HF.out _).2⟩

end Go.Proofs.Ytbmkgnlfccigpaa

namespace Go.Proofs.Ytbmkgnlfccigpaa
set_option maxRecDepth 100000
open Go.ChangeShapes Go.WideShapes Go.ChangeAt Go.RowKit

set_option maxHeartbeats 1000000 in
set_option maxRecDepth 100000 in
theorem yHeapPush_any (q : Nat) (hs : List Tp) (x : Tp) (w : World) (h : TX w q hs) (hl : hs.length ≤ 5000) (hp : TpF hs 0 hs.length) :
    Calls Try.prog 60 #[tpV q, .iface 93 (.agg #[.int .i64 x.2, .int .i64 x.1])] w fun e w' => e = .returned (.tuple #[]) ∧ UpY w q (hs ++ [x]) w' := by
  unfold tpV
  have H0 : Hid (TX w q hs) := h
  have mN := nilLenY q
  have mP := nilPushY q
  have HP0 : Hid (∀ X, TX X q hs → Calls Try.prog 126 #[.pointer (some ⟨q, 0, none⟩), .iface 93 (.agg #[.int .i64 x.2, .int .i64 x.1])] X fun e w' => e = .returned (.tuple #[]) ∧ TX w' q (hs ++ [x]) ∧ TK q X w') := fun X hX => yPush_any q hs x X hX hl
  have HU : Hid (∀ X, TX X q (hs ++ [x]) → Calls Try.prog 75 #[.iface 91 (.pointer (some ⟨q, 0, none⟩)), .int .i64 (hs.length : Nat)] X fun e w' => e = .returned (.tuple #[]) ∧ UpY X q (hs ++ [x]) w') := fun X hX => yUp_any q (hs ++ [x]) hs.length X hX (by simp) (by simp; omega) (by
    have := TpU.start (x := x) hp
    simpa using this)
  have HLN : Hid (∀ X, TX X q (hs ++ [x]) → Calls Try.prog 58 #[.pointer (some ⟨q, 0, none⟩)] X fun e w' => e = .returned (.int .i64 ((hs.length : Int) + 1)) ∧ w' = X) := fun X hX => by
    have := yLen_any q (hs ++ [x]) X hX
    simpa using this
  have a4 : IntKind.i64.wrap ((hs.length : Int) + 1 - 1) = (hs.length : Int) := by rw [Int.add_sub_cancel]; exact wrap_id64 (by omega) (by omega)
  clear h hp
  generalize hs ++ [x] = hn at *
  go_enter Try.func60, Try.ntmps60
  go_wp2_with fail
  refine (HP0.out _ H0.out).mono ?_
  rintro e w1 ⟨rfl, hx1, hk1⟩
  have HX1 : Hid (TX w1 q hn) := hx1
  have HK1 : Hid (TK q w w1) := hk1
  clear hx1 hk1 HP0 mP
  go_wp2_with fail
  refine (HLN.out _ HX1.out).mono ?_
  rintro e w2 ⟨rfl, rfl⟩
  go_wp2_with fail
  refine (HU.out _ HX1.out).mono ?_
  rintro e w3 ⟨rfl, hr, hx3, hp3, hf3, hk3⟩
  have HE : Hid (UpY w q hn w3) := ⟨hr, hx3, hp3, hf3, HK1.out.trans hk3⟩
  clear hx3 hp3 hf3 hk3
  go_wp2_with fail
  go_end0
  exact ⟨rfl, HE.out⟩

/-- What Pop answers and leaves. -/
def PopY (w : World) (q : Nat) (hs : List Tp) (e : Ending) (w' : World) : Prop := ∃ x hr, e = .returned (.iface 93 (.agg #[.int .i64 x.2, .int .i64 x.1])) ∧ TX w' q hr ∧ (x :: hr).Perm hs ∧ TpF hr 0 hr.length ∧ (∀ y ∈ hs, leY x y) ∧ TK q w w'
theorem TpF.take {hs : List Tp} {x : Tp} {n : Nat} (h : TpF (hs ++ [x]) 0 n) (hn : hs.length = n) : TpF hs 0 hs.length := fun k p u v k0 k1 k2 k3 hu hv =>
  h k p u v k0 (by omega) k2 k3 (by rw [List.getElem?_append_left (by omega)]; exact hu) (by rw [List.getElem?_append_left (by omega)]; exact hv)

set_option maxHeartbeats 1000000 in
set_option maxRecDepth 100000 in
theorem yHeapPop_any (q : Nat) (hs : List Tp) (w : World) (h : TX w q hs) (hl : hs.length ≤ 5000) (h0 : 0 < hs.length) (hp : TpF hs 0 hs.length) :
    Calls Try.prog 59 #[tpV q] w (PopY w q hs) := by
  unfold tpV
  have H0 : Hid (TX w q hs) := h
  have mN := nilLenY q
  have mP := nilPopY q
  have mS := nilSwapY q
  obtain ⟨n, hn⟩ : ∃ n, hs.length = n + 1 := ⟨hs.length - 1, by omega⟩
  obtain ⟨x, hx⟩ := getX h0
  obtain ⟨y, hy⟩ := getX (es := hs) (i := n) (by omega)
  have HLN : Hid (∀ X, TX X q hs → Calls Try.prog 58 #[.pointer (some ⟨q, 0, none⟩)] X fun e w' => e = .returned (.int .i64 ((n : Int) + 1)) ∧ w' = X) := fun X hX => by
    have := yLen_any q hs X hX
    rw [hn] at this
    simpa using this
  have HSW : Hid (∀ X, TX X q hs → Calls Try.prog 127 #[.pointer (some ⟨q, 0, none⟩), .int .i64 0, .int .i64 (n : Nat)] X fun e w' => e = .returned (.tuple #[]) ∧ TX w' q ((hs.set 0 y).set n x) ∧ TK q X w') := fun X hX => ySwap_any q hs 0 n x y X hX hx hy
  have hpm : ((hs.set 0 y).set n x).Perm hs := swapY_perm hx hy
  have hsn : ((hs.set 0 y).set n x)[n]? = some x := by rw [swapY_at hx hy, if_pos rfl]
  have hf1 : TpF ((hs.set 0 y).set n x) 1 n := fun k p u v k0 k1 k2 k3 hu hv => by
    rw [swapY_at hx hy, if_neg (by omega), if_neg (by omega)] at hu hv
    exact hp k p u v k0 (by omega) k2 (by omega) hu hv
  have HLO : Hid (∀ u ∈ hs, leY x u) := fun u hu => by
    obtain ⟨k, hk, rfl⟩ := List.getElem_of_mem hu
    exact hp.root (Nat.le_refl _) hx k _ hk (List.getElem?_eq_getElem hk)
  have HDN : Hid (∀ X, TX X q ((hs.set 0 y).set n x) → Calls Try.prog 74 #[.iface 91 (.pointer (some ⟨q, 0, none⟩)), .int .i64 0, .int .i64 (n : Nat)] X fun e w' => RetY e ∧ ∃ hr, TX w' q (hr ++ [x]) ∧ (x :: hr).Perm hs ∧ TpF hr 0 hr.length ∧ TK q X w') := fun X hX =>
    (yDown_any q ((hs.set 0 y).set n x) 0 n X hX (by rw [hpm.length_eq]; omega) (by rw [hpm.length_eq]; omega) (by omega) hf1).mono fun e w' he => by
      obtain ⟨hb, hr, hx2, hp2, hf2, hk2, hkk⟩ := he
      have hlen : hr.length = n + 1 := by rw [hp2.length_eq, hpm.length_eq, hn]
      have hlast : hr[n]? = some x := (hk2 n (Nat.le_refl _)).trans hsn
      have hsplit : hr = hr.take n ++ [x] := by
        have := take_snoc hlast
        rw [List.take_of_length_le (by omega)] at this
        exact this
      refine ⟨hb, hr.take n, by rw [← hsplit]; exact hx2, ?_, TpF.take (x := x) (n := n) (by rw [← hsplit]; exact hf2) (by rw [List.length_take]; omega), hkk⟩
      refine List.Perm.trans ?_ (hp2.trans hpm)
      exact (List.perm_append_singleton x (hr.take n)).symm.trans (by rw [← hsplit])
  have a4 : IntKind.i64.wrap ((n : Int) + 1 - 1) = (n : Int) := by rw [Int.add_sub_cancel]; exact wrap_id64 (by omega) (by omega)
  have HPF : Hid (∀ hr e w', e = .returned (.iface 93 (.agg #[.int .i64 x.2, .int .i64 x.1])) → TX w' q hr → (x :: hr).Perm hs → TpF hr 0 hr.length → TK q w w' → PopY w q hs e w') := fun hr e w' h1 h2 h3 h4 h5 => ⟨x, hr, h1, h2, h3, h4, HLO.out, h5⟩
  have hn5 : n ≤ 5000 := by omega
  clear h hp hpm hsn hf1 hn hx hy h0 HLO
  generalize PopY w q hs = P at *
  generalize (hs.set 0 y).set n x = h1 at *
  go_enter Try.func59, Try.ntmps59
  go_wp2_with fail
  refine (HLN.out _ H0.out).mono ?_
  rintro e w1 ⟨rfl, rfl⟩
  clear HLN
  go_wp2_with fail
  refine (HSW.out _ H0.out).mono ?_
  rintro e w2 ⟨rfl, hx2, hk2⟩
  have HX2 : Hid (TX w2 q h1) := hx2
  have HK2 : Hid (TK q w1 w2) := hk2
  clear hx2 hk2 HSW
  go_wp2_with fail
  refine (HDN.out _ HX2.out).mono ?_
  rintro e w3 ⟨⟨b, rfl⟩, hr, hx3, hp3, hf3, hk3⟩
  have HX3 : Hid (TX w3 q (hr ++ [x])) := hx3
  have HP3 : Hid ((x :: hr).Perm hs) := hp3
  have HF3 : Hid (TpF hr 0 hr.length) := hf3
  have HK3 : Hid (TK q w1 w3) := HK2.out.trans hk3
  clear hx3 hp3 hf3 hk3 HDN
  go_wp2_with fail
  refine (yPop_any q hr x _ HX3.out).mono ?_
  rintro e w4 ⟨rfl, hx4, hk4⟩
  have HE : Hid (P (.returned (.iface 93 (.agg #[.int .i64 x.2, .int .i64 x.1]))) w4) := HPF.out hr _ _ rfl hx4 HP3.out HF3.out (HK3.out.trans hk4)
  clear hx4 hk4
  go_wp2_with fail
  exact HE.out
end Go.Proofs.Ytbmkgnlfccigpaa

namespace Go.Proofs.Ytbmkgnlfccigpaa
set_option maxRecDepth 100000
open Go.ChangeShapes Go.WideShapes Go.ChangeAt Go.RowKit

/-- What sums answers: the distances, in a list of its own. -/
def SumP (n : Nat) (es : List Ed) (s : Int) (w : World) (e : Ending) (w' : World) : Prop := ∃ v' l, e = .returned v' ∧ DistL n es s l ∧ w'.ownsRow w.heap.size 3 1 v' n (l.flatMap encI) ∧ Below w.heap.size w w'
/-- A sum that does not wrap. -/
def smallT (x : Tp) : Prop := 0 ≤ x.1 ∧ x.1 ≤ 221001837182976
/-- What holds ahead of each round: the heap, the numbers, how much is left. -/
structure SumI (n : Nat) (es : List Ed) (s : Int) (w : World) (q : Nat) (X : World) (hs : List Tp) (l : List Int) (v : Int) (rest : List Ed) : Prop where
  tx : TX X q hs
  hp : TpF hs 0 hs.length
  pl : PlM n es s l hs v rest
  sm : ∀ x ∈ hs, smallT x
  own : X.ownsRow w.heap.size 3 1 (.slice (some ⟨w.heap.size, 0, none⟩) n n) n (l.flatMap encI)
  bel : Below w.heap.size w X
theorem atD_get {l : List Int} {n : Nat} {v : Int} (hl : l.length = n) (hv : 0 ≤ v ∧ v < (n : Int)) : l[v.toNat]? = some (atD l v) := by
  have h : v.toNat < l.length := by omega
  unfold atD
  rw [List.getD_eq_getElem?_getD, List.getElem?_eq_getElem h]
  rfl
theorem own_newY (w : World) (x : Tp) : (w.alloc (.cells #[.int .i64 x.2, .int .i64 x.1] 93)).ownsRow w.heap.size 93 2 (.slice (some ⟨w.heap.size, 0, none⟩) 1 1) 1 ([x].flatMap encY) := by
  refine ⟨rfl, .inr ⟨w.heap.size, 1, #[.int .i64 x.2, .int .i64 x.1], rfl, Nat.le_refl _, heap_alloc_new w _, Nat.le_refl _, by simp [maxLen], rfl, rfl⟩⟩
theorem TX.kept {S : Nat → Prop} {w w' : World} {q : Nat} {hs : List Tp} (h : TX w q hs) (hk : Kept S w w') (h1 : ¬ S q) (h2 : ∀ g, q - 1 ≤ g → ¬ S g) : TX w' q hs ∧ rowB w' q = rowB w q := by
  have hl := h.lt
  obtain ⟨v, hq, ho⟩ := h
  have hb := hk.block q hl h1
  exact ⟨⟨v, by rw [hb]; exact hq, hk.own ho fun g hg => h2 g (ho.lt g hg).1⟩, rowB_same hb⟩

set_option maxHeartbeats 4000000 in
set_option maxRecDepth 100000 in
theorem sums_any (v : Value) (es : List Ed) (n sv : Nat) (w : World) (h : LsR w v (tblF n es)) (hg : InG n es) (hw : ∀ e ∈ es, e.2.2 ≤ 1099511627776) (hn : n ≤ 200) (hl : es.length ≤ 600) (hs : sv < n) :
    Calls Try.prog 39 #[v, .int .i64 sv] w (SumP n es sv w) := by
  have HR : Hid (LsR w v (tblF n es)) := h
  have HG : Hid (InG n es) := hg
  have HW : Hid (∀ e ∈ es, e.2.2 ≤ 1099511627776) := hw
  have htl : (tblF n es).length = n := by simp [tblF]
  obtain ⟨b, off, cap, rfl, hbl, hcp, hcm, _⟩ := h.at (by omega)
  rw [htl] at HR hcp ⊢
  unfold maxLen at hcm
  have HNO : Hid (∀ X, Calls Try.prog 57 #[.int .i64 (n : Int)] X fun e w' => e = .returned (.slice (some ⟨X.heap.size, 0, none⟩) n n) ∧ w'.ownsRow X.heap.size 3 1 (.slice (some ⟨X.heap.size, 0, none⟩) n n) n ((List.replicate n (-1 : Int)).flatMap encI) ∧ Below X.heap.size X w') := fun X => nones_any n X hn
  have HP : Hid (∀ (w' : World) l, DistL n es sv l → w'.ownsRow w.heap.size 3 1 (.slice (some ⟨w.heap.size, 0, none⟩) n n) n (l.flatMap encI) → Below w.heap.size w w' → SumP n es sv w (.returned (.slice (some ⟨w.heap.size, 0, none⟩) n n)) w') := fun w' l h1 h2 h3 => ⟨_, l, rfl, h1, h2, h3⟩
  generalize SumP n es sv w = P at *
  clear h hg hw htl
  go_enter Try.func39, Try.ntmps39
  go_wp2_with fail
  refine (HNO.out _).mono ?_
  rintro e w1 ⟨rfl, ho1, hb1⟩
  have O1 : Hid (w1.ownsRow w.heap.size 3 1 (.slice (some ⟨w.heap.size, 0, none⟩) n n) n ((List.replicate n (-1 : Int)).flatMap encI)) := ho1
  have B1 : Hid (Below w.heap.size w w1) := hb1
  have hs1 : w.heap.size < w1.heap.size := (ho1.lt _ rfl).2
  clear ho1 hb1 HNO
  go_wp2_with fail
  go_loopg [] 601 (fun gk wr => ∃ (hs : List Tp) (l : List Int), hs.length + opn es (hasN l) ≤ gk ∧ gk ≤ 601 ∧ SumI n es sv w (w1.heap.size + 1) wr hs l 0 [])
  case atStart =>
    refine ⟨[(0, (sv : Int))], List.replicate n (-1), ?_, Nat.le_refl _, ?_⟩
    · have : opn es (hasN (List.replicate n (-1))) ≤ es.length := List.length_filter_le _ _
      simp only [List.length_singleton]
      omega
    · have hq0 : ((w1.alloc (.cells #[.int .i64 (sv : Int), .int .i64 0] 93)).alloc (.cells #[.slice (some ⟨w1.heap.size, 0, none⟩) 1 1] 95)).heap[w1.heap.size + 1]? = some (.cells #[.slice (some ⟨w1.heap.size, 0, none⟩) 1 1] 95 (0, 0)) := heap_second _ _ _ _
      have hB2 : Below w1.heap.size w1 ((w1.alloc (.cells #[.int .i64 (sv : Int), .int .i64 0] 93)).alloc (.cells #[.slice (some ⟨w1.heap.size, 0, none⟩) 1 1] 95)) := (below_alloc w1 _).alloc (by simp) _
      refine ⟨⟨_, hq0, ?_⟩, fun k p x y k0 k1 => ?_, PlM.start (by omega) 0, fun x hx => ?_, own_below O1.out hB2 (Nat.le_refl _), B1.out.trans (hB2.mono (by omega))⟩
      · have hr := own_newY w1 (0, (sv : Int))
        exact (own_below hr (below_alloc _ _) (Nat.le_refl _))
      · simp at k1; omega
      · have e : x = (0, (sv : Int)) := by simpa using hx
        subst e
        exact ⟨Int.le_refl _, by simp only; omega⟩
  case round =>
    obtain ⟨hs, l, hgk, hg6, hI⟩ := hrel
    have HI : Hid (SumI n es sv w (w1.heap.size + 1) wr hs l 0 []) := hI
    have HLN : Hid (∀ X, TX X (w1.heap.size + 1) hs → Calls Try.prog 58 #[.pointer (some ⟨w1.heap.size + 1, 0, none⟩)] X fun e w' => e = .returned (.int .i64 hs.length) ∧ w' = X) := fun X hX => yLen_any _ hs X hX
    clear hI
    go_wp2_with fail
    refine (HLN.out _ HI.out.tx).mono ?_
    rintro e wx ⟨rfl, hwx⟩
    replace hwx := hwx.symm
    subst hwx
    clear HLN
    by_cases hz : 0 < hs.length
    · have z1 : (hs.length : Int) > 0 := by omega
      have HPO : Hid (∀ X, TX X (w1.heap.size + 1) hs → Calls Try.prog 59 #[.iface 91 (.pointer (some ⟨w1.heap.size + 1, 0, none⟩))] X (PopY X (w1.heap.size + 1) hs)) := fun X hX => yHeapPop_any (w1.heap.size + 1) hs X hX (by omega) hz HI.out.hp
      have ta := assertY
      go_wp2_with fail
      refine (HPO.out _ HI.out.tx).mono ?_
      rintro e w3 ⟨⟨d, a⟩, hr, rfl, hx3, hp3, hf3, hle3, hk3⟩
      have hxi := (HI.out.pl.inn (d, a) (hp3.subset (by simp))).1
      have hxs := HI.out.sm (d, a) (hp3.subset (by simp))
      simp only at hxi hxs
      obtain ⟨j, rfl⟩ : ∃ j : Nat, a = j := ⟨a.toNat, by omega⟩
      have hjn : j < n := by omega
      have hd0 : 0 ≤ d := hxs.1
      have hlr := hp3.length_eq
      simp only [List.length_cons] at hlr
      have hlr1 : hr.length + 1 ≤ hs.length := by omega
      have PL3 : Hid (PlM n es sv l ((d, (j : Int)) :: hr) 0 []) := HI.out.pl.perm fun y => ⟨fun h => hp3.symm.subset h, fun h => hp3.subset h⟩
      have HM3 : Hid (∀ y ∈ hr, d ≤ y.1) := fun y hy => by
        have := hle3 y (hp3.subset (by simp [hy]))
        unfold leY ltY at this
        simp only at this
        omega
      have SM3 : Hid (∀ y ∈ hr, smallT y) := fun y hy => HI.out.sm y (hp3.subset (by simp [hy]))
      have B3' : Below w.heap.size w w3 := HI.out.bel.trans ((hk3.below HI.out.tx).mono (by omega))
      have O3' : w3.ownsRow w.heap.size 3 1 (.slice (some ⟨w.heap.size, 0, none⟩) n n) n (l.flatMap encI) := hk3.own HI.out.tx HI.out.own (by decide) (by decide)
      have W4 : Hid (TX (w3.alloc (.cells #[.int .i64 (j : Int), .int .i64 d] 93)) (w1.heap.size + 1) hr ∧ (w3.alloc (.cells #[.int .i64 (j : Int), .int .i64 d] 93)).ownsRow w.heap.size 3 1 (.slice (some ⟨w.heap.size, 0, none⟩) n n) n (l.flatMap encI) ∧ Below w.heap.size w (w3.alloc (.cells #[.int .i64 (j : Int), .int .i64 d] 93)) ∧ BX 93 (w3.alloc (.cells #[.int .i64 (j : Int), .int .i64 d] 93)) w3.heap.size #[.int .i64 (j : Int), .int .i64 d] ∧ rowB (w3.alloc (.cells #[.int .i64 (j : Int), .int .i64 d] 93)) (w1.heap.size + 1) ≠ some w3.heap.size ∧ w1.heap.size + 1 < w3.heap.size) := by
        refine ⟨hx3.below (below_alloc _ _), own_below O3' (below_alloc _ _) (Nat.le_refl _), B3'.trans ((below_alloc _ _).mono B3'.size), BX.new _ _ _, ?_, hx3.lt⟩
        rw [rowB_same ((below_alloc w3 _).block _ hx3.lt)]
        intro e
        have := (hx3.row e).2.1
        omega
      have HF3 : Hid (TpF hr 0 hr.length) := hf3
      have hlat := atD_get HI.out.pl.len (v := (j : Int)) (by omega)
      rw [Int.toNat_natCast] at hlat
      have HAT : Hid (l[j]? = some (atD l (j : Int))) := hlat
      have HLL : Hid (l.length = n) := HI.out.pl.len
      clear hx3 hp3 hf3 hle3 hk3 hxi hxs hlr B3' O3' hlat HPO
      go_upto_region 5 with fail
      generalize w3.alloc (.cells #[.int .i64 (j : Int), .int .i64 d] 93) = w4 at *
      generalize w3.heap.size = b7 at *
      obtain ⟨tx4, ow4, be4, bx4, rb4, hb7⟩ := W4.out
      have c4 := own_atN ow4 HAT.out
      obtain ⟨k0, k1, _⟩ := bx4.all2
      have f4 := frozenK ow4 j
      have p0 : (0 : Int) ≤ (j : Int) := by omega
      have p1 : (j : Int) < (n : Int) := by omega
      have TX4 : Hid (TX w4 (w1.heap.size + 1) hr) := tx4
      have OW4 : Hid (w4.ownsRow w.heap.size 3 1 (.slice (some ⟨w.heap.size, 0, none⟩) n n) n (l.flatMap encI)) := ow4
      have BE4 : Hid (Below w.heap.size w w4) := be4
      have BX4 : Hid (BX 93 w4 b7 #[.int .i64 (j : Int), .int .i64 d]) := bx4
      have RB4 : Hid (rowB w4 (w1.heap.size + 1) ≠ some b7) := rb4
      clear tx4 ow4 be4 bx4 rb4 W4
      by_cases hv : atD l (j : Int) = -1
      · rw [hv] at c4
        have t0 : ((-1 : Int) != (-1 : Int)) = false := by decide
        have HVV : Hid (atD l (j : Int) = -1) := hv
        have W5 : Hid (TX (w4.setCell ⟨w.heap.size, j, none⟩ (.int .i64 d)) (w1.heap.size + 1) hr ∧ (w4.setCell ⟨w.heap.size, j, none⟩ (.int .i64 d)).ownsRow w.heap.size 3 1 (.slice (some ⟨w.heap.size, 0, none⟩) n n) n ((l.set j d).flatMap encI) ∧ Below w.heap.size w (w4.setCell ⟨w.heap.size, j, none⟩ (.int .i64 d)) ∧ BX 93 (w4.setCell ⟨w.heap.size, j, none⟩ (.int .i64 d)) b7 #[.int .i64 (j : Int), .int .i64 d] ∧ rowB (w4.setCell ⟨w.heap.size, j, none⟩ (.int .i64 d)) (w1.heap.size + 1) ≠ some b7) := by
          obtain ⟨e1, e2⟩ := TX4.out.kept (Kept.box w4 w.heap.size j (.int .i64 d)) (by omega) (fun g hg => by omega)
          exact ⟨e1, own_setN OW4.out, BE4.out.setCell (Nat.le_refl _) _, BX4.out.other (by omega), by rw [e2]; exact RB4.out⟩
        clear hv
        go_upto_region 7 with fail
        generalize w4.setCell ⟨w.heap.size, j, none⟩ (.int .i64 d) = w5 at *
        obtain ⟨tx5, ow5, be5, bx5, rb5⟩ := W5.out
        clear k0 k1 f4 c4
        obtain ⟨k0, k1, _⟩ := bx5.all2
        obtain ⟨b', off', cap', e1, lt', _, _, hv'⟩ := HR.out.at (by simp [tblF]; omega)
        injection e1 with e1 e2 e3
        clear e2
        injection e1 with e1
        injection e1 with e1 e1'
        subst e1 e1' e3
        obtain ⟨u, hu, hpr⟩ := hv' j _ (tblF_at hjn)
        have hu5 := (be5.cell (p := ⟨b, off + j, none⟩) lt').trans hu
        have HPW : Hid (HpR w u (hopsL es (j : Int))) := hpr
        obtain ⟨ua, uc, rfl⟩ := hpr.shape
        have hul : (hopsL es (j : Int)).length ≤ uc ∧ uc ≤ 2 ^ 63 - 1 := by
          obtain ⟨_, _, e, h1, h2, _⟩ := hpr
          injection e with _ _ e
          subst e
          exact ⟨h1, h2⟩
        have hol := outs_len es (j : Int)
        have hos := opn_set HG.out HLL.out (v := (j : Int)) (d := d) (by omega) HVV.out hd0
        rw [Int.toNat_natCast] at hos
        have hHl : (hopsL es (j : Int)).length ≤ 600 := by have := hops_len es (j : Int); omega
        have hos2 : opn es (hasN (l.set j d)) + (hopsL es (j : Int)).length ≤ opn es (hasN l) := by omega
        have HHA : Hid (∀ k x, (hopsL es (j : Int))[k]? = some x → ∃ e, x = (e.2.1, e.2.2) ∧ e ∈ es ∧ e.1 = (j : Int) ∧ (outs es (j : Int)).drop k = e :: (outs es (j : Int)).drop (k + 1)) := fun k x hx => hop_at hx
        have hdl := PL3.out.least HG.out (by omega) HM3.out HVV.out
        have hdm := dst_most HG.out (M := 1099511627776) (by omega) HW.out (by omega) hdl.2
        have hdm2 : d ≤ 219902325555200 := by
          have : (n : Int) * 1099511627776 ≤ 200 * 1099511627776 := Int.mul_le_mul_of_nonneg_right (by omega) (by omega)
          omega
        have PL5 : Hid (PlM n es sv (l.set j d) hr (j : Int) ((outs es (j : Int)).drop 0)) := by
          have := PL3.out.take HG.out (by omega) HM3.out HVV.out (rest := outs es (j : Int)) (fun e he hv => outs_mem.2 ⟨he, hv⟩)
          rw [Int.toNat_natCast] at this
          exact this
        have HAD : Hid (atD (l.set j d) (j : Int) = d) := by
          have := atD_set (i := (j : Int)) (v := (j : Int)) (x := d) HLL.out (by omega) (by omega)
          rw [Int.toNat_natCast, if_pos rfl] at this
          exact this
        have I5 : Hid (SumI n es sv w (w1.heap.size + 1) w5 hr (l.set j d) (j : Int) ((outs es (j : Int)).drop 0)) := ⟨tx5, HF3.out, PL5.out, SM3.out, ow5, be5⟩
        have BX5 : Hid (BX 93 w5 b7 #[.int .i64 (j : Int), .int .i64 d]) := bx5
        have RB5 : Hid (rowB w5 (w1.heap.size + 1) ≠ some b7) := rb5
        have HDE : Hid ((outs es (j : Int)).drop (hopsL es (j : Int)).length = []) := by
          show _ = _
          rw [← hol]; exact List.drop_length
        clear tx5 ow5 be5 bx5 rb5 W5 hv' hpr hu hol hos hdl hdm PL5
        generalize hopsL es (j : Int) = H at *
        generalize l.set j d = l2 at *
        go_wp2_with fail
        go_loopw [42] (fun i wr => ∃ (k : Nat) (pool : List Tp), k ≤ H.length ∧ i = .int .i64 k ∧ pool.length ≤ hr.length + k ∧ SumI n es sv w (w1.heap.size + 1) wr pool l2 (j : Int) ((outs es (j : Int)).drop k) ∧ BX 93 wr b7 #[.int .i64 (j : Int), .int .i64 d] ∧ rowB wr (w1.heap.size + 1) ≠ some b7) (fun i _ => H.length - (intOf i).toNat)
        case atStart => exact ⟨0, hr, by omega, rfl, by omega, I5.out, BX5.out, RB5.out⟩
        case round =>
          obtain ⟨k, pool, hk, rfl, hpl, hI, hbx, hrb⟩ := hrel
          have J1 : Hid (SumI n es sv w (w1.heap.size + 1) wr pool l2 (j : Int) ((outs es (j : Int)).drop k)) := hI
          have J2 : Hid (BX 93 wr b7 #[.int .i64 (j : Int), .int .i64 d]) := hbx
          have J3 : Hid (rowB wr (w1.heap.size + 1) ≠ some b7) := hrb
          clear hI hbx hrb k0 k1 hu5
          by_cases hlt : k < H.length
          · obtain ⟨x, hx⟩ := getX hlt
            obtain ⟨e, rfl, hem, hev, hdr⟩ := HHA.out k x hx
            have HDR : Hid ((outs es (j : Int)).drop k = e :: (outs es (j : Int)).drop (k + 1)) := hdr
            have HEM : Hid (e ∈ es ∧ e.1 = (j : Int)) := ⟨hem, hev⟩
            have hwb := HW.out e hem
            have hgi := HG.out e hem
            obtain ⟨ub, uo, uc', e1, _, _, hub, huv⟩ := HpR.at HPW.out (by omega)
            injection e1 with e1 e2 e3
            clear e2
            subst e1 e3
            obtain ⟨d1, d2⟩ := huv k _ hx
            have d1' := (J1.out.bel.cell (p := ⟨ub, uo + k * 2, none⟩) hub).trans d1
            have d2' := (J1.out.bel.cell (p := ⟨ub, uo + k * 2 + 1, none⟩) hub).trans d2
            obtain ⟨ef, et, ew⟩ := e
            simp only at hwb hgi d1' d2'
            have q0 : (0 : Int) ≤ (k : Int) := by omega
            have q1 : (k : Int) < (H.length : Int) := by omega
            have wd : IntKind.i64.wrap (d + ew) = d + ew := wrap_id64 (by omega) (by omega)
            have W6 : Hid (SumI n es sv w (w1.heap.size + 1) (wr.alloc (.cells #[.int .i64 et, .int .i64 ew] 100)) pool l2 (j : Int) ((outs es (j : Int)).drop k) ∧ BX 93 (wr.alloc (.cells #[.int .i64 et, .int .i64 ew] 100)) b7 #[.int .i64 (j : Int), .int .i64 d] ∧ rowB (wr.alloc (.cells #[.int .i64 et, .int .i64 ew] 100)) (w1.heap.size + 1) ≠ some b7 ∧ BX 100 (wr.alloc (.cells #[.int .i64 et, .int .i64 ew] 100)) wr.heap.size #[.int .i64 et, .int .i64 ew]) := by
              have t6 := J1.out.tx
              refine ⟨⟨t6.below (below_alloc _ _), J1.out.hp, J1.out.pl, J1.out.sm, own_below J1.out.own (below_alloc _ _) (Nat.le_refl _), J1.out.bel.trans ((below_alloc _ _).mono J1.out.bel.size)⟩, J2.out.below (below_alloc _ _) J2.out.lt, ?_, BX.new _ _ _⟩
              rw [rowB_same ((below_alloc wr _).block _ t6.lt)]
              exact J3.out
            have hHx : H.length ≤ 600 := hHl
            have HPU : Hid (∀ X, TX X (w1.heap.size + 1) pool → TpF pool 0 pool.length → Calls Try.prog 60 #[.iface 91 (.pointer (some ⟨w1.heap.size + 1, 0, none⟩)), .iface 93 (.agg #[.int .i64 et, .int .i64 (d + ew)])] X fun e w' => e = .returned (.tuple #[]) ∧ UpY X (w1.heap.size + 1) (pool ++ [(d + ew, et)]) w') := fun X hX hp => yHeapPush_any (w1.heap.size + 1) pool (d + ew, et) X hX (by omega) hp
            clear hx hem hev hdr huv d1 d2
            go_upto_region 10 with fail
            generalize wr.alloc (.cells #[.int .i64 et, .int .i64 ew] 100) = w6 at *
            generalize wr.heap.size = b9 at *
            obtain ⟨i6, bx6, rb6, by6⟩ := W6.out
            obtain ⟨k0, k1, _⟩ := bx6.all2
            obtain ⟨y0, y1, _⟩ := by6.all2
            have I6 : Hid (SumI n es sv w (w1.heap.size + 1) w6 pool l2 (j : Int) ((outs es (j : Int)).drop k)) := i6
            have BX6 : Hid (BX 93 w6 b7 #[.int .i64 (j : Int), .int .i64 d]) := bx6
            have RB6 : Hid (rowB w6 (w1.heap.size + 1) ≠ some b7) := rb6
            clear i6 bx6 rb6 by6 W6 d1' d2'
            go_wp2_with fail
            refine (HPU.out _ I6.out.tx I6.out.hp).mono ?_
            rintro e w7 ⟨rfl, hn7, hx7, hp7, hf7, hk7⟩
            have hl7 := hp7.length_eq
            simp only [List.length_append, List.length_singleton] at hl7
            have hl8 : hn7.length ≤ hr.length + (k + 1) := by omega
            have BX7 : Hid (BX 93 w7 b7 #[.int .i64 (j : Int), .int .i64 d]) := (hk7.block I6.out.tx.lt b7 BX6.out.lt (by omega) RB6.out).trans BX6.out
            have RB7 : Hid (rowB w7 (w1.heap.size + 1) ≠ some b7) := hk7.apart I6.out.tx.lt BX6.out.lt RB6.out
            have I7 : Hid (SumI n es sv w (w1.heap.size + 1) w7 hn7 l2 (j : Int) ((outs es (j : Int)).drop (k + 1))) := by
              refine ⟨hx7, hf7, ?_, fun y hy => ?_, hk7.own I6.out.tx I6.out.own (by decide) (by decide), I6.out.bel.trans ((hk7.below I6.out.tx).mono (by omega))⟩
              · have h1 := I6.out.pl
                rw [HDR.out] at h1
                have h2 := h1.push HG.out HEM.out.1 HEM.out.2 HAD.out hd0
                refine h2.perm fun y => ⟨fun h => hp7.symm.subset ?_, fun h => ?_⟩
                · rcases List.mem_cons.1 h with h | h
                  · simp [h]
                  · simp [h]
                · rcases List.mem_append.1 (hp7.subset h) with h | h
                  · simp [h]
                  · simp at h; simp [h]
              · rcases List.mem_append.1 (hp7.subset hy) with h | h
                · exact I6.out.sm y h
                · simp at h
                  subst h
                  exact ⟨by simp only; omega, by simp only; omega⟩
            clear hx7 hp7 hf7 hk7 hl7 HPU k0 k1 y0 y1 wd
            go_wp2_with fail
            go_roundw
            case rel => exact ⟨k + 1, hn7, by omega, by go_num, hl8, I7.out, BX7.out, RB7.out⟩
            case measure => simp [intOf]; omega
          · have ek : k = H.length := by omega
            have IE : Hid (SumI n es sv w (w1.heap.size + 1) wr pool l2 0 []) := ⟨J1.out.tx, J1.out.hp, by
              have := J1.out.pl
              rw [ek, HDE.out] at this
              exact this.any, J1.out.sm, J1.out.own, J1.out.bel⟩
            clear ek
            go_wp2_with fail
            go_roundg (pool.length + opn es (hasN l2))
            case measure => omega
            case rel => exact ⟨pool, l2, Nat.le_refl _, by omega, IE.out⟩
      · have t0 : (atD l (j : Int) != -1) = true := by simpa using hv
        have IN : Hid (SumI n es sv w (w1.heap.size + 1) w4 hr l 0 []) := ⟨TX4.out, HF3.out, PL3.out.skip (by
          rcases HI.out.pl.dst (j : Int) (by omega) with g | g
          · exact absurd g hv
          · exact g.1), SM3.out, OW4.out, BE4.out⟩
        clear hv
        generalize atD l (j : Int) = y at *
        go_wp2_with fail
        go_roundg (hr.length + opn es (hasN l))
        case measure => omega
        case rel => exact ⟨hr, l, Nat.le_refl _, by omega, IN.out⟩
    · have z1 : ¬ (hs.length : Int) > 0 := by omega
      have e0 : hs = [] := List.eq_nil_of_length_eq_zero (by omega)
      have HD : Hid (DistL n es sv l) := by
        have := HI.out.pl
        rw [e0] at this
        exact this.done HG.out (by omega)
      clear e0
      go_wp2_with fail
      exact HP.out _ l HD.out HI.out.own HI.out.bel
end Go.Proofs.Ytbmkgnlfccigpaa

namespace Go.Proofs.Ytbmkgnlfccigpaa
set_option maxRecDepth 100000
open Go.ChangeShapes Go.WideShapes Go.ChangeAt Go.RowKit
attribute [local go_sem ↓] exec_append

set_option maxHeartbeats 2000000 in
set_option maxRecDepth 100000 in
theorem pHopsOf_any (v : Value) (es : List Ed) (n : Nat) (w : World) (h : EdR w v es) (hn : n ≤ 200) (hl : es.length ≤ 600) (hin : ∀ e ∈ es, 0 ≤ e.1 ∧ e.1 < (n : Int)) :
    Calls Try.prog 40 #[.agg #[.int .i64 n, v]] w fun e w' => ∃ v', e = .returned v' ∧ OwnLs w' w.heap.size v' (tblF n es) ∧ Below w.heap.size w w' := by
  have HR : Hid (EdR w v es) := h
  have HI : Hid (∀ e ∈ es, 0 ≤ e.1 ∧ e.1 < (n : Int)) := hin
  obtain ⟨a, cap, rfl, _, hm, _⟩ := h
  unfold maxLen at hm
  clear hin
  have B0 : Hid (Below w.heap.size w (w.alloc (.cells #[.int .i64 n, .slice a es.length cap] 24)) ∧ (w.alloc (.cells #[.int .i64 n, .slice a es.length cap] 24)).heap[w.heap.size]? = some (.cells #[.int .i64 n, .slice a es.length cap] 24 (0, 0))) := ⟨below_alloc _ _, heap_alloc_new w _⟩
  go_enter Try.func40, Try.ntmps40
  go_upto_region 1 with fail
  generalize w.alloc (.cells #[.int .i64 n, .slice a es.length cap] 24) = w0 at *
  obtain ⟨hb0, hx0⟩ := B0.out
  have c0 : w0.cell? ⟨w.heap.size, 0, none⟩ = some (.int .i64 n) := by rw [cell_of_row _ _ _ _ _ _ hx0]; rfl
  have hlt0 := (Array.getElem?_eq_some_iff.1 hx0).1
  obtain ⟨w1, hmk, htb, hb1⟩ := make_tbl w0 n (by omega)
  have c1 : w1.cell? ⟨w.heap.size, 1, none⟩ = some (.slice a es.length cap) := by rw [(hb1.cell (p := ⟨w.heap.size, 1, none⟩) hlt0), cell_of_row _ _ _ _ _ _ hx0]; rfl
  have hs0 := hb0.size
  have HB1 : Hid (Below w.heap.size w w1) := hb0.trans (hb1.mono hs0)
  have TB : Hid (Tbl w1 w0.heap.size w0.heap.size n (List.replicate n (.slice none 0 0)) (tblF n [])) := by
    show Tbl _ _ _ _ _ _
    rw [tblF_nil]; exact htb
  have hs1 := HB1.out.size
  clear hb0 hx0 htb hb1 B0
  go_wp2_with fail
  generalize w0.heap.size = G at *
  have hs3 : G < w1.heap.size := by
    have := TB.out.row.lt G rfl
    exact this.2
  go_loopw [12] (fun i wr => ∃ (k : Nat) (vs : List Value), k ≤ es.length ∧ i = .int .i64 k ∧ Tbl wr G G n vs (tblF n (es.take k)) ∧ Below w.heap.size w wr ∧ w1.heap.size ≤ wr.heap.size) (fun i _ => es.length - (intOf i).toNat)
  case atStart => exact ⟨0, _, by omega, rfl, TB.out, HB1.out, Nat.le_refl _⟩
  case round =>
    obtain ⟨k, vs, hk, rfl, htb, hbel, hsw⟩ := hrel
    have TR : Hid (Tbl wr G G n vs (tblF n (es.take k))) := htb
    have HB : Hid (Below w.heap.size w wr) := hbel
    have hsr := hbel.size
    clear htb hbel TB HB1 c0 c1 hmk
    by_cases hlt : k < es.length
    · obtain ⟨b, off, cap', e1, _, _, lt, hv⟩ := EdR.at (HR.out.below HB.out (Nat.le_refl _)) (by omega)
      injection e1 with e1 _ e3
      subst e1 e3
      obtain ⟨x, hx⟩ := getE hlt
      obtain ⟨d1, d2, d3⟩ := hv k x hx
      have hxi := HI.out x (List.mem_of_getElem? hx)
      obtain ⟨j, hj⟩ : ∃ j : Nat, x.1 = j := ⟨x.1.toNat, by omega⟩
      have hjn : j < n := by omega
      have HT : Hid (tblF n (es.take (k + 1)) = (tblF n (es.take k)).set j (hopsL (es.take k) (j : Int) ++ [(x.2.1, x.2.2)])) := tblF_step hx hj hjn
      obtain ⟨u, hu⟩ := getX (show j < vs.length by rw [TR.out.lv]; exact hjn)
      have hfl := tblF_at (es := es.take k) hjn
      have hel := TR.out.el j u _ hu hfl
      obtain ⟨ua, un, uc, rfl⟩ : ∃ a n c, u = .slice a n c := by obtain ⟨a, c, e, _⟩ := RowK.own encH_len hel; exact ⟨_, _, _, e⟩
      have hll : (hopsL (es.take k) (j : Int)).length ≤ 600 := by have := hops_len (es.take k) (j : Int); simp at this; omega
      obtain ⟨x1, x2, x3⟩ := x
      simp only at *
      subst hj
      have p0 : (0 : Int) ≤ (k : Int) := by omega
      have p1 : (k : Int) < (es.length : Int) := by omega
      have q0 : (0 : Int) ≤ (j : Int) := by omega
      have q1 : (j : Int) < (n : Int) := by omega
      have HU : Hid (vs[j]? = some (.slice ua un uc)) := hu
      have HFL : Hid ((tblF n (es.take k))[j]? = some (hopsL (es.take k) (j : Int))) := hfl
      clear hv hx hfl hu hel
      generalize hopsL (es.take k) (j : Int) = f at *
      go_upto_region 5 with fail
      have W1 : Hid (Tbl (wr.alloc (.cells #[.int .i64 (j : Int), .int .i64 x2, .int .i64 x3] 65)) G G n vs (tblF n (es.take k)) ∧ Below w.heap.size w (wr.alloc (.cells #[.int .i64 (j : Int), .int .i64 x2, .int .i64 x3] 65)) ∧ (wr.alloc (.cells #[.int .i64 (j : Int), .int .i64 x2, .int .i64 x3] 65)).heap[wr.heap.size]? = some (.cells #[.int .i64 (j : Int), .int .i64 x2, .int .i64 x3] 65 (0, 0)) ∧ w1.heap.size ≤ (wr.alloc (.cells #[.int .i64 (j : Int), .int .i64 x2, .int .i64 x3] 65)).heap.size) := ⟨TR.out.kept ((Kept.refl _ _).alloc _), HB.out.alloc hsr _, heap_alloc_new wr _, by simp; omega⟩
      generalize wr.alloc (.cells #[.int .i64 (j : Int), .int .i64 x2, .int .i64 x3] 65) = w2 at *
      generalize wr.heap.size = bx at *
      obtain ⟨TR2, HB2, bx2, hs2⟩ := W1.out
      have k0 : w2.cell? ⟨bx, 0, none⟩ = some (.int .i64 (j : Int)) := by rw [cell_of_row _ _ _ _ _ _ bx2]; rfl
      have k1 : w2.cell? ⟨bx, 1, none⟩ = some (.int .i64 x2) := by rw [cell_of_row _ _ _ _ _ _ bx2]; rfl
      have k2 : w2.cell? ⟨bx, 2, none⟩ = some (.int .i64 x3) := by rw [cell_of_row _ _ _ _ _ _ bx2]; rfl
      have k3 := TR2.cell HU.out
      have hbx := (Array.getElem?_eq_some_iff.1 bx2).1
      have hG2 : G < w2.heap.size := by omega
      have m0 : ∀ X, (w2.alloc X).cell? ⟨bx, 0, none⟩ = some (.int .i64 (j : Int)) := fun X => ((below_alloc w2 X).cell (p := ⟨bx, 0, none⟩) hbx).trans k0
      have m1 : ∀ X, (w2.alloc X).cell? ⟨G, j, none⟩ = some (.slice ua un uc) := fun X => ((below_alloc w2 X).cell (p := ⟨G, j, none⟩) hG2).trans k3
      have hel := TR2.el j _ f HU.out HFL.out
      have hs4 := HB2.size
      obtain ⟨g5, c5, w5, hrun, ho5, hgr5, hli5⟩ := run_append_newL kH (w := (w2.alloc (.cells #[.int .i64 x2, .int .i64 x3] 100)).drew) 98 G (.slice ua un uc) f ((hel.alloc _).drew) w2.heap.size (x2, x3) #[.int .i64 x2, .int .i64 x3] rfl (0, 0) (heap_alloc_new w2 _) (by simp only [kH]; omega) (by unfold maxLen; omega) (by show G ≤ (w2.alloc _).heap.size; simp; omega)
      obtain ⟨a1, a2, a3⟩ := appOk_of hrun
      have TR3 : Tbl (w2.alloc (.cells #[.int .i64 x2, .int .i64 x3] 100)).drew G G n vs (tblF n (es.take k)) := TR2.kept ((Kept.refl _ _).alloc _).drew
      obtain ⟨T5, k4, k5⟩ := TR3.put HU.out HFL.out hgr5 ho5 hli5
      have T6 : Hid (Tbl (w5.setCell ⟨G, j, none⟩ (.slice (some ⟨g5, 0, none⟩) (f.length + 1) c5)) G G n (vs.set j (.slice (some ⟨g5, 0, none⟩) (f.length + 1) c5)) (tblF n (es.take (k + 1)))) := by
        show Tbl _ _ _ _ _ _
        rw [HT.out]; exact T5
      have HB6 : Hid (Below w.heap.size w (w5.setCell ⟨G, j, none⟩ (.slice (some ⟨g5, 0, none⟩) (f.length + 1) c5))) := by
        have h5 : Below w.heap.size w w5 := ((HB2.alloc hs4 _).drew).trans ((Below.refl _ _).grown hgr5 (by show w.heap.size ≤ (w2.alloc _).heap.size; simp; omega) (fun q hq => by have := own_ge hel hq; omega))
        exact h5.setCell (p := ⟨G, j, none⟩) (by show w.heap.size ≤ G; omega) _
      have hs6 : w1.heap.size ≤ (w5.setCell ⟨G, j, none⟩ (.slice (some ⟨g5, 0, none⟩) (f.length + 1) c5)).heap.size := by
        rw [size_setCell]
        have h1 := hgr5.size
        have h2 : (w2.alloc (.cells #[.int .i64 x2, .int .i64 x3] 100)).drew.heap.size = w2.heap.size + 1 := by simp
        omega
      have m2 : w5.cell? ⟨bx, 0, none⟩ = some (.int .i64 (j : Int)) := by
        have hb5 : w5.heap[bx]? = some (.cells #[.int .i64 (j : Int), .int .i64 x2, .int .i64 x3] 65 (0, 0)) := by
          rw [hgr5.block bx (by show bx < (w2.alloc _).heap.size; simp; omega) (fun e => own_block hel e.symm bx2 (by decide) rfl)]
          exact ((below_alloc w2 _).block bx hbx).trans bx2
        rw [cell_of_row _ _ _ _ _ _ hb5]; rfl
      unfold kH at a1 a2 a3
      simp only at a1 a2 a3
      clear W1 TR HB TR2 HB2 bx2 hel hrun ho5 hgr5 hli5 TR3 T5 d1 d2 d3
      go_region
      generalize w5.setCell ⟨G, j, none⟩ (.slice (some ⟨g5, 0, none⟩) (f.length + 1) c5) = w6 at *
      clear a1 a2 a3 m0 m1 m2 k0 k1 k2 k3 k4 k5
      go_wp2_with fail
      go_roundw
      case rel => exact ⟨k + 1, _, by omega, by go_num, T6.out, HB6.out, hs6⟩
      case measure => simp [intOf]; omega
    · have ek : es.take k = es := List.take_of_length_le (by omega)
      rw [ek] at TR
      clear ek
      go_wp2_with fail
      go_ret
      exact ⟨_, rfl, TR.out.own.lower (by omega), HB.out⟩
end Go.Proofs.Ytbmkgnlfccigpaa

namespace Go.Proofs.Ytbmkgnlfccigpaa
set_option maxRecDepth 100000
open Go.ChangeShapes Go.WideShapes Go.ChangeAt Go.RowKit

/-- P12.1, P12.3: the error. -/
def errV (n : Int) (es : List Ed) (s : Int) : Int := if faultE n es = 0 then (if 0 ≤ s ∧ s < n then 0 else 2) else faultE n es
theorem errV_bad {n s : Int} {es : List Ed} (h : faultE n es ≠ 0) : errV n es s = faultE n es := by rw [errV, if_neg h]
theorem errV_out {n s : Int} {es : List Ed} (h : faultE n es = 0) (hs : ¬ (0 ≤ s ∧ s < n)) : errV n es s = 2 := by rw [errV, if_pos h, if_neg hs]
theorem errV_ok {n s : Int} {es : List Ed} (h : faultE n es = 0) (hs : 0 ≤ s ∧ s < n) : errV n es s = 0 := by rw [errV, if_pos h, if_pos hs]
theorem in_fault {m : Nat} {es : List Ed} (h : faultE (m : Int) es = 0) : InG m es := fun e he => by
  have := in_of_out ((fault_ok h).2.2.2 e he)
  exact ⟨this.1, this.2.1, this.2.2.1, this.2.2.2.1, this.2.2.2.2.1⟩
/-- A list of numbers and an error. -/
def NmsP (w : World) (f : Int) (l : List Int) (e : Ending) (w' : World) : Prop :=
  ∃ v', e = .returned (.tuple #[v', .int .i64 f]) ∧ w'.ownsRow w.heap.size 3 1 v' (okL f l).length ((okL f l).flatMap encI) ∧ Below w.heap.size w w'
theorem NmsP.no {w w' : World} {f : Int} {l : List Int} (hf : f ≠ 0) (hb : Below w.heap.size w w') : NmsP w f l (.returned (.tuple #[.slice none 0 0, .int .i64 f])) w' :=
  ⟨_, rfl, by rw [okL_no hf]; exact World.ownsRow_nil _ _ _ _, hb⟩
theorem NmsP.yes {w w' : World} {l : List Int} {v : Value} (h : w'.ownsRow w.heap.size 3 1 v l.length (l.flatMap encI)) (hb : Below w.heap.size w w') : NmsP w 0 l (.returned (.tuple #[v, .int .i64 0])) w' := ⟨_, rfl, h, hb⟩
/-- A list of bools and an error. -/
def BolP (w : World) (f : Int) (l : List Bool) (e : Ending) (w' : World) : Prop :=
  ∃ v', e = .returned (.tuple #[v', .int .i64 f]) ∧ w'.ownsRow w.heap.size 4 1 v' (okL f l).length ((okL f l).flatMap encT) ∧ Below w.heap.size w w'
theorem BolP.no {w w' : World} {f : Int} {l : List Bool} (hf : f ≠ 0) (hb : Below w.heap.size w w') : BolP w f l (.returned (.tuple #[.slice none 0 0, .int .i64 f])) w' :=
  ⟨_, rfl, by rw [okL_no hf]; exact World.ownsRow_nil _ _ _ _, hb⟩
theorem BolP.yes {w w' : World} {l : List Bool} {v : Value} (h : w'.ownsRow w.heap.size 4 1 v l.length (l.flatMap encT)) (hb : Below w.heap.size w w') : BolP w 0 l (.returned (.tuple #[v, .int .i64 0])) w' := ⟨_, rfl, h, hb⟩
end Go.Proofs.Ytbmkgnlfccigpaa

namespace Go.Proofs.Ytbmkgnlfccigpaa
set_option maxRecDepth 100000
open Go.ChangeShapes Go.WideShapes Go.ChangeAt Go.RowKit

set_option maxHeartbeats 1000000 in
set_option maxRecDepth 100000 in
theorem pCheck_any (v : Value) (es : List Ed) (n s : Int) (w : World) (h : EdR w v es) :
    Calls Try.prog 38 #[.agg #[.int .i64 n, v], .int .i64 s] w fun e w' => e = .returned (.int .i64 (errV n es s)) ∧ Below w.heap.size w w' := by
  have HR : Hid (EdR w v es) := h
  obtain ⟨a, cap, rfl, _, _, _, _⟩ := h
  have HCK : Hid (∀ X, EdR X (.slice a es.length cap) es → Calls Try.prog 41 #[.agg #[.int .i64 n, .slice a es.length cap]] X fun e w' => e = .returned (.int .i64 (faultE n es)) ∧ Below X.heap.size X w') := fun X hX => check_any _ es n X hX
  obtain ⟨W0, hW0⟩ : ∃ W0, W0 = w.alloc (.cells #[.int .i64 n, .slice a es.length cap] 24) := ⟨_, rfl⟩
  have Q0 : BX 24 W0 w.heap.size #[.int .i64 n, .slice a es.length cap] := by rw [hW0]; exact BX.new _ _ _
  have BH : Hid (Below w.heap.size w W0) := by show Below _ _ _; rw [hW0]; exact below_alloc _ _
  have s1 : w.heap.size + 1 ≤ W0.heap.size := by rw [hW0]; simp
  have HK : Hid (∀ X, Below W0.heap.size W0 X → BX 24 X w.heap.size #[.int .i64 n, .slice a es.length cap] ∧ Below w.heap.size w X) := fun X hX => ⟨Q0.below hX (by omega), BH.out.trans (hX.mono (by omega))⟩
  have R0 : Hid (EdR W0 (.slice a es.length cap) es) := HR.out.below BH.out (Nat.le_refl _)
  obtain ⟨q0, q1, _⟩ := Q0.all2
  clear Q0
  by_cases hf : faultE n es = 0
  · rw [hf] at HCK
    by_cases h0 : s < 0
    · have HE : Hid (errV n es s = 2) := errV_out hf (by omega)
      generalize errV n es s = ev at *
      clear hf
      go_enter Try.func38, Try.ntmps38
      go_upto_region 1 with fail
      rw [← hW0]
      clear hW0
      go_wp2_with fail
      refine (HCK.out _ R0.out).mono ?_
      rintro e w1 ⟨rfl, hb1⟩
      obtain ⟨Q1, b1⟩ := HK.out _ hb1
      have B1 : Hid (Below w.heap.size w w1) := b1
      clear q0 q1 HCK
      obtain ⟨q0, q1, _⟩ := Q1.all2
      clear hb1 Q1 b1
      go_wp2_with fail
      go_ret
      exact ⟨by rw [HE.out]; rfl, B1.out⟩
    · by_cases h1 : s ≥ n
      · have HE : Hid (errV n es s = 2) := errV_out hf (by omega)
        generalize errV n es s = ev at *
        clear hf
        go_enter Try.func38, Try.ntmps38
        go_upto_region 1 with fail
        rw [← hW0]
        clear hW0
        go_wp2_with fail
        refine (HCK.out _ R0.out).mono ?_
        rintro e w1 ⟨rfl, hb1⟩
        obtain ⟨Q1, b1⟩ := HK.out _ hb1
        have B1 : Hid (Below w.heap.size w w1) := b1
        clear q0 q1 HCK
        obtain ⟨q0, q1, _⟩ := Q1.all2
        clear hb1 Q1 b1
        go_wp2_with fail
        go_ret
        exact ⟨by rw [HE.out]; rfl, B1.out⟩
      · have HE : Hid (errV n es s = 0) := errV_ok hf (by omega)
        generalize errV n es s = ev at *
        clear hf
        go_enter Try.func38, Try.ntmps38
        go_upto_region 1 with fail
        rw [← hW0]
        clear hW0
        go_wp2_with fail
        refine (HCK.out _ R0.out).mono ?_
        rintro e w1 ⟨rfl, hb1⟩
        obtain ⟨Q1, b1⟩ := HK.out _ hb1
        have B1 : Hid (Below w.heap.size w w1) := b1
        clear q0 q1 HCK
        obtain ⟨q0, q1, _⟩ := Q1.all2
        clear hb1 Q1 b1
        go_wp2_with fail
        go_ret
        exact ⟨by rw [HE.out]; rfl, B1.out⟩
  · have HE : Hid (errV n es s = faultE n es) := errV_bad hf
    generalize errV n es s = ev at *
    generalize faultE n es = fe at *
    have t0 : (fe != 0) = true := by simpa using hf
    clear hf
    go_enter Try.func38, Try.ntmps38
    go_upto_region 1 with fail
    rw [← hW0]
    clear hW0
    go_wp2_with fail
    refine (HCK.out _ R0.out).mono ?_
    rintro e w1 ⟨rfl, hb1⟩
    have B1 : Hid (Below w.heap.size w w1) := (HK.out _ hb1).2
    clear hb1 q0 q1 HCK
    go_wp2_with fail
    go_ret
    exact ⟨by rw [HE.out]; rfl, B1.out⟩
end Go.Proofs.Ytbmkgnlfccigpaa

namespace Go.Proofs.Ytbmkgnlfccigpaa
set_option maxRecDepth 100000
open Go.ChangeShapes Go.WideShapes Go.ChangeAt Go.RowKit

set_option maxHeartbeats 1000000 in
set_option maxRecDepth 100000 in
theorem pDist_any (v : Value) (es : List Ed) (n s : Int) (w : World) (h : EdR w v es) :
    Calls Try.prog 18 #[.agg #[.int .i64 n, v], .int .i64 s] w (NmsP w (errV n es s) (distF n.toNat es s)) := by
  have HR : Hid (EdR w v es) := h
  obtain ⟨a, cap, rfl, hca, hma, _, _⟩ := h
  unfold maxLen at hma
  have HCK : Hid (∀ X, EdR X (.slice a es.length cap) es → Calls Try.prog 38 #[.agg #[.int .i64 n, .slice a es.length cap], .int .i64 s] X fun e w' => e = .returned (.int .i64 (errV n es s)) ∧ Below X.heap.size X w') := fun X hX => pCheck_any _ es n s X hX
  obtain ⟨W0, hW0⟩ : ∃ W0, W0 = w.alloc (.cells #[.int .i64 n, .slice a es.length cap] 24) := ⟨_, rfl⟩
  have Q0 : BX 24 W0 w.heap.size #[.int .i64 n, .slice a es.length cap] := by rw [hW0]; exact BX.new _ _ _
  have BH : Hid (Below w.heap.size w W0) := by show Below _ _ _; rw [hW0]; exact below_alloc _ _
  have s1 : w.heap.size + 1 ≤ W0.heap.size := by rw [hW0]; simp
  have HK : Hid (∀ X, Below W0.heap.size W0 X → BX 24 X w.heap.size #[.int .i64 n, .slice a es.length cap] ∧ Below w.heap.size w X ∧ EdR X (.slice a es.length cap) es) := fun X hX => ⟨Q0.below hX (by omega), BH.out.trans (hX.mono (by omega)), HR.out.below (BH.out.trans (hX.mono (by omega))) (Nat.le_refl _)⟩
  have R0 : Hid (EdR W0 (.slice a es.length cap) es) := HR.out.below BH.out (Nat.le_refl _)
  obtain ⟨q0, q1, _⟩ := Q0.all2
  clear Q0
  by_cases he : errV n es s = 0
  · have hf : faultE n es = 0 := by
      apply Classical.byContradiction
      intro hne
      rw [errV_bad hne] at he
      exact hne he
    have hs : 0 ≤ s ∧ s < n := by
      apply Classical.byContradiction
      intro hne
      rw [errV_out hf hne] at he
      cases he
    obtain ⟨hn0, hn1, hle, hgd⟩ := fault_ok hf
    rw [he] at HCK ⊢
    obtain ⟨m, rfl⟩ : ∃ m : Nat, n = m := ⟨n.toNat, by omega⟩
    obtain ⟨sv, rfl⟩ : ∃ m : Nat, s = m := ⟨s.toNat, by omega⟩
    rw [Int.toNat_natCast]
    have HG : Hid (InG m es) := in_fault hf
    have hsv : sv < m := by omega
    have HWT : Hid (∀ e ∈ es, e.2.2 ≤ 1099511627776) := fun e he => (in_of_out (hgd e he)).2.2.2.2.2
    have HP : Hid (∀ v (w' : World), w'.ownsRow w.heap.size 3 1 v m ((distF m es sv).flatMap encI) → Below w.heap.size w w' → NmsP w 0 (distF m es sv) (.returned (.tuple #[v, .int .i64 0])) w') := fun v w' h1 h2 => NmsP.yes (by rw [(dist_ok HG.out hs).1]; exact h1) h2
    have HH : Hid (∀ X, EdR X (.slice a es.length cap) es → Calls Try.prog 40 #[.agg #[.int .i64 (m : Int), .slice a es.length cap]] X fun e w' => ∃ v', e = .returned v' ∧ OwnLs w' X.heap.size v' (tblF m es) ∧ Below X.heap.size X w') := fun X hX => pHopsOf_any _ es m X hX (by omega) (by omega) (fun e he => ⟨(HG.out e he).1, (HG.out e he).2.1⟩)
    have HS : Hid (∀ u X, LsR X u (tblF m es) → Calls Try.prog 39 #[u, .int .i64 sv] X (SumP m es sv X)) := fun u X hX => sums_any u es m sv X hX HG.out HWT.out (by omega) (by omega) hsv
    generalize NmsP w 0 (distF m es sv) = P at *
    clear hf hgd he hs
    go_enter Try.func18, Try.ntmps18
    go_upto_region 1 with fail
    rw [← hW0]
    clear hW0
    go_wp2_with fail
    refine (HCK.out _ R0.out).mono ?_
    rintro e w1 ⟨rfl, hb1⟩
    have A1 : Hid (Below W0.heap.size W0 w1) := hb1
    clear hb1 q0 q1 HCK
    obtain ⟨Q1, _, R1⟩ := HK.out _ A1.out
    have R1' : Hid (EdR w1 (.slice a es.length cap) es) := R1
    obtain ⟨q0, q1, _⟩ := Q1.all2
    clear Q1 R1
    go_wp2_with fail
    refine (HH.out _ R1'.out).mono ?_
    rintro e w2 ⟨vh, rfl, ho2, hb2⟩
    have L2 : Hid (LsR w2 vh (tblF m es)) := ho2.reads
    have A2 : Hid (Below W0.heap.size W0 w2) := A1.out.trans (hb2.mono A1.out.size)
    obtain ⟨ha, hn, hc, rfl⟩ : ∃ a n c, vh = .slice a n c := by obtain ⟨a, c, e, _⟩ := L2.out; exact ⟨_, _, _, e⟩
    clear ho2 hb2 q0 q1
    go_wp2_with fail
    refine (HS.out _ _ L2.out).mono ?_
    rintro e w3 ⟨v', l, rfl, hD, ho3, hb3⟩
    have hsz := A2.out.size
    have B3 : Hid (Below w.heap.size w w3) := (HK.out _ A2.out).2.1.trans (hb3.mono (by omega))
    have O3 : Hid (w3.ownsRow w.heap.size 3 1 v' m ((distF m es sv).flatMap encI)) := by
      show World.ownsRow _ _ _ _ _ _ _
      rw [← dist_uniq HG.out (by omega) hD]
      exact own_lower ho3 (by omega)
    obtain ⟨va, vn, vc, rfl⟩ : ∃ a n c, v' = .slice a n c := by
      rcases own_shapeK ho3 with ⟨e, _⟩ | ⟨g', c', e, _⟩
      · exact ⟨_, _, _, e⟩
      · exact ⟨_, _, _, e⟩
    clear ho3 hb3
    go_wp2_with fail
    exact HP.out _ _ O3.out B3.out
  · have HP : Hid (∀ (w' : World), Below w.heap.size w w' → NmsP w (errV n es s) (distF n.toNat es s) (.returned (.tuple #[.slice none 0 0, .int .i64 (errV n es s)])) w') := fun w' h => NmsP.no he h
    generalize NmsP w (errV n es s) (distF n.toNat es s) = P at *
    generalize errV n es s = fe at *
    have t0 : (fe != 0) = true := by simpa using he
    clear he
    go_enter Try.func18, Try.ntmps18
    go_upto_region 1 with fail
    rw [← hW0]
    clear hW0
    go_wp2_with fail
    refine (HCK.out _ R0.out).mono ?_
    rintro e w1 ⟨rfl, hb1⟩
    have B1 : Hid (Below w.heap.size w w1) := (HK.out _ hb1).2.1
    clear hb1 q0 q1 HCK
    go_wp2_with fail
    exact HP.out _ B1.out
end Go.Proofs.Ytbmkgnlfccigpaa

namespace Go.Proofs.Ytbmkgnlfccigpaa
set_option maxRecDepth 100000
open Go.ChangeShapes Go.WideShapes Go.ChangeAt Go.RowKit

set_option maxHeartbeats 1000000 in
set_option maxRecDepth 100000 in
theorem sameIntsK_yes (va vb : Value) (es : List Int) (w : World) (ha : InR w va es) (hb : InR w vb es) :
    Calls Try.prog 19 #[va, vb] w fun e w' => e = .returned (.bool true) ∧ Below w.heap.size w w' := by
  have HA : Hid (InR w va es) := ha
  have HB : Hid (InR w vb es) := hb
  obtain ⟨a, ca, rfl, hca, hma, _, _⟩ := ha
  obtain ⟨b, cb, rfl, hcb, hmb, _, _⟩ := hb
  unfold maxLen at hma hmb
  have hll : ((es.length : Int) != (es.length : Int)) = false := by simp
  go_enter Try.func19, Try.ntmps19
  go_wp2_with fail
  go_loopw [5] (fun i wr => ∃ k : Nat, k ≤ es.length ∧ i = .int .i64 k ∧ Below w.heap.size w wr) (fun i _ => es.length - (intOf i).toNat)
  case atStart => exact ⟨0, by omega, rfl, Below.refl _ _⟩
  case round =>
    obtain ⟨k, hk, rfl, hbel⟩ := hrel
    have HBL : Hid (Below w.heap.size w wr) := hbel
    clear hbel
    by_cases hlt : k < es.length
    · obtain ⟨xa, oa, cap', e1, _, _, la, hva⟩ := InR.at (HA.out.below HBL.out (Nat.le_refl _)) (by omega)
      injection e1 with e1 _ e3
      subst e1 e3
      obtain ⟨xb, ob, cap', e1, _, _, lb, hvb⟩ := InR.at (HB.out.below HBL.out (Nat.le_refl _)) (by omega)
      injection e1 with e1 _ e3
      subst e1 e3
      obtain ⟨x, hx⟩ := getX hlt
      have p0 : (0 : Int) ≤ (k : Int) := by omega
      have p1 : (k : Int) < (es.length : Int) := by omega
      have c1 := hva k x hx
      have d1 := hvb k x hx
      have hxx : (x != x) = false := by simp
      clear hva hvb hx
      go_wp2_with fail
      go_quiet (fail)
      go_wp2_with fail
      go_roundw
      case rel => exact ⟨k + 1, by omega, by go_num, below_drewN HBL.out _⟩
      case measure => simp [intOf]; omega
    · go_wp2_with fail
      go_ret
      exact ⟨rfl, HBL.out⟩
end Go.Proofs.Ytbmkgnlfccigpaa

namespace Go.Proofs.Ytbmkgnlfccigpaa
set_option maxRecDepth 100000

/-- x is the weight of a walk to v from a vertex that begins, its first number counted. -/
def Wkk (n : Nat) (ds : List Ed) (ini : Int → Int) (v x : Int) : Prop := ∃ u p, (0 ≤ u ∧ u < (n : Int)) ∧ 0 ≤ ini u ∧ (∀ e ∈ p, e ∈ ds) ∧ Chn u p v ∧ ini u + sumW p = x
/-- Behind t rounds: numbers a, mail m. Vertices that take no part (not act) are not spoken of. -/
structure MnI (n t : Nat) (ds : List Ed) (ini : Int → Int) (act : Int → Bool) (a : Int → Int) (m : Int → List Int) : Prop where
  val : ∀ v : Int, 0 ≤ v ∧ v < (n : Int) → act v = true → a v = -1 ∨ (0 ≤ a v ∧ Wkk n ds ini v (a v))
  mls : ∀ v : Int, 0 ≤ v ∧ v < (n : Int) → act v = true → ∀ x ∈ m v, Wkk n ds ini v x
  tel : ∀ e ∈ ds, 0 ≤ a e.1 → (0 ≤ a e.2.1 ∧ a e.2.1 ≤ a e.1 + e.2.2) ∨ a e.1 + e.2.2 ∈ m e.2.1
  low : ∀ (u : Int) (p : List Ed) (v : Int), 0 ≤ u ∧ u < (n : Int) → 0 ≤ ini u → (∀ e ∈ p, e ∈ ds) → Chn u p v → p.length < t → 0 ≤ a v ∧ a v ≤ ini u + sumW p
/-- Edges lie between vertices that take part; who begins takes part. -/
structure MnG (n : Nat) (ds : List Ed) (ini : Int → Int) (act : Int → Bool) : Prop where
  inn : InG n ds
  ends : ∀ e ∈ ds, act e.1 = true ∧ act e.2.1 = true
  begs : ∀ v, 0 ≤ ini v → act v = true
section
variable {n t : Nat} {ds : List Ed} {ini : Int → Int} {act sd : Int → Bool} {a a' : Int → Int} {m m' : Int → List Int}
theorem MnG.end (h : MnG n ds ini act) {u v : Int} {p : List Ed} (hu : 0 ≤ ini u) (hp : ∀ e ∈ p, e ∈ ds) (hc : Chn u p v) : act v = true := by
  rcases List.eq_nil_or_concat p with rfl | ⟨q, e, rfl⟩
  · have : u = v := hc
    rw [← this]; exact h.begs u hu
  · rw [List.concat_eq_append] at hc hp
    obtain ⟨_, h2⟩ := chn_snoc hc
    rw [← h2]
    exact (h.ends e (hp e (by simp))).2
theorem Wkk.nn (hg : MnG n ds ini act) {v x : Int} (h : Wkk n ds ini v x) : 0 ≤ x := by
  obtain ⟨u, p, _, h0, hp, _, rfl⟩ := h
  have := sumW_nn hg.inn hp
  omega
theorem Wkk.next {e : Ed} (h : Wkk n ds ini e.1 (a e.1)) (he : e ∈ ds) : Wkk n ds ini e.2.1 (a e.1 + e.2.2) := by
  obtain ⟨u, p, hu, h0, hp, hc, hx⟩ := h
  refine ⟨u, p ++ [e], hu, h0, fun d hd => ?_, chn_app hc ⟨rfl, rfl⟩, ?_⟩
  · rcases List.mem_append.1 hd with hd | hd
    · exact hp d hd
    · simp at hd; rw [hd]; exact he
  · rw [sumW_app, sumW_cons, sumW_nil]; omega
/-- The round in which all begin. -/
theorem MnI.start (hg : MnG n ds ini act) (ha : ∀ v : Int, 0 ≤ v ∧ v < (n : Int) → act v = true → a v = ini v) (hn : ∀ v, -1 ≤ ini v)
    (hm : ∀ u : Int, 0 ≤ u ∧ u < (n : Int) → act u = true → ∀ x, x ∈ m u ↔ ∃ e ∈ ds, e.2.1 = u ∧ 0 ≤ ini e.1 ∧ x = a e.1 + e.2.2) : MnI n 1 ds ini act a m := by
  refine ⟨fun v hv hA => ?_, fun v hv hA x hx => ?_, fun e he h0 => .inr ?_, fun u p v hu h0 hp hc hl => ?_⟩
  · rw [ha v hv hA]
    by_cases e : 0 ≤ ini v
    · exact .inr ⟨e, v, [], hv, e, by simp, rfl, by simp [sumW]⟩
    · have := hn v
      exact .inl (by omega)
  · obtain ⟨e, he, rfl, h0, rfl⟩ := (hm v hv hA x).1 hx
    obtain ⟨f0, f1, _⟩ := hg.inn e he
    have : a e.1 = ini e.1 := ha _ ⟨f0, f1⟩ (hg.ends e he).1
    refine Wkk.next ?_ he
    rw [this]
    exact ⟨e.1, [], ⟨f0, f1⟩, h0, by simp, rfl, by simp [sumW]⟩
  · obtain ⟨f0, f1, t0, t1, _⟩ := hg.inn e he
    refine (hm _ ⟨t0, t1⟩ (hg.ends e he).2 _).2 ⟨e, he, rfl, ?_, rfl⟩
    rw [← ha _ ⟨f0, f1⟩ (hg.ends e he).1]; exact h0
  · have : p = [] := List.eq_nil_of_length_eq_zero (by omega)
    subst this
    have e : u = v := hc
    subst e
    rw [ha u hu (hg.begs u h0)]
    simp [sumW, h0]
theorem MnI.vnn (h : MnI n t ds ini act a m) {v : Int} (hv : 0 ≤ v ∧ v < (n : Int)) (hA : act v = true) : -1 ≤ a v := by rcases h.val v hv hA with g | g <;> omega
theorem MnI.mnn (h : MnI n t ds ini act a m) (hg : MnG n ds ini act) {v : Int} (hv : 0 ≤ v ∧ v < (n : Int)) (hA : act v = true) : ∀ y ∈ m v, 0 ≤ y := fun y hy => (h.mls v hv hA y hy).nn hg
/-- One more round. -/
theorem MnI.next (h : MnI n t ds ini act a m) (ht : 0 < t) (hg : MnG n ds ini act) (ha : ∀ v : Int, 0 ≤ v ∧ v < (n : Int) → act v = true → lowF (a v) (m v) = (a' v, sd v))
    (hm : ∀ u : Int, 0 ≤ u ∧ u < (n : Int) → act u = true → ∀ x, x ∈ m' u ↔ ∃ e ∈ ds, e.2.1 = u ∧ sd e.1 = true ∧ x = a' e.1 + e.2.2) : MnI n (t + 1) ds ini act a' m' := by
  have hval : ∀ v : Int, 0 ≤ v ∧ v < (n : Int) → act v = true → a' v = -1 ∨ (0 ≤ a' v ∧ Wkk n ds ini v (a' v)) := fun v hv hA => by
    obtain ⟨h1, _, _⟩ := lowF_spec (a := a v) (h.vnn hv hA) (h.mnn hg hv hA)
    rw [ha v hv hA] at h1
    rcases h1 with h1 | ⟨_, h1, _⟩
    · injection h1 with h1 _
      rw [h1]; exact h.val v hv hA
    · have := h.mls v hv hA _ h1
      exact .inr ⟨this.nn hg, this⟩
  have hto : ∀ e ∈ ds, (0 ≤ e.1 ∧ e.1 < (n : Int)) ∧ (0 ≤ e.2.1 ∧ e.2.1 < (n : Int)) := fun e he => by
    obtain ⟨f0, f1, t0, t1, _⟩ := hg.inn e he
    exact ⟨⟨f0, f1⟩, ⟨t0, t1⟩⟩
  /- what is there already, or comes, is heard -/
  have hear : ∀ e ∈ ds, 0 ≤ a e.1 → 0 ≤ a' e.2.1 ∧ a' e.2.1 ≤ a e.1 + e.2.2 := fun e he h0 => by
    obtain ⟨_, h2, h3⟩ := lowF_spec (a := a e.2.1) (h.vnn (hto e he).2 (hg.ends e he).2) (h.mnn hg (hto e he).2 (hg.ends e he).2)
    rw [ha _ (hto e he).2 (hg.ends e he).2] at h2 h3
    rcases h.tel e he h0 with ⟨g1, g2⟩ | g
    · have := h3 g1
      simp only at this
      omega
    · exact h2 _ g
  refine ⟨hval, fun v hv hA x hx => ?_, fun e he h0 => ?_, fun u p v hu h0 hp hc hl => ?_⟩
  · obtain ⟨e, he, rfl, hs, rfl⟩ := (hm v hv hA x).1 hx
    refine Wkk.next ?_ he
    obtain ⟨h1, _, _⟩ := lowF_spec (a := a e.1) (h.vnn (hto e he).1 (hg.ends e he).1) (h.mnn hg (hto e he).1 (hg.ends e he).1)
    rw [ha _ (hto e he).1 (hg.ends e he).1] at h1
    rcases h1 with h1 | ⟨_, h1, _⟩
    · injection h1 with _ h1
      rw [h1] at hs; cases hs
    · exact h.mls _ (hto e he).1 (hg.ends e he).1 _ h1
  · obtain ⟨h1, _, _⟩ := lowF_spec (a := a e.1) (h.vnn (hto e he).1 (hg.ends e he).1) (h.mnn hg (hto e he).1 (hg.ends e he).1)
    rw [ha _ (hto e he).1 (hg.ends e he).1] at h1
    rcases h1 with h1 | ⟨h1, _, _⟩
    · injection h1 with h1 _
      rw [h1] at h0 ⊢
      exact .inl (hear e he h0)
    · exact .inr ((hm _ (hto e he).2 (hg.ends e he).2 _).2 ⟨e, he, rfl, h1, rfl⟩)
  · rcases List.eq_nil_or_concat p with rfl | ⟨q, e, rfl⟩
    · have ev : u = v := hc
      subst ev
      obtain ⟨_, _, h3⟩ := lowF_spec (a := a u) (h.vnn hu (hg.begs u h0)) (h.mnn hg hu (hg.begs u h0))
      rw [ha u hu (hg.begs u h0)] at h3
      have := h.low u [] u hu h0 (by simp) rfl (by simpa using ht)
      have h4 := h3 this.1
      simp only at h4
      omega
    · rw [List.concat_eq_append] at hc hp hl ⊢
      obtain ⟨c1, c2⟩ := chn_snoc hc
      simp at hl
      have he := hp e (by simp)
      have := h.low u q e.1 hu h0 (fun d hd => hp d (by simp [hd])) c1 (by omega)
      have h2 := hear e he this.1
      rw [c2] at h2
      rw [sumW_app, sumW_cons, sumW_nil]
      omega
/-- Behind as many rounds as there are vertices nothing is heard any more. -/
theorem MnI.still (h : MnI n t ds ini act a m) (hg : MnG n ds ini act) (hn : n ≤ t) {v : Int} (hv : 0 ≤ v ∧ v < (n : Int)) (hA : act v = true) : lowF (a v) (m v) = (a v, false) := by
  obtain ⟨h1, _, _⟩ := lowF_spec (a := a v) (h.vnn hv hA) (h.mnn hg hv hA)
  rcases h1 with h1 | ⟨_, h1, h2⟩
  · exact h1
  · exfalso
    obtain ⟨u, p, hu, h0, hp, hc, hx⟩ := h.mls v hv hA _ h1
    obtain ⟨q, hq, hd, hl, hw⟩ := chn_short hg.inn p.length (Nat.le_refl _) hp hu hc
    have := h.low u q v hu h0 hq hd (by omega)
    omega
/-- Once there is no mail each number is the least. -/
theorem MnI.done (h : MnI n t ds ini act a m) (ht : 0 < t) (hg : MnG n ds ini act) (hm : ∀ v : Int, 0 ≤ v ∧ v < (n : Int) → act v = true → m v = []) {v : Int} (hv : 0 ≤ v ∧ v < (n : Int)) (hA : act v = true) :
    (a v = -1 ∧ ∀ x, ¬ Wkk n ds ini v x) ∨ (0 ≤ a v ∧ Wkk n ds ini v (a v) ∧ ∀ x, Wkk n ds ini v x → a v ≤ x) := by
  have key : ∀ x, Wkk n ds ini v x → 0 ≤ a v ∧ a v ≤ x := fun x ⟨u, p, hu, h0, hp, hc, hx⟩ => by
    have := walk_ind (es := ds) (s := u) (P := fun p v => 0 ≤ a v ∧ a v ≤ ini u + sumW p) (h.low u [] u hu h0 (by simp) rfl (by simpa using ht)) (fun q e _ he _ ih => by
      obtain ⟨f0, f1, t0, t1, _⟩ := hg.inn e he
      rw [sumW_app, sumW_cons, sumW_nil]
      rcases h.tel e he ih.1 with g | g
      · omega
      · rw [hm _ ⟨t0, t1⟩ (hg.ends e he).2] at g
        simp at g) p.length p v rfl hp hc
    omega
  rcases h.val v hv hA with g | ⟨g1, g2⟩
  · exact .inl ⟨g, fun x hx => by have := key x hx; omega⟩
  · exact .inr ⟨g1, g2, fun x hx => (key x hx).2⟩
end
end Go.Proofs.Ytbmkgnlfccigpaa

namespace Go.Proofs.Ytbmkgnlfccigpaa
set_option maxRecDepth 100000

/-- A vertex without a label takes part. -/
def actL (lab : Int → Int) (v : Int) : Bool := decide (lab v = -1)
/-- What is wanted of a job in such a phase: labels lab, edges ds with what they add, first numbers ini, at most C, and at most M more an edge. -/
structure FwG (n : Nat) (es : List Ed) (j : Jb) (s : Int) (lab : Int → Int) (ds : List Ed) (ini : Int → Int) (C M : Int) : Prop where
  gr : MnG n ds ini (actL lab)
  ing : InG n es
  inn : ∀ v, -1 ≤ ini v ∧ ini v ≤ C
  wgt : ∀ e ∈ ds, e.2.2 ≤ M
  cps : 0 ≤ C ∧ 0 ≤ M
  fr : ∀ v : Int, 0 ≤ v ∧ v < (n : Int) → ∀ x : Ml, x.2 = lab v → lab v = -1 → beginF j v s x = ((ini v, -1), decide (0 ≤ ini v))
  he : ∀ (x : Ml) m, x.2 = -1 → hearF j x m = lowV x m
  st : ∀ v : Int, 0 ≤ v ∧ v < (n : Int) → lab v ≠ -1 → ∀ (x : Ml) b m, x.2 = lab v → wakeV j v s x b m = (x, false)
  way : ∀ (r : Int → Ml × Bool), (∀ v : Int, 0 ≤ v ∧ v < (n : Int) → lab v ≠ -1 → (r v).2 = false) → ∀ u : Int, 0 ≤ u ∧ u < (n : Int) → lab u = -1 → ∀ x, x ∈ msgs j r es u ↔ ∃ e ∈ ds, e.2.1 = u ∧ (r e.1).2 = true ∧ x = (r e.1).1.1 + e.2.2
  ov : ∀ e ∈ es, ∀ a, sayJ j a e.2.2 ≤ a + M
  top : C + ((n : Int) + 1) * M ≤ Jb.top j
/-- Numbers stay small. -/
structure MnB (n t : Nat) (lab : Int → Int) (C M : Int) (a : Int → Int) (m : Int → List Int) : Prop where
  val : ∀ v : Int, 0 ≤ v ∧ v < (n : Int) → lab v = -1 → a v ≤ C + ((t : Int) - 1) * M
  mls : ∀ v : Int, 0 ≤ v ∧ v < (n : Int) → lab v = -1 → ∀ x ∈ m v, x ≤ C + (t : Int) * M
/-- Behind t rounds of the phase. old: the values with which it began. -/
structure PhI (n t : Nat) (lab : Int → Int) (ds : List Ed) (ini : Int → Int) (C M : Int) (old : Int → Ml) (vs : List Ml) (ms : List (List Int)) : Prop where
  lv : vs.length = n
  lm : ms.length = n
  lb : ∀ v : Int, 0 ≤ v ∧ v < (n : Int) → (vlA vs v).2 = lab v
  od : ∀ v : Int, 0 ≤ v ∧ v < (n : Int) → lab v ≠ -1 → vlA vs v = old v
  mn : MnI n t ds ini (actL lab) (fun v => (vlA vs v).1) (mlA ms)
  bd : MnB n t lab C M (fun v => (vlA vs v).1) (mlA ms)
section
variable {n t : Nat} {es ds : List Ed} {j : Jb} {k s : Int} {lab ini : Int → Int} {C M : Int} {old : Int → Ml}
theorem actL_iff {v : Int} : actL lab v = true ↔ lab v = -1 := by simp [actL]
theorem FwG.rnd_off (h : FwG n es j s lab ds ini C M) {T : StS} (hl : ∀ v : Int, 0 ≤ v ∧ v < (n : Int) → (vlA T.vals v).2 = lab v) {v : Int} (hv : 0 ≤ v ∧ v < (n : Int)) (ha : lab v ≠ -1) : rndV j s T v = (vlA T.vals v, false) := by
  unfold rndV
  split
  · exact h.st v hv ha _ _ _ (hl v hv)
  · rfl
theorem FwG.rnd_new (h : FwG n es j s lab ds ini C M) {T : StS} (hf : T.fresh = true) (hl : ∀ v : Int, 0 ≤ v ∧ v < (n : Int) → (vlA T.vals v).2 = lab v) {v : Int} (hv : 0 ≤ v ∧ v < (n : Int)) (ha : lab v = -1) : rndV j s T v = ((ini v, -1), decide (0 ≤ ini v)) := by
  unfold rndV
  rw [hf]
  simp only [Bool.true_or, if_true]
  show wakeV j v s _ true _ = _
  unfold wakeV
  rw [if_pos rfl]
  exact h.fr v hv _ (hl v hv) ha
theorem FwG.rnd_low (h : FwG n es j s lab ds ini C M) {T : StS} (hf : T.fresh = false) (hl : ∀ v : Int, 0 ≤ v ∧ v < (n : Int) → (vlA T.vals v).2 = lab v) {v : Int} (hv : 0 ≤ v ∧ v < (n : Int)) (ha : lab v = -1) :
    rndV j s T v = (((lowF (vlA T.vals v).1 (mlA T.mail v)).1, -1), (lowF (vlA T.vals v).1 (mlA T.mail v)).2) := by
  have h2 : (vlA T.vals v).2 = -1 := by rw [hl v hv, ha]
  unfold rndV
  rw [hf]
  simp only [Bool.false_or]
  split
  · show wakeV j v s _ false _ = _
    unfold wakeV
    rw [if_neg (by simp), h.he _ _ h2]
    unfold lowV
    rw [h2]
  · next hc =>
    have : mlA T.mail v = [] := by simpa using hc
    rw [this]
    show _ = (((vlA T.vals v).1, -1), false)
    rw [← h2]
/-- A round's outcome, as a round of the least. -/
theorem FwG.msgs_in (h : FwG n es j s lab ds ini C M) {r : Int → Ml × Bool} (hr : ∀ v : Int, 0 ≤ v ∧ v < (n : Int) → lab v ≠ -1 → (r v).2 = false) {u : Int} (hu : 0 ≤ u ∧ u < (n : Int)) (ha : actL lab u = true) (x : Int) :
    x ∈ mlA (mailR n j r es) u ↔ ∃ e ∈ ds, e.2.1 = u ∧ (r e.1).2 = true ∧ x = (r e.1).1.1 + e.2.2 := by
  rw [mlA_mail hu, sortN_mem]
  exact h.way r hr u hu (actL_iff.1 ha) x
theorem FwG.first (h : FwG n es j s lab ds ini C M) {T : StS} (hf : T.fresh = true) (hl : ∀ v : Int, 0 ≤ v ∧ v < (n : Int) → (vlA T.vals v).2 = lab v) : PhI n 1 lab ds ini C M (vlA T.vals) (valsR n (rndV j s T)) (mailR n j (rndV j s T) es) := by
  have hoff : ∀ v : Int, 0 ≤ v ∧ v < (n : Int) → lab v ≠ -1 → (rndV j s T v).2 = false := fun v hv ha => by rw [h.rnd_off hl hv ha]
  have hv1 : ∀ v : Int, 0 ≤ v ∧ v < (n : Int) → lab v = -1 → (vlA (valsR n (rndV j s T)) v).1 = ini v := fun v hv ha => by rw [vlA_vals hv, h.rnd_new hf hl hv ha]
  refine ⟨valsR_len _ _, mailR_len _ _ _ _, fun v hv => ?_, fun v hv ha => ?_, ?_, ?_⟩
  · rw [vlA_vals hv]
    by_cases e : lab v = -1
    · rw [h.rnd_new hf hl hv e, e]
    · rw [h.rnd_off hl hv e]; exact hl v hv
  · rw [vlA_vals hv, h.rnd_off hl hv ha]
  · refine MnI.start h.gr (fun v hv ha => hv1 v hv (actL_iff.1 ha)) (fun v => (h.inn v).1) fun u hu ha x => ?_
    rw [h.msgs_in hoff hu ha]
    constructor
    · rintro ⟨e, he, h1, h2, h3⟩
      obtain ⟨f0, f1, _⟩ := h.gr.inn e he
      have hA := actL_iff.1 (h.gr.ends e he).1
      rw [h.rnd_new hf hl ⟨f0, f1⟩ hA] at h2 h3
      refine ⟨e, he, h1, by simpa using h2, ?_⟩
      rw [hv1 _ ⟨f0, f1⟩ hA]; exact h3
    · rintro ⟨e, he, h1, h2, h3⟩
      obtain ⟨f0, f1, _⟩ := h.gr.inn e he
      have hA := actL_iff.1 (h.gr.ends e he).1
      rw [hv1 _ ⟨f0, f1⟩ hA] at h3
      refine ⟨e, he, h1, ?_, ?_⟩
      · rw [h.rnd_new hf hl ⟨f0, f1⟩ hA]; simpa using h2
      · rw [h.rnd_new hf hl ⟨f0, f1⟩ hA]; exact h3
  · refine ⟨fun v hv ha => ?_, fun v hv ha x hx => ?_⟩
    · rw [hv1 v hv ha]
      have := (h.inn v).2
      simp
      exact this
    · obtain ⟨e, he, h1, h2, h3⟩ := (h.msgs_in hoff hv (actL_iff.2 ha) x).1 hx
      obtain ⟨f0, f1, _⟩ := h.gr.inn e he
      rw [h.rnd_new hf hl ⟨f0, f1⟩ (actL_iff.1 (h.gr.ends e he).1)] at h3
      have g1 := (h.inn e.1).2
      have g2 := h.wgt e he
      simp only at h3
      simp
      omega
theorem FwG.more (h : FwG n es j s lab ds ini C M) (ht : 0 < t) {T : StS} (hf : T.fresh = false) (hI : PhI n t lab ds ini C M old T.vals T.mail) : PhI n (t + 1) lab ds ini C M old (valsR n (rndV j s T)) (mailR n j (rndV j s T) es) := by
  have hl := hI.lb
  have hoff : ∀ v : Int, 0 ≤ v ∧ v < (n : Int) → lab v ≠ -1 → (rndV j s T v).2 = false := fun v hv ha => by rw [h.rnd_off hl hv ha]
  have hv1 : ∀ v : Int, 0 ≤ v ∧ v < (n : Int) → lab v = -1 → (vlA (valsR n (rndV j s T)) v).1 = (lowF (vlA T.vals v).1 (mlA T.mail v)).1 := fun v hv ha => by rw [vlA_vals hv, h.rnd_low hf hl hv ha]
  have hmul : ((t + 1 : Nat) : Int) * M = (t : Int) * M + M := by rw [Int.natCast_add, Int.add_mul]; simp
  have hmu2 : (((t + 1 : Nat) : Int) - 1) * M = (t : Int) * M := by simp
  have hmu3 : ((t : Int) - 1) * M = (t : Int) * M - M := by rw [Int.sub_mul]; simp
  have hbv : ∀ v : Int, 0 ≤ v ∧ v < (n : Int) → lab v = -1 → (lowF (vlA T.vals v).1 (mlA T.mail v)).1 ≤ C + (t : Int) * M := fun v hv ha => by
    have hA := actL_iff.2 ha
    obtain ⟨h1, _, _⟩ := lowF_spec (hI.mn.vnn hv hA) (hI.mn.mnn h.gr hv hA)
    rcases h1 with h1 | ⟨_, h1, _⟩
    · rw [h1]
      have g1 := hI.bd.val v hv ha
      have g2 := h.cps.2
      simp only at g1 ⊢
      omega
    · exact hI.bd.mls v hv ha _ h1
  refine ⟨valsR_len _ _, mailR_len _ _ _ _, fun v hv => ?_, fun v hv ha => ?_, ?_, ?_⟩
  · rw [vlA_vals hv]
    by_cases e : lab v = -1
    · rw [h.rnd_low hf hl hv e, e]
    · rw [h.rnd_off hl hv e]; exact hl v hv
  · rw [vlA_vals hv, h.rnd_off hl hv ha]; exact hI.od v hv ha
  · refine hI.mn.next ht h.gr (sd := fun v => (rndV j s T v).2) (fun v hv ha => ?_) fun u hu ha x => ?_
    · have hA := actL_iff.1 ha
      rw [hv1 v hv hA, h.rnd_low hf hl hv hA]
    · rw [h.msgs_in hoff hu ha]
      constructor
      · rintro ⟨e, he, h1, h2, h3⟩
        obtain ⟨f0, f1, _⟩ := h.gr.inn e he
        refine ⟨e, he, h1, h2, ?_⟩
        rw [vlA_vals ⟨f0, f1⟩]; exact h3
      · rintro ⟨e, he, h1, h2, h3⟩
        obtain ⟨f0, f1, _⟩ := h.gr.inn e he
        rw [vlA_vals ⟨f0, f1⟩] at h3
        exact ⟨e, he, h1, h2, h3⟩
  · refine ⟨fun v hv ha => ?_, fun v hv ha x hx => ?_⟩
    · rw [hv1 v hv ha, hmu2]
      exact hbv v hv ha
    · obtain ⟨e, he, h1, h2, h3⟩ := (h.msgs_in hoff hv (actL_iff.2 ha) x).1 hx
      obtain ⟨f0, f1, _⟩ := h.gr.inn e he
      have hA := actL_iff.1 (h.gr.ends e he).1
      rw [h.rnd_low hf hl ⟨f0, f1⟩ hA] at h3
      have g1 := hbv e.1 ⟨f0, f1⟩ hA
      have g2 := h.wgt e he
      simp only at h3
      rw [hmul]
      omega
/-- Nothing that is said is too great. -/
theorem FwG.small (h : FwG n es j s lab ds ini C M) {r : Int → Ml × Bool} (hr : ∀ v : Int, 0 ≤ v ∧ v < (n : Int) → (r v).2 = true → (r v).1.1 ≤ C + (n : Int) * M) : overR j r es = false := by
  unfold overR
  rw [List.any_eq_false]
  intro e he
  obtain ⟨f0, f1, _⟩ := h.ing e he
  simp only [Bool.and_eq_true, decide_eq_true_eq, not_and, Int.not_lt]
  rintro ⟨_, h2⟩
  have h3 := hr e.1 ⟨f0, f1⟩ h2
  have h4 := h.ov e he (r e.1).1.1
  have h5 := h.top
  have : ((n : Int) + 1) * M = (n : Int) * M + M := by rw [Int.add_mul]; simp
  omega
theorem FwG.small_first (h : FwG n es j s lab ds ini C M) {T : StS} (hf : T.fresh = true) (hl : ∀ v : Int, 0 ≤ v ∧ v < (n : Int) → (vlA T.vals v).2 = lab v) : overR j (rndV j s T) es = false := h.small fun v hv hs => by
  by_cases e : lab v = -1
  · rw [h.rnd_new hf hl hv e]
    have h1 := (h.inn v).2
    have h2 := Int.mul_nonneg (a := (n : Int)) (b := M) (by omega) h.cps.2
    simp only
    omega
  · rw [h.rnd_off hl hv e] at hs; cases hs
theorem FwG.small_more (h : FwG n es j s lab ds ini C M) (htn : t ≤ n) {T : StS} (hf : T.fresh = false) (hI : PhI n t lab ds ini C M old T.vals T.mail) : overR j (rndV j s T) es = false := h.small fun v hv hs => by
  by_cases e : lab v = -1
  · have hA := actL_iff.2 e
    rw [h.rnd_low hf hI.lb hv e] at hs ⊢
    obtain ⟨h1, _, _⟩ := lowF_spec (hI.mn.vnn hv hA) (hI.mn.mnn h.gr hv hA)
    rcases h1 with h1 | ⟨_, h1, _⟩
    · simp only at h1 hs
      rw [h1] at hs; cases hs
    · have h2 := hI.bd.mls v hv e _ h1
      have h3 : (t : Int) * M ≤ (n : Int) * M := Int.mul_le_mul_of_nonneg_right (by omega) h.cps.2
      simp only at h2 ⊢
      omega
  · rw [h.rnd_off hI.lb hv e] at hs; cases hs
/-- What stands behind the phase: there is no mail, and each number is the least of all walks. -/
structure FwE (n : Nat) (lab : Int → Int) (ds : List Ed) (ini : Int → Int) (old : Int → Ml) (vs : List Ml) (ms : List (List Int)) : Prop where
  lv : vs.length = n
  lm : ms.length = n
  no : manyL ms = 0
  off : ∀ v : Int, 0 ≤ v ∧ v < (n : Int) → lab v ≠ -1 → vlA vs v = old v
  on : ∀ v : Int, 0 ≤ v ∧ v < (n : Int) → lab v = -1 → (vlA vs v).2 = -1 ∧ (((vlA vs v).1 = -1 ∧ ∀ x, ¬ Wkk n ds ini v x) ∨ (0 ≤ (vlA vs v).1 ∧ Wkk n ds ini v (vlA vs v).1 ∧ ∀ x, Wkk n ds ini v x → (vlA vs v).1 ≤ x))
theorem PhI.ended (h : FwG n es j s lab ds ini C M) (ht : 0 < t) {vs : List Ml} {ms : List (List Int)} (hI : PhI n t lab ds ini C M old vs ms) (hm : manyL ms = 0) : FwE n lab ds ini old vs ms := by
  have hmt : ∀ v : Int, mlA ms v = [] := fun v => by
    unfold mlA
    rw [List.getD_eq_getElem?_getD]
    cases he : ms[v.toNat]? with
    | none => rfl
    | some l => exact manyL_zero.1 hm l (List.mem_of_getElem? he)
  refine ⟨hI.lv, hI.lm, hm, hI.od, fun v hv ha => ⟨by rw [hI.lb v hv, ha], ?_⟩⟩
  exact hI.mn.done ht h.gr (fun u _ _ => hmt u) hv (actL_iff.2 ha)
/-- From round t on, up to the end. -/
theorem FwG.rest (h : FwG n es j s lab ds ini C M) {phase : Int} (hj : jobF k phase = some j) : ∀ (d t : Nat) (step : Int) (vs : List Ml) (ms : List (List Int)), 0 < t → t + d = n → PhI n t lab ds ini C M old vs ms → 0 < manyL ms →
    ∃ (i : Nat) (vs' : List Ml) (ms' : List (List Int)), 1 ≤ i ∧ i ≤ d + 1 ∧ FwE n lab ds ini old vs' ms' ∧ GoesR n es k s i ⟨step, phase, false, false, vs, ms⟩ (behR j (step + i - 1) phase vs' ms')
  | d, t, step, vs, ms, ht, hd, hI, hm => by
    have hov := h.small_more (T := ⟨step, phase, false, false, vs, ms⟩) (by omega) rfl hI
    have hg := GoesR.one (n := n) (es := es) (k := k) (s := s) (t := ⟨step, phase, false, false, vs, ms⟩) rfl hj hov
    have hN := h.more ht (T := ⟨step, phase, false, false, vs, ms⟩) rfl hI
    by_cases hz : manyL (mailR n j (rndV j s ⟨step, phase, false, false, vs, ms⟩) es) = 0
    · refine ⟨1, _, _, Nat.le_refl _, by omega, hN.ended h (by omega) hz, ?_⟩
      rw [show step + ((1 : Nat) : Int) - 1 = step by omega]
      exact hg
    · cases d with
      | zero =>
        exfalso
        apply hz
        rw [mailR_zero]
        intro u hu
        refine msgs_none fun e he => ?_
        have still : ∀ v : Int, 0 ≤ v ∧ v < (n : Int) → (rndV j s ⟨step, phase, false, false, vs, ms⟩ v).2 = false := fun v hv => by
          by_cases e : lab v = -1
          · rw [h.rnd_low (T := ⟨step, phase, false, false, vs, ms⟩) rfl hI.lb hv e]
            have := hI.mn.still h.gr (by omega) hv (actL_iff.2 e)
            simp only at this ⊢
            rw [this]
          · rw [h.rnd_off (T := ⟨step, phase, false, false, vs, ms⟩) hI.lb hv e]
        obtain ⟨f0, f1, t0, t1, _⟩ := h.ing e he
        exact ⟨still _ ⟨f0, f1⟩, still _ ⟨t0, t1⟩⟩
      | succ d =>
        have hb : nextS n es j s ⟨step, phase, false, false, vs, ms⟩ = ⟨step + 1, phase, false, false, valsR n (rndV j s ⟨step, phase, false, false, vs, ms⟩), mailR n j (rndV j s ⟨step, phase, false, false, vs, ms⟩) es⟩ := by
          unfold nextS behR
          rw [if_pos (by omega)]
        rw [hb] at hg
        obtain ⟨i, vs', ms', h1, h2, h3, h4⟩ := h.rest hj d (t + 1) (step + 1) _ _ (by omega) (by omega) hN (by omega)
        refine ⟨i + 1, vs', ms', by omega, by omega, h3, ?_⟩
        have := hg.trans h4
        rw [show 1 + i = i + 1 by omega] at this
        rw [show step + ((i + 1 : Nat) : Int) - 1 = step + 1 + (i : Int) - 1 by omega]
        exact this
/-- The whole phase. -/
theorem FwG.run (h : FwG n es j s lab ds ini C M) (hn : 0 < n) {T : StS} (hj : jobF k T.phase = some j) (hf : T.fresh = true) (hd : T.done = false) (hl : ∀ v : Int, 0 ≤ v ∧ v < (n : Int) → (vlA T.vals v).2 = lab v) :
    ∃ (i : Nat) (vs' : List Ml) (ms' : List (List Int)), 1 ≤ i ∧ i ≤ n + 1 ∧ FwE n lab ds ini (vlA T.vals) vs' ms' ∧ GoesR n es k s i T (behR j (T.step + i - 1) T.phase vs' ms') := by
  have hov := h.small_first hf hl
  have hg := GoesR.one (n := n) (es := es) (k := k) (s := s) hd hj hov
  have hN := h.first hf hl
  by_cases hz : manyL (mailR n j (rndV j s T) es) = 0
  · refine ⟨1, _, _, Nat.le_refl _, by omega, hN.ended h (by omega) hz, ?_⟩
    rw [show T.step + ((1 : Nat) : Int) - 1 = T.step by omega]
    exact hg
  · have hb : nextS n es j s T = ⟨T.step + 1, T.phase, false, false, valsR n (rndV j s T), mailR n j (rndV j s T) es⟩ := by
      unfold nextS behR
      rw [if_pos (by omega)]
    rw [hb] at hg
    obtain ⟨i, vs', ms', h1, h2, h3, h4⟩ := h.rest hj (n - 1) 1 (T.step + 1) _ _ (by omega) (by omega) hN (by omega)
    refine ⟨i + 1, vs', ms', by omega, by omega, h3, ?_⟩
    have := hg.trans h4
    rw [show 1 + i = i + 1 by omega] at this
    rw [show T.step + ((i + 1 : Nat) : Int) - 1 = T.step + 1 + (i : Int) - 1 by omega]
    exact this
end
end Go.Proofs.Ytbmkgnlfccigpaa

namespace Go.Proofs.Ytbmkgnlfccigpaa
set_option maxRecDepth 100000

theorem vlA_rep {n : Nat} {v : Int} : vlA (List.replicate n (-1, -1)) v = (-1, -1) := by
  unfold vlA
  rw [List.getD_eq_getElem?_getD, List.getElem?_replicate]
  split <;> rfl
theorem atD_fst {l : List Ml} {n : Nat} {v : Int} (hl : l.length = n) (hv : 0 ≤ v ∧ v < (n : Int)) : atD (l.map fun x => x.1) v = (vlA l v).1 := by
  have h : v.toNat < l.length := by omega
  unfold atD vlA
  rw [List.getD_eq_getElem?_getD, List.getD_eq_getElem?_getD, List.getElem?_map, List.getElem?_eq_getElem h]
  rfl
theorem atD_snd {l : List Ml} {n : Nat} {v : Int} (hl : l.length = n) (hv : 0 ≤ v ∧ v < (n : Int)) : atD (l.map fun x => x.2) v = (vlA l v).2 := by
  have h : v.toNat < l.length := by omega
  unfold atD vlA
  rw [List.getD_eq_getElem?_getD, List.getD_eq_getElem?_getD, List.getElem?_map, List.getElem?_eq_getElem h]
  rfl
/-- An edge that adds nothing. -/
def zE (e : Ed) : Ed := (e.1, e.2.1, 0)
theorem sumW_z {ds p : List Ed} (h : ∀ e ∈ p, e ∈ ds.map zE) : sumW p = 0 := by
  induction p with
  | nil => rfl
  | cons e p ih =>
    rw [sumW_cons, ih fun d hd => h d (by simp [hd])]
    obtain ⟨d, _, rfl⟩ := List.mem_map.1 (h e (by simp))
    rfl
theorem rch_z {ds : List Ed} {u v : Int} : Rch (ds.map zE) u v ↔ Rch ds u v := by
  constructor
  · rintro ⟨p, hp, hc⟩
    exact walk_ind (es := ds.map zE) (P := fun _ v => Rch ds u v) (Rch.refl _ _) (fun q e _ he _ ih => by
      obtain ⟨d, hd, rfl⟩ := List.mem_map.1 he
      exact Rch.step (e := d) ih hd) p.length p v rfl hp hc
  · rintro ⟨p, hp, hc⟩
    exact walk_ind (es := ds) (P := fun _ v => Rch (ds.map zE) u v) (Rch.refl _ _) (fun q e _ he _ ih => by
      exact Rch.step (e := zE e) ih (List.mem_map.2 ⟨e, he, rfl⟩)) p.length p v rfl hp hc
/-- Numbers of vertices, along edges that add nothing. -/
def iniV (n : Nat) (lab : Int → Int) (v : Int) : Int := if (0 ≤ v ∧ v < (n : Int)) ∧ lab v = -1 then v else -1
theorem iniV_in {n : Nat} {lab : Int → Int} {v : Int} (hv : 0 ≤ v ∧ v < (n : Int)) (ha : lab v = -1) : iniV n lab v = v := if_pos ⟨hv, ha⟩
theorem wkk_z {n : Nat} {ds : List Ed} {lab : Int → Int} {v x : Int} : Wkk n (ds.map zE) (iniV n lab) v x ↔ (0 ≤ x ∧ x < (n : Int)) ∧ lab x = -1 ∧ Rch ds x v := by
  constructor
  · rintro ⟨u, p, hu, h0, hp, hc, hx⟩
    rw [sumW_z hp] at hx
    have hl : lab u = -1 := by
      apply Classical.byContradiction
      intro hne
      rw [show iniV n lab u = -1 from if_neg fun h => hne h.2] at h0
      omega
    rw [iniV_in hu hl] at hx
    have : u = x := by omega
    subst this
    exact ⟨hu, hl, rch_z.1 ⟨p, hp, hc⟩⟩
  · rintro ⟨hx, hl, hr⟩
    obtain ⟨p, hp, hc⟩ := rch_z.2 hr
    refine ⟨x, p, hx, ?_, hp, hc, ?_⟩
    · rw [iniV_in hx hl]; exact hx.1
    · rw [iniV_in hx hl, sumW_z hp]; omega
theorem iniV_bd {n : Nat} (hn : 0 < n) (lab : Int → Int) (v : Int) : -1 ≤ iniV n lab v ∧ iniV n lab v ≤ (n : Int) - 1 := by
  unfold iniV
  split <;> omega

def iniD (s v : Int) : Int := if v = s then 0 else -1
theorem dist_fw {n : Nat} {es : List Ed} {s M : Int} (hg : InG n es) (hM : 0 ≤ M) (hw : ∀ e ∈ es, e.2.2 ≤ M) (ht : ((n : Int) + 1) * M ≤ 4398046511104) : FwG n es (false, false) s (fun _ => -1) es (iniD s) 0 M where
  gr := ⟨hg, fun _ _ => ⟨rfl, rfl⟩, fun _ _ => rfl⟩
  ing := hg
  inn := fun v => by unfold iniD; split <;> omega
  wgt := hw
  cps := ⟨Int.le_refl _, hM⟩
  fr := fun v _ x _ _ => by
    show (if v = s then ((0, -1), true) else ((-1, -1), false)) = _
    unfold iniD
    split <;> rfl
  he := fun _ _ _ => rfl
  st := fun _ _ h => absurd rfl h
  way := fun r _ u _ _ x => by
    rw [msgs_mem]
    constructor
    · rintro (⟨e, he, _, h2, h3, h4⟩ | ⟨e, he, h1, _⟩)
      · exact ⟨e, he, h2, h3, h4⟩
      · cases h1
    · rintro ⟨e, he, h2, h3, h4⟩
      exact .inl ⟨e, he, rfl, h2, h3, h4⟩
  ov := fun e he a => by
    have := hw e he
    show a + e.2.2 ≤ a + M
    omega
  top := by
    show 0 + ((n : Int) + 1) * M ≤ 4398046511104
    omega
theorem wkk_dist {n : Nat} {es : List Ed} {s v x : Int} (hs : 0 ≤ s ∧ s < (n : Int)) : Wkk n es (iniD s) v x ↔ ∃ p, (∀ e ∈ p, e ∈ es) ∧ Chn s p v ∧ sumW p = x := by
  constructor
  · rintro ⟨u, p, _, h0, hp, hc, hx⟩
    have e : u = s := by
      apply Classical.byContradiction
      intro hne
      rw [show iniD s u = -1 from if_neg hne] at h0
      omega
    subst e
    rw [show iniD u u = 0 from if_pos rfl] at hx
    exact ⟨p, hp, hc, by omega⟩
  · rintro ⟨p, hp, hc, hx⟩
    exact ⟨s, p, hs, by rw [show iniD s s = 0 from if_pos rfl]; exact Int.le_refl _, hp, hc, by rw [show iniD s s = 0 from if_pos rfl]; omega⟩
/-- Rounds of Dist. -/
theorem dist_rounds {n : Nat} {es : List Ed} {s M : Int} (hn : 0 < n) (hs : 0 ≤ s ∧ s < (n : Int)) (hg : InG n es) (hM : 0 ≤ M) (hw : ∀ e ∈ es, e.2.2 ≤ M) (ht : ((n : Int) + 1) * M ≤ 4398046511104) :
    ∃ (i : Nat) (t : StS), 1 ≤ i ∧ i ≤ n + 1 ∧ GoesR n es 1 s i (beginS n) t ∧ t.done = true ∧ t.step = i ∧ t.vals.length = n ∧ (t.vals.map fun x => x.1) = distF n es s := by
  obtain ⟨i, vs, ms, h1, h2, h3, h4⟩ := (dist_fw (s := s) hg hM hw ht).run (k := 1) hn (T := beginS n) rfl (by simp [beginS, hn]) (by simp [beginS]; omega) (fun v _ => by rw [show (beginS n).vals = List.replicate n (-1, -1) from rfl, vlA_rep])
  have hb : behR (false, false) ((beginS n).step + i - 1) (beginS n).phase vs ms = ⟨i, 0, false, true, vs, ms⟩ := by
    unfold behR
    rw [if_neg (by rw [h3.no]; omega), if_pos (by simp)]
    simp [beginS]
  rw [hb] at h4
  refine ⟨i, _, h1, h2, h4, rfl, rfl, h3.lv, dist_uniq hg hs ⟨by simp [h3.lv], fun v hv => ?_⟩⟩
  rw [atD_fst h3.lv hv]
  rcases (h3.on v hv rfl).2 with ⟨g1, g2⟩ | ⟨g1, g2, g3⟩
  · exact .inl ⟨g1, fun ⟨p, hp, hc⟩ => g2 _ ((wkk_dist hs).2 ⟨p, hp, hc, rfl⟩)⟩
  · exact .inr ⟨g1, (wkk_dist hs).1 g2, fun p hp hc => g3 _ ((wkk_dist hs).2 ⟨p, hp, hc, rfl⟩)⟩

theorem weak_fw {n : Nat} {es : List Ed} {s : Int} (hn : 0 < n) (hn2 : n ≤ 200) (hg : InG n es) : FwG n es (false, true) s (fun _ => -1) ((bothW es).map zE) (iniV n fun _ => -1) ((n : Int) - 1) 0 where
  gr := ⟨fun e he => by
    obtain ⟨d, hd, rfl⟩ := List.mem_map.1 he
    obtain ⟨f0, f1, t0, t1, _⟩ := both_in hg d hd
    exact ⟨f0, f1, t0, t1, Int.le_refl _⟩, fun _ _ => ⟨rfl, rfl⟩, fun _ _ => rfl⟩
  ing := hg
  inn := iniV_bd hn _
  wgt := fun e he => by obtain ⟨d, _, rfl⟩ := List.mem_map.1 he; exact Int.le_refl _
  cps := ⟨by omega, Int.le_refl _⟩
  fr := fun v hv x _ _ => by
    show ((v, -1), true) = _
    rw [iniV_in hv rfl]
    simp [hv.1]
  he := fun _ _ _ => rfl
  st := fun _ _ h => absurd rfl h
  way := fun r _ u _ _ x => by
    rw [msgs_mem]
    constructor
    · rintro (⟨e, he, _, h2, h3, h4⟩ | ⟨e, he, _, h2, h3, h4⟩)
      · exact ⟨zE e, List.mem_map.2 ⟨e, List.mem_append.2 (.inl he), rfl⟩, h2, h3, by rw [h4]; show (r e.1).1.1 = (r e.1).1.1 + 0; omega⟩
      · exact ⟨zE (e.2.1, e.1, e.2.2), List.mem_map.2 ⟨_, List.mem_append.2 (.inr (List.mem_map.2 ⟨e, he, rfl⟩)), rfl⟩, h2, h3, by rw [h4]; show (r e.2.1).1.1 = (r e.2.1).1.1 + 0; omega⟩
    · rintro ⟨e, he, h2, h3, h4⟩
      obtain ⟨d, hd, rfl⟩ := List.mem_map.1 he
      rcases List.mem_append.1 hd with hd | hd
      · exact .inl ⟨d, hd, rfl, h2, h3, by rw [h4]; show (r d.1).1.1 + 0 = (r d.1).1.1; omega⟩
      · obtain ⟨c, hc, rfl⟩ := List.mem_map.1 hd
        exact .inr ⟨c, hc, rfl, h2, h3, by rw [h4]; show (r c.2.1).1.1 + 0 = (r c.2.1).1.1; omega⟩
  ov := fun e _ a => by show a ≤ a + 0; omega
  top := by
    show (n : Int) - 1 + ((n : Int) + 1) * 0 ≤ 199
    omega
theorem weak_rounds {n : Nat} {es : List Ed} {s : Int} (hn : 0 < n) (hn2 : n ≤ 200) (hg : InG n es) :
    ∃ (i : Nat) (t : StS), 1 ≤ i ∧ i ≤ n + 1 ∧ GoesR n es 2 s i (beginS n) t ∧ t.done = true ∧ t.step = i ∧ t.vals.length = n ∧ (t.vals.map fun x => x.1) = weakF n es := by
  obtain ⟨i, vs, ms, h1, h2, h3, h4⟩ := (weak_fw (s := s) hn hn2 hg).run (k := 2) hn (T := beginS n) rfl (by simp [beginS, hn]) (by simp [beginS]; omega) (fun v _ => by rw [show (beginS n).vals = List.replicate n (-1, -1) from rfl, vlA_rep])
  have hb : behR (false, true) ((beginS n).step + i - 1) (beginS n).phase vs ms = ⟨i, 0, false, true, vs, ms⟩ := by
    unfold behR
    rw [if_neg (by rw [h3.no]; omega), if_pos (by simp)]
    simp [beginS]
  rw [hb] at h4
  refine ⟨i, _, h1, h2, h4, rfl, rfl, h3.lv, weak_uniq hg ⟨by simp [h3.lv], fun v hv => ?_⟩⟩
  rw [atD_fst h3.lv hv]
  rcases (h3.on v hv rfl).2 with ⟨_, g2⟩ | ⟨g1, g2, g3⟩
  · exact absurd (wkk_z.2 ⟨hv, rfl, Rch.refl _ _⟩) (g2 v)
  · obtain ⟨k1, _, k2⟩ := wkk_z.1 g2
    exact ⟨k1, k2, fun u hu hr => g3 u (wkk_z.2 ⟨hu, rfl, hr⟩)⟩
end Go.Proofs.Ytbmkgnlfccigpaa

namespace Go.Proofs.Ytbmkgnlfccigpaa
set_option maxRecDepth 100000
open Go.ChangeShapes Go.WideShapes Go.ChangeAt Go.RowKit

/-- A whole store into a box of four cells. -/
def put4 (w : World) (q : Nat) (a b c d : Value) : World := (((w.setCell ⟨q, 0, none⟩ a).setCell ⟨q, 1, none⟩ b).setCell ⟨q, 2, none⟩ c).setCell ⟨q, 3, none⟩ d
theorem BX.put4 {t : TypeId} {w : World} {q : Nat} {a b c d x1 x2 x3 x4 : Value} (h : BX t w q #[a, b, c, d]) : BX t (Go.Proofs.Ytbmkgnlfccigpaa.put4 w q x1 x2 x3 x4) q #[x1, x2, x3, x4] := (((h.set 0 x1).set 1 x2).set 2 x3).set 3 x4
theorem kept_put4 (w : World) (q : Nat) (a b c d : Value) : Kept (fun k => k = q) w (Go.Proofs.Ytbmkgnlfccigpaa.put4 w q a b c d) := (((Kept.box _ _ _ _).trans (Kept.box _ _ _ _)).trans (Kept.box _ _ _ _)).trans (Kept.box _ _ _ _)
end Go.Proofs.Ytbmkgnlfccigpaa
