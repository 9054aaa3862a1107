/-
  P7.1 in plain mathematics: the bytes of a part.
  Contracts of store.insist and of the reader's number: what is no part gives up by a panic.
  Contracts of store's compare and of slices.IsSortedFunc with it.
  Contract of the reader's hops.
  A region that draws its order, whose last operation waits for all others: the others in whatever order, then that one. (So the last one may store into what the others have read.)
  Calls in a region that draws its order: one whose result is told by a relation, one that gives up by a panic.
  Contract of owner.check.
  Contract of owner.Mine.
-/
import Derived.Test.YtacpicnihgggaaaHopsPut
import Derived.Test.YtacpicnihgggaaaHopsLib
import Derived.Test.YtacpicnihgggaaaWrapWalk
import Derived.Test.YtacpicnihgggaaaStoreMem
import Derived.Test.YtacpicnihgggaaaPartMath
import Derived.Test.YtacpicnihgggaaaCmpInt
import Derived.Test.YtacpicnihgggaaaRowAt
import Derived.Deep.RegionHeld3
import Derived.Deep.QuietTactic
import Derived.BigQuiet
import Derived.Lib.QuietBelow
import Derived.Test.YtacpicnihgggaaaRowBase
import Derived.Test.YtacpicnihgggaaaOwnerMath
import Derived.Test.YtacpicnihgggaaaRowNew

namespace Go.Proofs.Ytacpicnihgggaaa
set_option maxRecDepth 100000

theorem sortE_in {n : Int} {es : List Ed} (h : faultE n es = 0) : ∀ e ∈ sortE es, 0 ≤ e.1 ∧ e.1 < n ∧ 0 ≤ e.2.1 ∧ e.2.1 < n ∧ 0 ≤ e.2.2 ∧ e.2.2 ≤ 1099511627776 := fun e he => in_of_out ((fault_ok h).2.2.2 e ((sortE_perm es).mem_iff.1 he))
theorem hops_pairs (es : List Ed) (v : Int) : (hopsL (sortE es) v).Pairwise fun x y => ¬ ltH y x := by
  unfold hopsL
  rw [List.pairwise_map]
  refine List.Pairwise.imp_of_mem ?_ ((sortE_sorted es).filter fun e => e.1 == v)
  intro a b ha hb hab
  have h1 := (List.mem_filter.1 ha).2
  have h2 := (List.mem_filter.1 hb).2
  simp only [beq_iff_eq] at h1 h2
  rw [leE_iff] at hab
  unfold ltE at hab
  unfold ltH
  simp only
  omega
theorem hops_mem {n : Int} {es : List Ed} (h : faultE n es = 0) {v : Int} : ∀ x ∈ hopsL (sortE es) v, 0 ≤ x.1 ∧ x.1 < n ∧ 0 ≤ x.2 ∧ x.2 ≤ 1099511627776 := by
  intro x hx
  unfold hopsL at hx
  obtain ⟨e, he, rfl⟩ := List.mem_map.1 hx
  have := sortE_in h e (List.mem_filter.1 he).1
  exact ⟨this.2.2.1, this.2.2.2.1, this.2.2.2.2.1, this.2.2.2.2.2⟩
theorem hops_len6 {n : Int} {es : List Ed} (h : faultE n es = 0) (v : Int) : (hopsL (sortE es) v).length ≤ 600 := by
  have h1 := hops_len (sortE es) v
  rw [sortE_len] at h1
  have := (fault_ok h).2.2.1
  omega
theorem hops_srt (es : List Ed) (v : Int) : SrtH (hopsL (sortE es) v) := by
  intro i x y hx hy
  obtain ⟨h1, rfl⟩ := List.getElem?_eq_some_iff.1 hx
  obtain ⟨h2, rfl⟩ := List.getElem?_eq_some_iff.1 hy
  exact List.pairwise_iff_getElem.1 (hops_pairs es v) i (i + 1) h1 h2 (by omega)
theorem good_of {l : List Hp} {n : Int} (hn : n ≤ 200) (hl : l.length ≤ 600) (hs : SrtH l) (hm : ∀ x ∈ l, 0 ≤ x.1 ∧ x.1 < n ∧ 0 ≤ x.2 ∧ x.2 ≤ 1099511627776) : GoodH l := by
  have hg : ∀ (i : Nat) (hi : i < l.length), (l.map Prod.fst).getD i 0 = l[i].1 := fun i hi => by
    rw [List.getD_eq_getElem?_getD, List.getElem?_map, List.getElem?_eq_getElem hi]; rfl
  refine ⟨.inr (.inr (.inr ⟨rfl, by rw [List.length_map]; omega, fun i hi => ?_, fun i hi => ?_⟩)), fun m hmm => ?_⟩
  · rw [List.length_map] at hi
    rw [hg i hi]
    have := hm _ (List.getElem_mem hi)
    omega
  · rw [List.length_map] at hi
    rw [hg i (by omega), hg (i + 1) hi]
    have := hs i _ _ (List.getElem?_eq_getElem (by omega)) (List.getElem?_eq_getElem hi)
    unfold ltH at this
    omega
  · obtain ⟨x, hx, rfl⟩ := List.mem_map.1 hmm
    have := hm x hx
    omega
theorem good_hops {n : Int} {es : List Ed} (h : faultE n es = 0) (v : Int) : GoodH (hopsL (sortE es) v) := good_of (fault_ok h).2.1 (hops_len6 h v) (hops_srt es v) (hops_mem h)
theorem turn_fault {n : Int} {es : List Ed} (h : faultE n es = 0) : faultE n (es.map turnE) = 0 := by
  obtain ⟨h0, h1, h2, h3⟩ := fault_ok h
  refine ok_fault h0 h1 (by rw [List.length_map]; exact h2) fun e he => ?_
  obtain ⟨x, hx, rfl⟩ := List.mem_map.1 he
  have := in_of_out (h3 x hx)
  unfold turnE
  exact out_of_in ⟨this.2.2.1, this.2.2.2.1⟩ ⟨this.1, this.2.1⟩ ⟨this.2.2.2.2.1, this.2.2.2.2.2⟩

/-- The hops of some vertices, forward and back. -/
def bodyB (s t : List Ed) (ml : List Int) : List Int := ml.flatMap fun v => hopsB (hopsL s v) ++ hopsB (hopsL t v)
/-- P7.1: the payload. -/
def payB (w k n : Int) (es : List Ed) : List Int := numsB [w, k, n] ++ bodyB (sortE es) (sortE (es.map turnE)) (mineL w.toNat n.toNat k.toNat)
theorem bodyB_snoc (s t : List Ed) (ml : List Int) (v : Int) : bodyB s t (ml ++ [v]) = bodyB s t ml ++ hopsB (hopsL s v) ++ hopsB (hopsL t v) := by simp [bodyB]
theorem bodyB_len {s t : List Ed} (hs : s.length ≤ 600) (ht : t.length ≤ 600) (ml : List Int) : (bodyB s t ml).length ≤ 24020 * ml.length := by
  induction ml with
  | nil => simp [bodyB]
  | cons v ml ih =>
    have h1 := hopsB_len (hopsL s v)
    have h2 := hopsB_len (hopsL t v)
    have h3 := hops_len s v
    have h4 := hops_len t v
    unfold bodyB at *
    rw [List.flatMap_cons, List.length_append, List.length_append, List.length_cons]
    omega
theorem payB_bytes {w k n : Int} {es : List Ed} (h : faultE n es = 0) (he : errO w k n k = 0) : ∀ x ∈ payB w k n es, 0 ≤ x ∧ x ≤ 255 := by
  intro x hx
  rcases List.mem_append.1 hx with hx | hx
  · refine numsB_bytes (fun m hm => ?_) x hx
    have := errO_inv he
    simp only [List.mem_cons, List.not_mem_nil, or_false] at hm
    omega
  · obtain ⟨v, _, hx⟩ := List.mem_flatMap.1 hx
    rcases List.mem_append.1 hx with hx | hx
    · exact hopsB_bytes (good_hops h v) x hx
    · exact hopsB_bytes (good_hops (turn_fault h) v) x hx
/-- P7.1. -/
def buildF (w k n : Int) (es : List Ed) : List Int × Int :=
  if faultE n es ≠ 0 then ([], faultE n es) else if errO w k n k ≠ 0 then ([], errO w k n k) else if (payB w k n es).length ≤ 20000 then (wrap (payB w k n es), 0) else ([], 1)
theorem build_fault {w k n : Int} {es : List Ed} (h : faultE n es ≠ 0) : buildF w k n es = ([], faultE n es) := by unfold buildF; rw [if_pos h]
theorem build_err {w k n : Int} {es : List Ed} (h : faultE n es = 0) (he : errO w k n k ≠ 0) : buildF w k n es = ([], errO w k n k) := by unfold buildF; rw [if_neg (by simpa using h), if_pos he]
theorem build_ok {w k n : Int} {es : List Ed} (h : faultE n es = 0) (he : errO w k n k = 0) (hl : (payB w k n es).length ≤ 20000) : buildF w k n es = (wrap (payB w k n es), 0) := by unfold buildF; rw [if_neg (by simpa using h), if_neg (by simpa using he), if_pos hl]
theorem build_over {w k n : Int} {es : List Ed} (h : faultE n es = 0) (he : errO w k n k = 0) (hl : ¬ (payB w k n es).length ≤ 20000) : buildF w k n es = ([], 1) := by unfold buildF; rw [if_neg (by simpa using h), if_neg (by simpa using he), if_neg hl]
theorem build_bytes {w k n : Int} {es : List Ed} : ∀ x ∈ (buildF w k n es).1, 0 ≤ x ∧ x ≤ 255 := by
  by_cases h : faultE n es = 0
  · by_cases he : errO w k n k = 0
    · by_cases hl : (payB w k n es).length ≤ 20000
      · rw [build_ok h he hl]; exact wrap_bytes (payB_bytes h he) hl
      · rw [build_over h he hl]; intro x hx; cases hx
    · rw [build_err h he]; intro x hx; cases hx
  · rw [build_fault h]; intro x hx; cases hx
end Go.Proofs.Ytacpicnihgggaaa

namespace Go.Proofs.Ytacpicnihgggaaa
set_option maxRecDepth 100000
open Go.ChangeShapes Go.WideShapes Go.ChangeAt Go.RowKit

/-- The panic that gives up: the error f. -/
def upP (f : Int) : Ending := .panicked [{ v := .iface 27 (.int .i64 f), recovered := false }]

set_option maxHeartbeats 400000 in
theorem insist_yes (w : World) : Calls Try.prog 38 #[.bool true] w fun e w' => e = .returned (.tuple #[]) ∧ w' = w := by
  go_enter Try.func38, Try.ntmps38
  go_wp2
  go_end0
  exact ⟨rfl, rfl⟩
set_option maxHeartbeats 400000 in
theorem insist_no (w : World) : Calls Try.prog 38 #[.bool false] w fun e w' => e = upP 3 ∧ w' = w := by
  go_enter Try.func38, Try.ntmps38
  go_wp2
  exact ⟨rfl, rfl, rfl⟩

set_option maxHeartbeats 800000 in
set_option maxRecDepth 100000 in
/-- A number that is had. -/
theorem number_ok (q : Nat) (l r : List Int) (x : Int) (w : World) (h : Rd w q l) (hx : ∀ y ∈ l, 0 ≤ y ∧ y ≤ 255) (hn : numF 1099511627776 l = some (x, r)) :
    Calls Try.prog 59 #[.pointer (some ⟨q, 0, none⟩)] w fun e w' => e = .returned (.int .i64 x) ∧ Rd w' q r ∧ Kept (fun k => k = q) w w' := by
  obtain ⟨v, hq, hr, hb⟩ := h
  have HG : Hid (∀ X, Reads .u8 X v l → Calls Try.prog 23 #[v] X fun e w' => e = .returned (.tuple #[.int .u64 (get l).1, .int .i64 (get l).2.1, .int .i64 (get l).2.2]) ∧ w' = X) := fun X hX => get_any v l X hX hx
  rcases get_inv hx with ⟨e, he, hne⟩ | ⟨n, t, he, hl, h0, h1⟩
  · rw [numF_err he hne] at hn; cases hn
  · by_cases hm : n ≤ 1099511627776
    · rw [numF_yes he hm] at hn
      injection hn with hn
      injection hn with hn1 hn2
      subst hn1 hn2
      rw [he] at HG
      have hu := put_len n
      have hul : (put n).length ≤ l.length := by rw [hl]; simp
      have HR : Hid (Reads .u8 w v l) := hr
      obtain ⟨b, off, cap, rfl, hc, hmx, hbw, hcell⟩ := hr.plain (by omega)
      have HB : b < q := hb _ _ _ rfl
      have HQ : Hid (w.heap[q]? = some (.cells #[.slice (some ⟨b, off, none⟩) l.length cap] 73 (0, 0))) := hq
      have hc0 := box1_cell hq
      have hf0 := box_frozen hq 0
      have HD : Hid (Reads .u8 w (.slice (some ⟨b, off + (put n).length, none⟩) (l.length - (put n).length) (cap - (put n).length)) (l.drop (put n).length)) := reads_drop hc hmx hcell
      unfold maxLen at hmx
      clear he hl hq hr hb hcell hx
      generalize (put n).length = u at *
      go_enter Try.func59, Try.ntmps59
      go_wp2_with fail
      refine (HG.out _ HR.out).mono ?_
      rintro e w1 ⟨rfl, rfl⟩
      go_wp2_with fail
      refine (insist_yes _).mono ?_
      rintro e w1 ⟨rfl, rfl⟩
      by_cases huc : u < cap
      · go_wp2_with fail
        go_ret
        exact ⟨rfl, Rd.next HQ.out HD.out (fun a n c e => by injection e with e; injection e with e; subst e; exact HB), Kept.box _ _ _ _⟩
      · have HE : Hid (Reads .u8 w1 (.slice (some ⟨b, off, none⟩) (l.length - u) (cap - u)) (l.drop u)) := by
          have e1 : l.drop u = [] := List.drop_eq_nil_of_le (by omega)
          show Reads _ _ _ _
          rw [e1]
          exact ⟨_, _, by rw [show l.length - u = 0 by omega]; rfl, by simp, by unfold maxLen; omega, fun h => (by cases h), fun x _ i hi => by simp at hi⟩
        go_wp2_with fail
        go_ret
        exact ⟨rfl, Rd.next HQ.out HE.out (fun a n c e => by injection e with e; injection e with e; subst e; exact HB), Kept.box _ _ _ _⟩
    · rw [numF_big he (by omega)] at hn; cases hn

set_option maxHeartbeats 800000 in
set_option maxRecDepth 100000 in
/-- What is no number gives up. -/
theorem number_no (q : Nat) (l : List Int) (w : World) (h : Rd w q l) (hx : ∀ y ∈ l, 0 ≤ y ∧ y ≤ 255) (hn : numF 1099511627776 l = none) :
    Calls Try.prog 59 #[.pointer (some ⟨q, 0, none⟩)] w fun e w' => e = upP 3 ∧ w' = w := by
  obtain ⟨v, hq, hr, hb⟩ := h
  have HG : Hid (∀ X, Reads .u8 X v l → Calls Try.prog 23 #[v] X fun e w' => e = .returned (.tuple #[.int .u64 (get l).1, .int .i64 (get l).2.1, .int .i64 (get l).2.2]) ∧ w' = X) := fun X hX => get_any v l X hX hx
  have HR : Hid (Reads .u8 w v l) := hr
  have hc0 := box1_cell hq
  obtain ⟨va, vc, rfl, _⟩ := hr
  rcases get_inv hx with ⟨e, he, hne⟩ | ⟨n, t, he, hl, h0, h1⟩
  · rw [he] at HG
    have he1 : (e == 0) = false := by simpa using hne
    clear hn he hx hb hne
    go_enter Try.func59, Try.ntmps59
    go_wp2_with fail
    refine (HG.out _ HR.out).mono ?_
    rintro e w1 ⟨rfl, rfl⟩
    go_wp2_with fail
    refine (insist_no _).mono ?_
    rintro e w1 ⟨rfl, rfl⟩
    exact ⟨rfl, rfl, rfl⟩
  · by_cases hm : n ≤ 1099511627776
    · rw [numF_yes he hm] at hn; cases hn
    · rw [he] at HG
      clear hn he hx hb hl
      generalize (put n).length = u at *
      go_enter Try.func59, Try.ntmps59
      go_wp2_with fail
      refine (HG.out _ HR.out).mono ?_
      rintro e w1 ⟨rfl, rfl⟩
      go_wp2_with fail
      rw [decide_eq_false (by omega)]
      refine (insist_no _).mono ?_
      rintro e w1 ⟨rfl, rfl⟩
      exact ⟨rfl, rfl, rfl⟩
end Go.Proofs.Ytacpicnihgggaaa

namespace Go.Proofs.Ytacpicnihgggaaa
set_option maxRecDepth 100000
open Go.ChangeShapes Go.WideShapes Go.ChangeAt Go.RowKit Go.Sort

/-- The first that is not 0. -/
def or2 (a b : Int) : Int := if a ≠ 0 then a else b

set_option maxHeartbeats 1000000 in
theorem cmpOr2_any (a b : Int) (q : Nat) (w : World) (h0 : w.cell? ⟨q, 0, none⟩ = some (.int .i64 a)) (h1 : w.cell? ⟨q, 1, none⟩ = some (.int .i64 b)) :
    Calls Try.prog 81 #[.slice (some ⟨q, 0, none⟩) 2 2] w fun e w' => e = .returned (.int .i64 (or2 a b)) ∧ w' = w := by
  unfold or2
  by_cases ha : a ≠ 0
  · rw [if_pos ha]
    have ha' : (a != 0) = true := by simpa using ha
    go_enter Try.func81, Try.ntmps81
    go_wp2
    refine wp_loop_rounds 1 ?_
    rw [rounds_succ]
    go_wp2
    go_ret
    exact ⟨rfl, rfl⟩
  · rw [if_neg ha]
    have ha' : (a != 0) = false := by simpa using ha
    by_cases hb : b ≠ 0
    · have hb' : (b != 0) = true := by simpa using hb
      go_enter Try.func81, Try.ntmps81
      go_wp2
      refine wp_loop_rounds 2 ?_
      rw [rounds_succ]
      go_wp2
      rw [rounds_succ]
      go_wp2
      go_ret
      exact ⟨rfl, rfl⟩
    · have hb' : (b != 0) = false := by simpa using hb
      have hb0 : b = 0 := by simpa using hb
      go_enter Try.func81, Try.ntmps81
      go_wp2
      refine wp_loop_rounds 3 ?_
      rw [rounds_succ]
      go_wp2
      rw [rounds_succ]
      go_wp2
      rw [rounds_succ]
      go_wp2
      go_ret
      exact ⟨by rw [hb0]; rfl, rfl⟩

/-- To, then Weight. -/
def cmpH (x y : Hp) : Int := or2 (cmpI x.1 y.1) (cmpI x.2 y.2)
theorem cmpH_lt (x y : Hp) : decide (cmpH x y < 0) = ltHb x y := by
  unfold ltHb
  congr 1
  unfold cmpH or2 cmpI
  refine propext ⟨fun h => ?_, fun h => ?_⟩
  · split at h <;> (try split at h) <;> omega
  · split <;> (try split) <;> omega
/-- The boxes of the two hops, and what was there. -/
def CmpT (W V : World) (a0 a1 b0 b1 : Int) : Prop :=
  V.cell? ⟨W.heap.size, 0, none⟩ = some (.int .i64 a0) ∧ V.cell? ⟨W.heap.size + 1, 0, none⟩ = some (.int .i64 b0) ∧ V.cell? ⟨W.heap.size, 1, none⟩ = some (.int .i64 a1) ∧ V.cell? ⟨W.heap.size + 1, 1, none⟩ = some (.int .i64 b1) ∧ W.heap.size ≤ V.heap.size ∧ Below W.heap.size W V
theorem cmpT_start (W : World) (a0 a1 b0 b1 : Int) : CmpT W ((W.alloc (.cells #[.int .i64 a0, .int .i64 a1] 87)).alloc (.cells #[.int .i64 b0, .int .i64 b1] 87)).drew a0 a1 b0 b1 :=
  ⟨by simp, by simp, by simp, by simp, by simp; omega, ((below_alloc W _).alloc (by simp) _).drew⟩
theorem cmpT_alloc {W V : World} {a0 a1 b0 b1 : Int} (h : CmpT W V a0 a1 b0 b1) (o : Obj) : CmpT W (V.alloc o) a0 a1 b0 b1 := by
  obtain ⟨h1, h2, h3, h4, h5, h6⟩ := h
  have c : ∀ {p : Addr} {v : Value}, V.cell? p = some v → (V.alloc o).cell? p = some v := fun {p v} hp => ((below_alloc V o).cell (p := p) (World.block_lt_of_cell? V p hp)).trans hp
  exact ⟨c h1, c h2, c h3, c h4, by simp; omega, h6.alloc h5 o⟩
theorem heap_third' (w : World) (o1 o2 : Obj) (cs : Array Value) (t : TypeId) : (((w.alloc o1).alloc o2).alloc (.cells cs t)).drew.heap[w.heap.size + 1 + 1]? = some (.cells cs t (0, 0)) := by
  have := heap_second (w.alloc o1) o2 cs t
  have e : (w.alloc o1).heap.size = w.heap.size + 1 := by simp
  rw [e] at this
  exact this

set_option maxHeartbeats 2000000 in
set_option maxRecDepth 100000 in
theorem hopCmp_any (x y : Hp) (W : World) : Calls Try.prog 76 #[.agg #[.int .i64 x.1, .int .i64 x.2], .agg #[.int .i64 y.1, .int .i64 y.2]] W fun e w' => e = .returned (.int .i64 (cmpH x y)) ∧ Below W.heap.size W w' := by
  unfold cmpH
  obtain ⟨a0, a1⟩ := x
  obtain ⟨b0, b1⟩ := y
  simp only
  have HS0 : Hid (CmpT W _ a0 a1 b0 b1) := cmpT_start W a0 a1 b0 b1
  generalize hor : or2 (cmpI a0 b0) (cmpI a1 b1) = rr
  have c3 : Hid (∀ (q : Nat) (V : World), V.heap[q]? = some (.cells #[.int .i64 (cmpI a0 b0), .int .i64 (cmpI a1 b1)] 3 (0, 0)) → Calls Try.prog 81 #[.slice (some ⟨q, 0, none⟩) 2 2] V fun e w' => e = .returned (.int .i64 rr) ∧ w' = V) := fun q V h => by rw [← hor]; exact cmpOr2_any _ _ q V (by rw [cell_of_row _ _ _ _ _ _ h]; rfl) (by rw [cell_of_row _ _ _ _ _ _ h]; rfl)
  clear hor
  go_enter Try.func76, Try.ntmps76
  go_wp2_with fail
  go_region_held3 (fun V => V.cell? ⟨W.heap.size, 0, none⟩ = some (.int .i64 a0) ∧ V.cell? ⟨W.heap.size + 1, 0, none⟩ = some (.int .i64 b0) ∧ V.cell? ⟨W.heap.size, 1, none⟩ = some (.int .i64 a1) ∧ V.cell? ⟨W.heap.size + 1, 1, none⟩ = some (.int .i64 b1) ∧ W.heap.size ≤ V.heap.size ∧ Below W.heap.size W V) (first | exact HS0.out | assumption | exact cmpT_alloc (by assumption) _) (first | (go_at_call 82; refine (cmpInt_any _ _ _).mono ?_; rintro e w1 ⟨rfl, rfl⟩) | (go_at_call 81; refine (c3.out _ _ (heap_third' _ _ _ _ _)).mono ?_; rintro e w1 ⟨rfl, rfl⟩))
  all_goals (rename_i hh; clear hh)
  go_wp2_with fail
  go_ret
  exact ⟨rfl, (((below_alloc W _).alloc (by simp) _).alloc (by simp; omega) _).drew⟩

set_option maxHeartbeats 1000000 in
set_option maxRecDepth 100000 in
theorem hopSrt_any (v : Value) (l : List Hp) (w : World) (h : HpR w v l) :
    Calls Try.prog 75 #[v, .func (.func 76) #[] #[]] w fun e w' => e = .returned (.bool (srtB l)) ∧ Below w.heap.size w w' := by
  by_cases hn : 0 < l.length
  · obtain ⟨b, off, cap, rfl, hc, hm, hb, hv⟩ := HpR.at h hn
    unfold maxLen at hm
    have HC : Hid (∀ i x, l[i]? = some x → w.cell? ⟨b, off + i * 2, none⟩ = some (.int .i64 x.1) ∧ w.cell? ⟨b, off + i * 2 + 1, none⟩ = some (.int .i64 x.2)) := hv
    have HT : Hid (SrtH l → srtB l = true) := (srtB_iff l).2
    have HF : Hid (¬ SrtH l → srtB l = false) := fun h => by rw [Bool.eq_false_iff]; exact fun h2 => h ((srtB_iff l).1 h2)
    clear hv h
    generalize srtB l = r at *
    go_enter Try.func75, Try.ntmps75
    go_wp2_with fail
    go_loopw [5] (fun i wr => ∃ k : Nat, k < l.length ∧ i = .int .i64 k ∧ (∀ i x y, k ≤ i → l[i]? = some x → l[i + 1]? = some y → ¬ ltH y x) ∧ Below w.heap.size w wr) (fun i _ => (intOf i).toNat)
    case atStart => exact ⟨l.length - 1, by omega, by go_num, fun i x y hi _ h2 => by have := (List.getElem?_eq_some_iff.1 h2).1; omega, Below.refl _ _⟩
    case round =>
      obtain ⟨k, hk, rfl, hs, hbel⟩ := hrel
      have HS : Hid (∀ i x y, k ≤ i → l[i]? = some x → l[i + 1]? = some y → ¬ ltH y x) := hs
      have HB : Hid (Below w.heap.size w wr) := hbel
      have hsr := hbel.size
      clear hs hbel
      by_cases hlt : 0 < k
      · obtain ⟨j, rfl⟩ : ∃ j, k = j + 1 := ⟨k - 1, by omega⟩
        obtain ⟨x, hx⟩ := getX hk
        obtain ⟨y, hy⟩ := getX (show j < l.length by omega)
        obtain ⟨x1, x2⟩ := HC.out _ _ hx
        obtain ⟨y1, y2⟩ := HC.out _ _ hy
        have g1 := cell_regrown ((HB.out.cell (p := ⟨b, off + (j + 1) * 2, none⟩) (by exact hb)).trans x1)
        have g2 := cell_regrown ((HB.out.cell (p := ⟨b, off + (j + 1) * 2 + 1, none⟩) (by exact hb)).trans x2)
        have g3 := cell_regrown ((HB.out.cell (p := ⟨b, off + j * 2, none⟩) (by exact hb)).trans y1)
        have g4 := cell_regrown ((HB.out.cell (p := ⟨b, off + j * 2 + 1, none⟩) (by exact hb)).trans y2)
        have HN : Hid (¬ ltH x y → ∀ i a b, j ≤ i → l[i]? = some a → l[i + 1]? = some b → ¬ ltH b a) := fun h i a b hi ha hb2 => by
          by_cases e : i = j
          · subst e
            rw [hy] at ha
            rw [hx] at hb2
            injection ha with ha
            injection hb2 with hb2
            subst ha hb2
            exact h
          · exact HS.out i a b (by omega) ha hb2
        have HR : Hid (ltH x y → r = false) := fun h => HF.out fun h2 => h2 j y x hy hx h
        have HCC : Hid (decide (cmpH x y < 0) = ltHb x y) := cmpH_lt x y
        have EE : ∀ d os, Calls Try.prog 76 #[.agg #[.int .i64 x.1, .int .i64 x.2], .agg #[.int .i64 y.1, .int .i64 y.2]] (grow (redrawn wr d) os) fun e w'' => e = .returned (.int .i64 (cmpH x y)) ∧ ∃ p : Regrown, w'' = grow (redrawn wr p.d) p.os := fun d os => Calls.regrown_of (hopCmp_any x y _)
        generalize cmpH x y = c at *
        have i1 : (j : Int) + 1 < (l.length : Int) := by omega
        have i2 : (j : Int) < (l.length : Int) := by omega
        have i3 : (0 : Int) ≤ (j : Int) := by omega
        have i4 : (0 : Int) ≤ (j : Int) + 1 := by omega
        have i5 : (j : Int) + 1 - 1 = (j : Int) := by omega
        have i6 : IntKind.i64.wrap (j : Int) = (j : Int) := wrap_id64 (by omega) (by omega)
        clear x1 x2 y1 y2 hx hy HS
        go_wp2_with fail
        refine wp_region_quiet_below (by kernel_rfl) (by kernel_rfl) ?_
        repeat (quiet_step (exact EE _ _))
        refine wpQuiet_nil ?_
        intro _ hw'
        obtain ⟨⟨dq, osq⟩, hw''⟩ := hw'
        have HB9 : Hid (Below w.heap.size w (grow (redrawn wr dq) osq)) := HB.out.trans ((below_regrown wr dq osq).mono hsr)
        subst hw''
        generalize grow (redrawn wr dq) osq = W9 at HB9 ⊢
        clear g1 g2 g3 g4 EE
        by_cases hxy : c < 0
        · have HX : Hid (r = false) := HR.out (ltHb_true.1 (by rw [← HCC.out]; exact decide_eq_true hxy))
          go_wp2_with fail
          go_ret
          exact ⟨by rw [HX.out]; rfl, HB9.out⟩
        · have HX : Hid _ := HN.out (ltHb_false.1 (by rw [← HCC.out]; exact decide_eq_false hxy))
          go_wp2_with fail
          go_roundw
          case rel => exact ⟨j, by omega, by go_num, HX.out, HB9.out⟩
          case measure => simp [intOf]
      · have HX : Hid (r = true) := HT.out fun i x y h1 h2 => HS.out i x y (by omega) h1 h2
        go_wp2_with fail
        go_ret
        exact ⟨by rw [HX.out]; rfl, HB.out⟩
  · have e1 : l = [] := List.eq_nil_of_length_eq_zero (by omega)
    subst e1
    obtain ⟨a, c, rfl, _, _⟩ := h
    clear hn
    go_enter Try.func75, Try.ntmps75
    go_wp2_with fail
    refine wp_loop_rounds 1 ?_
    rw [rounds_succ]
    go_wp2
    go_ret
    exact ⟨rfl, Below.refl _ _⟩
end Go.Proofs.Ytacpicnihgggaaa

namespace Go.Proofs.Ytacpicnihgggaaa
set_option maxRecDepth 100000
open Go.ChangeShapes Go.WideShapes Go.ChangeAt Go.RowKit

set_option maxHeartbeats 2000000 in
set_option maxRecDepth 100000 in
theorem hopsRd_any (q : Nat) (l : List Int) (n : Int) (w : World) (h : Rd w q l) (hx : ∀ y ∈ l, 0 ≤ y ∧ y ≤ 255) :
    Calls Try.prog 60 #[.pointer (some ⟨q, 0, none⟩), .int .i64 n] w fun e w' => Kept (fun k => k = q) w w' ∧
      ((∃ p v', hopsC n l = some p ∧ e = .returned v' ∧ w'.ownsRow w.heap.size 87 2 v' p.1.length (p.1.flatMap encH) ∧ Rd w' q p.2) ∨ (hopsC n l = none ∧ e = upP 3)) := by
  have hql := h.lt
  obtain ⟨v, hq, hr, hb⟩ := h
  have HU : Hid (∀ X, Reads .u8 X v l → Calls Try.prog 74 #[v] X fun e w' => ∃ v', e = .returned (.tuple #[v', .int .i64 (ungap l).2.1, .int .i64 (ungap l).2.2]) ∧ w'.ownsRow X.heap.size 3 1 v' (ungap l).1.length ((ungap l).1.map (Value.int .i64)) ∧ Below X.heap.size X w') := fun X hX => ungap_any v l X hX hx
  have HR : Hid (Reads .u8 w v l) := hr
  have hc0 := box1_cell hq
  rcases ungap_inv hx with ⟨e, he, hne⟩ | ⟨tos, u, he, hN, hul, hu1, _⟩
  · have HN : Hid (hopsC n l = none) := by show hopsC n l = none; unfold hopsC; rw [he]; exact if_neg hne
    have he1 : (e == 0) = false := by simpa using hne
    rw [he] at HU
    obtain ⟨va, vc, rfl, _⟩ := hr
    clear he hx hb hne
    go_enter Try.func60, Try.ntmps60
    go_wp2_with fail
    refine (HU.out _ HR.out).mono ?_
    rintro e w1 ⟨v1, rfl, _, hb1⟩
    have HB1 : Hid (Below w.heap.size w w1) := hb1
    clear hb1
    go_wp2_with fail
    refine (insist_no _).mono ?_
    rintro e w2 ⟨rfl, rfl⟩
    exact ⟨rfl, .of HB1.out, .inr ⟨HN.out, rfl⟩⟩
  · have HH : Hid (hopsC n l = (wtsC n tos [] (l.drop u)).filter fun p => srtB p.1) := by show hopsC n l = _; unfold hopsC; rw [he]; exact if_pos rfl
    have hT := (named_rises hN).2.2
    rw [he] at HU
    simp only at HU
    obtain ⟨b, off, cap, rfl, hc, hmx, hbw, hcell⟩ := hr.plain (by omega)
    have HBq : b < q := hb _ _ _ rfl
    have HQ : Hid (w.heap[q]? = some (.cells #[.slice (some ⟨b, off, none⟩) l.length cap] 73 (0, 0))) := hq
    have HX : Hid (∀ y ∈ l.drop u, 0 ≤ y ∧ y ≤ 255) := fun y hy => hx y (List.mem_of_mem_drop hy)
    have HD : Hid (∀ X, Below w.heap.size w X → Reads .u8 X (.slice (some ⟨b, cutO off u cap, none⟩) (l.length - u) (cap - u)) (l.drop u)) := fun X hX => reads_cut hc hmx hul (fun i hi => (hX.cell (p := ⟨b, off + i, none⟩) hbw).trans (hcell i hi))
    have hcut := run_cut b off l.length cap u hul hc
    unfold maxLen at hmx
    clear he hN hq hr hb hcell hx
    generalize cutO off u cap = co at *
    generalize l.drop u = l1 at *
    go_enter Try.func60, Try.ntmps60
    go_wp2_with fail
    refine (HU.out _ HR.out).mono ?_
    rintro e w1 ⟨tv, rfl, hown1, hb1⟩
    have HB1 : Hid (Below w.heap.size w w1) := hb1
    have hs1 := hb1.size
    have OT1 : Hid (w1.ownsRow w.heap.size 3 1 tv tos.length (tos.map (Value.int .i64))) := hown1
    obtain ⟨ta, tc, rfl⟩ : ∃ a c, tv = .slice a tos.length c := by obtain ⟨a, c, e, _⟩ := reads_own hown1; exact ⟨_, _, e⟩
    have htc : tc ≤ maxLen := by obtain ⟨_, _, e, _, h, _⟩ := reads_own hown1; injection e with _ _ e3; rw [e3]; exact h
    unfold maxLen at htc
    have HQ1 : Hid (w1.heap[q]? = some (.cells #[.slice (some ⟨b, off, none⟩) l.length cap] 73 (0, 0))) := by show _ = _; rw [hb1.block q hql]; exact HQ.out
    have hc1 := box1_cell HQ1.out
    have hf1 := box_frozen HQ1.out 0
    clear hown1 hb1
    go_wp2_with fail
    refine (insist_yes _).mono ?_
    rintro e w2 ⟨rfl, rfl⟩
    go_wp2_with fail
    have R2 : Hid (Rd (w2.setCell ⟨q, 0, none⟩ (.slice (some ⟨b, co, none⟩) (l.length - u) (cap - u))) q l1) := Rd.next HQ1.out (HD.out _ HB1.out) (fun a n c e => by injection e with e; injection e with e; subst e; exact HBq)
    have K2 : Hid (Kept (fun k => k = q) w (w2.setCell ⟨q, 0, none⟩ (.slice (some ⟨b, co, none⟩) (l.length - u) (cap - u)))) := Kept.trans (.of HB1.out) (Kept.box _ _ _ _)
    have O2 : Hid ((w2.setCell ⟨q, 0, none⟩ (.slice (some ⟨b, co, none⟩) (l.length - u) (cap - u))).ownsRow w.heap.size 3 1 (.slice ta tos.length tc) tos.length (tos.map (Value.int .i64))) := (Kept.box w2 q 0 _).own OT1.out fun g hg => own_block OT1.out hg HQ1.out (by decide)
    clear OT1 HQ1 hc1 hf1 hcut HD HU HQ HR hc0 HB1
    generalize w2.setCell ⟨q, 0, none⟩ (.slice (some ⟨b, co, none⟩) (l.length - u) (cap - u)) = wl at *
    go_loopw [8, 34] (fun s i wr => ∃ (k : Nat) (a : List Hp) (r : List Int), k ≤ tos.length ∧ i = .int .i64 k ∧ a.length = k ∧ wr.ownsRow w.heap.size 87 2 s a.length (a.flatMap encH) ∧ wr.ownsRow w.heap.size 3 1 (.slice ta tos.length tc) tos.length (tos.map (Value.int .i64)) ∧ Rd wr q r ∧ (∀ y ∈ r, 0 ≤ y ∧ y ≤ 255) ∧ wtsC n tos [] l1 = wtsC n (tos.drop k) a r ∧ Kept (fun k => k = q) w wr) (fun _ i _ => tos.length - (intOf i).toNat)
    case atStart => exact ⟨0, [], l1, by omega, rfl, rfl, World.ownsRow_nil _ _ _ _, O2.out, R2.out, HX.out, rfl, K2.out⟩
    case round =>
      obtain ⟨k, a, r, hk, rfl, hal, hown, hot, hrd, hby, heq, hkp⟩ := hrel
      have OW : Hid (wr.ownsRow w.heap.size 87 2 u8 a.length (a.flatMap encH)) := hown
      have OT : Hid (wr.ownsRow w.heap.size 3 1 (.slice ta tos.length tc) tos.length (tos.map (Value.int .i64))) := hot
      have RD : Hid (Rd wr q r) := hrd
      have HY : Hid (∀ y ∈ r, 0 ≤ y ∧ y ≤ 255) := hby
      have HE : Hid (wtsC n tos [] l1 = wtsC n (tos.drop k) a r) := heq
      have HK : Hid (Kept (fun k => k = q) w wr) := hkp
      have HAL : Hid (a.length = k) := hal
      have hsr := hkp.size
      clear hown hot hrd hby heq hkp hal O2 R2 K2
      by_cases hlt : k < tos.length
      · obtain ⟨t, ht⟩ := getX hlt
        have hd : tos.drop k = t :: tos.drop (k + 1) := by
          rw [List.drop_eq_getElem_cons hlt]
          rw [List.getElem?_eq_getElem hlt] at ht
          injection ht with ht
          rw [ht]
        rw [hd] at HE
        obtain ⟨g, cap', e1, hg, hgl, _, _, htk⟩ : ∃ g cap, Value.slice ta tos.length tc = .slice (some ⟨g, 0, none⟩) tos.length cap ∧ w.heap.size ≤ g ∧ g < wr.heap.size ∧ tos.length ≤ cap ∧ cap ≤ maxLen ∧ ∀ j u, (tos.map (Value.int .i64))[j]? = some u → wr.cell? ((⟨g, 0, none⟩ : Addr).add j) = some u := own_shape OT.out (by omega)
        injection e1 with e1 _ e3
        subst e1 e3
        have d1 : wr.cell? ⟨g, k, none⟩ = some (.int .i64 t) := by
          have := htk k (.int .i64 t) (by rw [List.getElem?_map, ht]; rfl)
          rwa [addr_add] at this
        have hal : a.length ≤ 2000 := by have := HAL.out; omega
        clear htk hd ht
        by_cases htn : t < n
        · go_wp2_with fail
          try rw [decide_eq_true htn]
          refine (insist_yes _).mono ?_
          rintro e w3 ⟨rfl, rfl⟩
          cases hnum : numF 1099511627776 r with
          | none =>
            have HX2 : Hid (hopsC n l = none) := by show hopsC n l = none; rw [HH.out, HE.out, wtsC_no hnum]; rfl
            go_wp2_with fail
            refine (number_no q r _ RD.out HY.out hnum).mono ?_
            rintro e w4 ⟨rfl, rfl⟩
            exact ⟨rfl, HK.out, .inr ⟨HX2.out, rfl⟩⟩
          | some p =>
            obtain ⟨x, r2⟩ := p
            have HE2 : Hid (wtsC n tos [] l1 = wtsC n (tos.drop (k + 1)) (a ++ [(t, x)]) r2) := by show _ = _; rw [HE.out, wtsC_yes htn hnum]
            have HY2 : Hid (∀ y ∈ r2, 0 ≤ y ∧ y ≤ 255) := (numF_inv HY.out hnum).2.2.2
            have HNM : Hid (Calls Try.prog 59 #[.pointer (some ⟨q, 0, none⟩)] w3 fun e w' => e = .returned (.int .i64 x) ∧ Rd w' q r2 ∧ Kept (fun k => k = q) w3 w') := number_ok q r r2 x w3 RD.out HY.out hnum
            have HQ3 : Hid (∃ v, w3.heap[q]? = some (.cells #[v] 73 (0, 0))) := by obtain ⟨v, h, _⟩ := RD.out; exact ⟨v, h⟩
            clear hnum HE
            go_wp2_with fail
            refine HNM.out.mono ?_
            rintro e w4 ⟨rfl, hrd4, hk4⟩
            have RD4 : Hid (Rd w4 q r2) := hrd4
            have HK4 : Hid (Kept (fun k => k = q) w w4) := HK.out.trans hk4
            have OW4 : Hid (w4.ownsRow w.heap.size 87 2 u8 a.length (a.flatMap encH)) := hk4.own OW.out fun g hg => by obtain ⟨v, h⟩ := HQ3.out; exact own_block OW.out hg h (by decide)
            have OT4 : Hid (w4.ownsRow w.heap.size 3 1 (.slice (some ⟨g, 0, none⟩) tos.length tc) tos.length (tos.map (Value.int .i64))) := hk4.own OT.out fun g hg => by obtain ⟨v, h⟩ := HQ3.out; exact own_block OT.out hg h (by decide)
            have hs4 := HK4.out.size
            clear hrd4 hk4 HNM OW OT RD HK HQ3 d1
            go_wp2_with (at_builtin; refine wpList_append_newK kH rfl _ _ rfl w.heap.size _ a rfl (OW4.out.alloc _) w4.heap.size (t, x) rfl #[.int .i64 t, .int .i64 x] rfl (0, 0) (heap_alloc_new _ _) (by simp [kH]; omega) (by unfold maxLen; omega) (by simp; omega) ?_)
            intro g5 c5 w5 hown5 hb5 hgr5
            have O5 : Hid (w5.ownsRow w.heap.size 87 2 (.slice (some ⟨g5, 0, none⟩) (a.length + 1) c5) (a ++ [(t, x)]).length ((a ++ [(t, x)]).flatMap encH)) := by
              show World.ownsRow _ _ _ _ _ _ _
              rw [flat_snoc, List.length_append]; exact hown5
            have OT5 : Hid (w5.ownsRow w.heap.size 3 1 (.slice (some ⟨g, 0, none⟩) tos.length tc) tos.length (tos.map (Value.int .i64))) := (OT4.out.alloc _).kept hgr5 (own_apart OT4.out OW4.out (by decide))
            have RD5 : Hid (Rd w5 q r2) := RD4.out.kept ((Kept.of (S := fun k => w.heap.size ≤ k) (below_alloc w4 _)).trans (Kept.grown (Kept.refl _ _) hgr5 fun k hk => .inl (OW4.out.lt k hk).1)) fun k hk => by omega
            have HK5 : Hid (Kept (fun k => k = q) w w5) := (HK4.out.alloc _).grown hgr5 fun k hk => .inr (OW4.out.lt k hk).1
            have HAL2 : Hid ((a ++ [(t, x)]).length = k + 1) := by show _ = _; rw [List.length_append, HAL.out]; rfl
            clear hown5 hb5 hgr5 OW4 OT4 RD4 HK4
            go_wp2_with fail
            go_roundw
            case rel => exact ⟨k + 1, a ++ [(t, x)], r2, by omega, by go_num, HAL2.out, O5.out, OT5.out, RD5.out, HY2.out, HE2.out, HK5.out⟩
            case measure => simp [intOf]; omega
        · have HX2 : Hid (hopsC n l = none) := by show hopsC n l = none; rw [HH.out, HE.out, wtsC_out htn]; rfl
          go_wp2_with fail
          try rw [decide_eq_false (by omega)]
          refine (insist_no _).mono ?_
          rintro e w3 ⟨rfl, rfl⟩
          exact ⟨rfl, HK.out, .inr ⟨HX2.out, rfl⟩⟩
      · have hd : tos.drop k = [] := List.drop_eq_nil_of_le (by omega)
        have HE2 : Hid (hopsC n l = (some (a, r)).filter fun p => srtB p.1) := by show _ = _; rw [HH.out, HE.out, hd, wtsC]
        have HR2 : Hid (HpR wr u8 a) := RowK.own encH_len OW.out
        clear hd HE HH
        go_wp2_with fail
        refine (hopSrt_any _ a _ HR2.out).mono ?_
        rintro e w3 ⟨rfl, hb3⟩
        have OW3 : Hid (w3.ownsRow w.heap.size 87 2 u8 a.length (a.flatMap encH)) := own_below OW.out hb3 (Nat.le_refl _)
        have RD3 : Hid (Rd w3 q r) := RD.out.kept (Kept.of (S := fun _ => False) hb3) fun _ _ h => h
        have HK3 : Hid (Kept (fun k => k = q) w w3) := HK.out.trans (.of hb3)
        clear hb3 OW RD HK
        cases hs : srtB a with
        | false =>
          have HX2 : Hid (hopsC n l = none) := by show hopsC n l = none; rw [HE2.out, Option.filter_some_neg (by simp [hs])]
          go_wp2_with fail
          refine (insist_no _).mono ?_
          rintro e w4 ⟨rfl, rfl⟩
          exact ⟨rfl, HK3.out, .inr ⟨HX2.out, rfl⟩⟩
        | true =>
          have HX2 : Hid (hopsC n l = some (a, r)) := by show hopsC n l = _; rw [HE2.out, Option.filter_some_pos (by exact hs)]
          go_wp2_with fail
          refine (insist_yes _).mono ?_
          rintro e w4 ⟨rfl, rfl⟩
          go_wp2_with fail
          go_ret
          exact ⟨HK3.out, .inl ⟨(a, r), _, HX2.out, rfl, OW3.out, RD3.out⟩⟩
end Go.Proofs.Ytacpicnihgggaaa

namespace Go.Proofs.Ytacpicnihgggaaa
set_option maxRecDepth 100000
open Go.RowKit

/-- What the others must come to. -/
def postLast (P : Program) (o : Oper) (Q : Exit → Act → World → Prop) : Exit → Act → World → Prop
  | .normal, a, w => o.wp P a w (fun a' w' => Q .normal a' w') Q
  | e, a, w => Q e a w

/-- Each of the others waits for earlier ones alone; the last one waits for all. -/
def lastOK (md : Region.Mode) (ops : Array Oper) (o : Oper) : Bool :=
  o.guard.isNone && (List.range ops.size).all fun i =>
    (match ops[i]? with
      | some x => x.guard.isNone && x.after.toList.all (fun e => !Region.binds md e || decide (e.on < i))
      | none => false) && o.after.toList.any (fun e => Region.binds md e && e.on == i)
def lastIn (md : Region.Mode) (n : Nat) (o : Oper) : Bool := o.after.toList.all fun e => !Region.binds md e || decide (e.on < n)

section
variable {P : Program} {md : Region.Mode} {ops : Array Oper} {o : Oper} {Q : Exit → Act → World → Prop}

theorem wp_postLast {x : Oper} {a : Act} {w : World} {K : Act → World → Prop} (h : x.wp P a w K (postLast P o Q)) : x.wp P a w K Q := by
  unfold Oper.wp at *
  generalize (execOp a.eval x).run P w = r at *
  cases r with
  | ok n w' => cases n <;> exact h
  | halt e w' => cases e <;> exact h
theorem letsOut_postLast (h : LetsOut (postLast P o Q)) : LetsOut Q := h

theorem lastOK_guard (h : lastOK md ops o = true) : o.guard = none := by
  unfold lastOK at h
  rw [Bool.and_eq_true] at h
  simpa using h.1
theorem lastOK_at (h : lastOK md ops o = true) {i : Nat} {x : Oper} (hx : ops[i]? = some x) : x.guard = none ∧ (∀ e ∈ x.after, Region.binds md e = true → e.on < i) ∧ ∃ e ∈ o.after, Region.binds md e = true ∧ e.on = i := by
  unfold lastOK at h
  rw [Bool.and_eq_true] at h
  have hi : i < ops.size := (Array.getElem?_eq_some_iff.1 hx).1
  have := List.all_eq_true.1 h.2 i (List.mem_range.2 hi)
  rw [hx] at this
  simp only [Bool.and_eq_true] at this
  obtain ⟨⟨h1, h2⟩, h3⟩ := this
  refine ⟨by simpa using h1, fun e he hb => ?_, ?_⟩
  · have := List.all_eq_true.1 h2 e (Array.mem_toList_iff.2 he)
    rw [hb] at this
    simpa using this
  · obtain ⟨e, he, hb⟩ := List.any_eq_true.1 h3
    simp only [Bool.and_eq_true, beq_iff_eq] at hb
    exact ⟨e, Array.mem_toList_iff.1 he, hb.1, hb.2⟩

theorem getD_push_lt {l : Array Bool} {b d : Bool} {j : Nat} (h : j < l.size) : (l.push b).getD j d = l.getD j d := by
  simp [Array.getD, Array.getElem_push_lt h, h, Nat.lt_succ_of_lt h]
theorem getD_push_eq {l : Array Bool} {b d : Bool} : (l.push b).getD l.size d = b := by simp [Array.getD]
theorem getD_dflt {l : Array Bool} {j : Nat} (h : j < l.size) (d d' : Bool) : l.getD j d = l.getD j d' := by simp [Array.getD, h]

theorem ready_push {l : Array Bool} {b : Bool} (hs : l.size = ops.size) (h : lastOK md ops o = true) {j : Nat} (hj : j < ops.size) : j ∈ Region.ready md (ops.push o) (l.push b) ↔ j ∈ Region.ready md ops l := by
  rw [mem_ready, mem_ready, getD_push_lt (by omega)]
  have e : (ops.push o)[j]? = ops[j]? := by simp [Array.getElem?_push, Nat.ne_of_lt hj]
  rw [e]
  refine and_congr_right fun _ => ⟨?_, ?_⟩
  · rintro ⟨x, hx, ha⟩
    refine ⟨x, hx, fun e he hb => ?_⟩
    have := (lastOK_at h hx).2.1 e he hb
    have h2 := ha e he hb
    rwa [getD_push_lt (by omega)] at h2
  · rintro ⟨x, hx, ha⟩
    refine ⟨x, hx, fun e he hb => ?_⟩
    have := (lastOK_at h hx).2.1 e he hb
    rw [getD_push_lt (by omega)]
    exact ha e he hb
/-- Where nothing may come up, all have. -/
theorem ready_all {l : Array Bool} (hs : l.size = ops.size) (h : lastOK md ops o = true) (h0 : Region.ready md ops l = []) : ∀ j, j < ops.size → l.getD j false = true := by
  intro j
  induction j using Nat.strongRecOn with
  | _ j ih =>
    intro hj
    cases hl : l.getD j false
    · exfalso
      have : j ∈ Region.ready md ops l := by
        rw [mem_ready]
        refine ⟨by rw [getD_dflt (by omega) true false]; exact hl, ops[j], by simp [hj], fun e he hb => ?_⟩
        have := (lastOK_at h (Array.getElem?_eq_getElem hj)).2.1 e he hb
        exact ih e.on this (by omega)
      rw [h0] at this
      cases this
    · rfl
theorem ready_last {l : Array Bool} (hs : l.size = ops.size) (hin : lastIn md ops.size o = true) (hall : ∀ j, j < ops.size → l.getD j false = true) : ops.size ∈ Region.ready md (ops.push o) (l.push false) := by
  rw [mem_ready]
  refine ⟨by rw [← hs]; exact getD_push_eq, o, by simp, fun e he hb => ?_⟩
  have := List.all_eq_true.1 hin e (Array.mem_toList_iff.2 he)
  rw [hb] at this
  have hlt : e.on < ops.size := by simpa using this
  rw [getD_push_lt (by omega)]
  exact hall e.on hlt
theorem last_ready {l : Array Bool} (hs : l.size = ops.size) (h : lastOK md ops o = true) (hr : ops.size ∈ Region.ready md (ops.push o) (l.push false)) : Region.ready md ops l = [] := by
  rw [mem_ready] at hr
  obtain ⟨_, x, hx, ha⟩ := hr
  have ex : x = o := by simpa using hx.symm
  subst ex
  refine List.eq_nil_iff_forall_not_mem.2 fun j hj => ?_
  rw [mem_ready] at hj
  obtain ⟨h1, y, hy, _⟩ := hj
  have hjn : j < ops.size := (Array.getElem?_eq_some_iff.1 hy).1
  obtain ⟨_, _, e, he, hb, hon⟩ := lastOK_at h hy
  have := ha e he hb
  rw [hon, getD_push_lt (by omega), getD_dflt (by omega) false true, h1] at this
  cases this
theorem ready_done {l : Array Bool} (hs : l.size = ops.size) (h : lastOK md ops o = true) (h0 : Region.ready md ops l = []) : Region.ready md (ops.push o) (l.push true) = [] := by
  refine List.eq_nil_iff_forall_not_mem.2 fun j hj => ?_
  rcases Nat.lt_or_ge j ops.size with hlt | hge
  · rw [ready_push hs h hlt, h0] at hj; cases hj
  · rw [mem_ready] at hj
    obtain ⟨h1, y, hy, _⟩ := hj
    have hjn := (Array.getElem?_eq_some_iff.1 hy).1
    have ej : j = l.size := by simp at hjn; omega
    rw [ej, getD_push_eq] at h1
    cases h1

theorem wpAny_end {l : Array Bool} {a : Act} {w : World} (h0 : Region.ready md ops l = []) (h : Q .normal a w) : ∀ fuel, wpAny P md ops Q fuel l a w
  | 0 => ⟨h0, h⟩
  | _ + 1 => ⟨fun _ => h, by rw [h0]; simp⟩

theorem wpOp_last {l : Array Bool} {a : Act} {w : World} (hs : l.size = ops.size) (h : lastOK md ops o = true) (h0 : Region.ready md ops l = []) (hq : postLast P o Q .normal a w) (fuel : Nat) :
    wpOp P (ops.push o) Q ops.size (wpAny P md (ops.push o) Q fuel ((l.push false).setIfInBounds ops.size true)) a w := by
  unfold wpOp
  have e : (ops.push o)[ops.size]? = some o := by simp
  simp only [e]
  have hw : Region.wanted o (yielded (ops.push o) a.tmps) = true := by simp [Region.wanted, lastOK_guard h]
  rw [if_pos hw]
  refine .inl (Oper.wp_mono (fun a' w' h' => ?_) hq)
  have e2 : (l.push false).setIfInBounds ops.size true = l.push true := by
    rw [← hs]
    refine Array.ext_getElem? fun i => ?_
    rw [Array.getElem?_setIfInBounds, Array.getElem?_push, Array.getElem?_push]
    by_cases hi : l.size = i
    · subst hi; simp
    · simp [hi, Ne.symm hi]
  rw [e2]
  exact wpAny_end (ready_done hs h h0) h' _

theorem wpAny_last (h : lastOK md ops o = true) (hin : lastIn md ops.size o = true) : ∀ (fuel : Nat) (l : Array Bool) (a : Act) (w : World), l.size = ops.size →
    wpAny P md ops (postLast P o Q) fuel l a w → wpAny P md (ops.push o) Q (fuel + 1) (l.push false) a w := by
  intro fuel
  induction fuel with
  | zero =>
    intro l a w hs hp
    obtain ⟨h0, hq⟩ := hp
    refine ⟨fun h1 => ?_, fun i hi => ?_⟩
    · have := ready_last hs hin (ready_all hs h h0)
      rw [h1] at this; cases this
    · rcases Nat.lt_or_ge i ops.size with hlt | hge
      · rw [ready_push hs h hlt, h0] at hi; cases hi
      · have ei : i = ops.size := by
          obtain ⟨_, y, hy, _⟩ := mem_ready.1 hi
          have := (Array.getElem?_eq_some_iff.1 hy).1
          simp at this; omega
        subst ei
        exact wpOp_last hs h h0 hq _
  | succ fuel ih =>
    intro l a w hs hp
    obtain ⟨hq, hop⟩ := hp
    refine ⟨fun h1 => ?_, fun i hi => ?_⟩
    · have h0 : Region.ready md ops l = [] := List.eq_nil_iff_forall_not_mem.2 fun j hj => by
        have hjn : j < ops.size := by
          obtain ⟨_, y, hy, _⟩ := mem_ready.1 hj
          exact (Array.getElem?_eq_some_iff.1 hy).1
        have := (ready_push (b := false) hs h hjn).2 hj
        rw [h1] at this; cases this
      have := ready_last hs hin (ready_all hs h h0)
      rw [h1] at this; cases this
    · rcases Nat.lt_or_ge i ops.size with hlt | hge
      · have hi0 := (ready_push hs h hlt).1 hi
        have h1 := hop i hi0
        unfold wpOp at h1 ⊢
        have e : (ops.push o)[i]? = some ops[i] := by simp [Array.getElem?_push, Nat.ne_of_lt hlt, hlt]
        have e0 : ops[i]? = some ops[i] := by simp [hlt]
        simp only [e]
        simp only [e0] at h1
        have hg := (lastOK_at h e0).1
        have hw : ∀ t, Region.wanted ops[i] t = true := fun t => by simp [Region.wanted, hg]
        rw [if_pos (hw _)] at h1 ⊢
        have e2 : (l.push false).setIfInBounds i true = (l.setIfInBounds i true).push false := by
          refine Array.ext_getElem? fun j => ?_
          rw [Array.getElem?_setIfInBounds, Array.getElem?_push, Array.getElem?_push, Array.getElem?_setIfInBounds, Array.size_setIfInBounds, Array.size_push]
          by_cases hj : i = j
          · subst hj
            have h1 : i < l.size := by omega
            have h2 : i < l.size + 1 := by omega
            have h3 : ¬ i = l.size := by omega
            simp [h1, h2, h3]
          · simp [hj]
        rw [e2]
        rcases h1 with h1 | ⟨h1, h2⟩
        · exact .inl (wp_postLast (Oper.wp_mono (fun a' w' h' => ih _ a' w' (by simpa using hs) h') h1))
        · exact .inr ⟨h1, letsOut_postLast h2⟩
      · have ei : i = ops.size := by
          obtain ⟨_, y, hy, _⟩ := mem_ready.1 hi
          have := (Array.getElem?_eq_some_iff.1 hy).1
          simp at this; omega
        subst ei
        have h0 := last_ready hs h hi
        exact wpOp_last hs h h0 (hq h0) _

/-- The law. -/
theorem region_last {id : Nat} {a : Act} {w : World} {S : World → Prop} (hm : P.follows .mixedOrders = true) (h : lastOK .any ops o = true) (hin : lastIn .any ops.size o = true)
    (hp : wpAnyH P .any ops (postLast P o Q) S ops.size (Array.replicate ops.size false) a w.drew) : (Code.region id (ops.push o) true).wp P Q a w := by
  refine wp_region_any hm ?_
  have e1 : (ops.push o).size = ops.size + 1 := by simp
  have e2 : Array.replicate (ops.size + 1) false = (Array.replicate ops.size false).push false := Array.replicate_succ
  rw [e1, e2]
  exact wpAny_last h hin _ _ _ _ (by simp) (wpAny_of_held _ _ _ _ hp)
/-- An operation is taken first; its slot is named. -/
theorem takeH {S : World → Prop} {i : Nat} {oi : Oper} {v : Value} {d : Tmp} {fuel : Nat} {listed : Array Bool} {a : Act} {w : World} (hi : ops[i]? = some oi) (hd : oi.dst = some d)
    (hs : Region.noSelect ops = true) (hf : Region.free md ops listed i = true) (hr : (Region.ready md ops listed).contains i = true)
    (hQ : ∀ c a w, Q (.panic c) (a.put (some d) v) w → Q (.panic c) a w) (hw : Region.wanted oi (yielded ops a.tmps) = true) (hy : ∀ w, S w → (execOp a.eval oi).run P w = .ok (.value v) w) (hS : S w)
    (h : wpAnyH P md ops Q S fuel (listed.setIfInBounds i true) (a.put (some d) v) w) : wpAnyH P md ops Q S (fuel + 1) listed a w :=
  wpAnyH_take hi hs hf hr (by rw [hd]; exact hQ) (.inl ⟨hw, hy⟩) hS (by rw [hd]; exact h)
/-- Just one operation may come up, and is carried out; S is had again behind it. -/
theorem oneH {S : World → Prop} {i : Nat} {oi : Oper} {fuel : Nat} {listed : Array Bool} {a : Act} {w : World} (hi : ops[i]? = some oi) (hr : Region.ready md ops listed = [i]) (hg : oi.guard = none)
    (h : oi.wp P a w (fun a' w' => S w' ∧ wpAnyH P md ops Q S fuel (listed.setIfInBounds i true) a' w') Q) : wpAnyH P md ops Q S (fuel + 1) listed a w := by
  refine wpAnyH_all hr (by simp) fun j hj => ?_
  obtain rfl : j = i := by simpa using hj
  unfold wpOp
  simp only [hi]
  rw [if_pos (by simp [Region.wanted, hg])]
  exact .inl h
/-- A call that leaves the world as it was. -/
theorem call_same {oi : Oper} {a : Act} {w : World} {K : Act → World → Prop} {d : Tmp} {f : FuncId} {xs : Array Operand} {ats : Array TypeId} (hd : oi.dst = some d) (hop : oi.op = Op.call { callee := Callee.value (.func f), args := xs, argTypes := ats })
    (he : ∀ args w, (callFunc f args).run P w = .ok (.enter f args) w) {vs : Array Value} (hxs : xs.map a.eval = vs) {v : Value} (hc : Calls P f vs w fun e w' => e = .returned v ∧ w' = w) (hK : K (a.put (some d) v) w) : oi.wp P a w K Q := by
  unfold Oper.wp
  have hr : (execOp a.eval oi).run P w = .ok (.enter f vs) w := by
    have h2 : xs.map a.eval = vs := hxs
    simp [execOp, hop, resolve, invoke, Act.eval, Deferred.ofValue]
    have h3 := he (xs.map a.eval) w
    rw [h2] at h3
    rw [← h2] at h3 ⊢
    exact h3
  rw [hr, Oper.upon_enter]
  exact hc.mono (by rintro e w' ⟨rfl, rfl⟩; rw [hd]; exact hK)
/-- An append whose run is known. -/
theorem call_append {oi : Oper} {a : Act} {w w' : World} {K : Act → World → Prop} {d : Tmp} {s x : Operand} {t : TypeId} (hd : oi.dst = some d) (hop : oi.op = Op.call { callee := Callee.builtin Builtin.append, args := #[s, x], argTypes := #[t, t] })
    {v v2 v' : Value} (hs : a.eval s = v) (hx : a.eval x = v2) (hrun : (Builtin.append_ #[t, t] oi.type #[v, v2]).run P w = .ok v' w') (hK : K (a.put (some d) v') w') : oi.wp P a w K Q := by
  unfold Oper.wp
  simp [execOp, hop, resolve, invoke, builtin, hs, hx, hrun, Result.andThen]
  rw [Oper.upon_value, hd]
  exact hK
/-- An operation whose run is known. -/
theorem op_run {oi : Oper} {a : Act} {w w' : World} {K : Act → World → Prop} {d : Tmp} {v' : Value} (hd : oi.dst = some d) (hrun : (execOp a.eval oi).run P w = .ok (.value v') w') (hK : K (a.put (some d) v') w') : oi.wp P a w K Q := by
  unfold Oper.wp
  rw [hrun, Oper.upon_value, hd]
  exact hK
/-- The same for a region that is written out. -/
theorem region_lastF {id : Nat} {a : Act} {w : World} {S : World → Prop} (hm : P.follows .mixedOrders = true) (hf : ops.pop.push ops.back! = ops) (h : lastOK .any ops.pop ops.back! = true) (hin : lastIn .any ops.pop.size ops.back! = true)
    (hp : wpAnyH P .any ops.pop (postLast P ops.back! Q) S ops.pop.size (Array.replicate ops.pop.size false) a w.drew) : (Code.region id ops true).wp P Q a w := by
  have := region_last (id := id) hm h hin hp
  rwa [hf] at this
end
end Go.Proofs.Ytacpicnihgggaaa

namespace Go.Proofs.Ytacpicnihgggaaa
set_option maxRecDepth 100000
open Go.RowKit

section
variable {P : Program} {Q : Exit → Act → World → Prop}
/-- A call, its result and its world taken up. -/
theorem call_gets {oi : Oper} {a : Act} {w : World} {K : Act → World → Prop} {d : Tmp} {f : FuncId} {xs : Array Operand} {ats : Array TypeId} (hd : oi.dst = some d) (hop : oi.op = Op.call { callee := Callee.value (.func f), args := xs, argTypes := ats })
    (he : ∀ args w, (callFunc f args).run P w = .ok (.enter f args) w) {vs : Array Value} (hxs : xs.map a.eval = vs) {R : Value → World → Prop} (hc : Calls P f vs w fun e w' => ∃ v, e = .returned v ∧ R v w') (hK : ∀ v w', R v w' → K (a.put (some d) v) w') : oi.wp P a w K Q := by
  unfold Oper.wp
  have hr : (execOp a.eval oi).run P w = .ok (.enter f vs) w := by
    have h2 : xs.map a.eval = vs := hxs
    simp [execOp, hop, resolve, invoke, Act.eval, Deferred.ofValue]
    have h3 := he (xs.map a.eval) w
    rw [h2] at h3
    rw [← h2] at h3 ⊢
    exact h3
  rw [hr, Oper.upon_enter]
  exact hc.mono (by rintro e w' ⟨v, rfl, h⟩; rw [hd]; exact hK _ _ h)
/-- A call that gives up. -/
theorem call_up {oi : Oper} {a : Act} {w : World} {K : Act → World → Prop} {f : FuncId} {xs : Array Operand} {ats : Array TypeId} (hop : oi.op = Op.call { callee := Callee.value (.func f), args := xs, argTypes := ats })
    (he : ∀ args w, (callFunc f args).run P w = .ok (.enter f args) w) {vs : Array Value} (hxs : xs.map a.eval = vs) {R : World → Prop} {c : List PanicEntry} (hc : Calls P f vs w fun e w' => e = .panicked c ∧ R w') (hQ : ∀ w', R w' → Q (.panic c) a w') : oi.wp P a w K Q := by
  unfold Oper.wp
  have hr : (execOp a.eval oi).run P w = .ok (.enter f vs) w := by
    have h2 : xs.map a.eval = vs := hxs
    simp [execOp, hop, resolve, invoke, Act.eval, Deferred.ofValue]
    have h3 := he (xs.map a.eval) w
    rw [h2] at h3
    rw [← h2] at h3 ⊢
    exact h3
  rw [hr, Oper.upon_enter]
  exact hc.mono (by rintro e w' ⟨rfl, h⟩; exact hQ _ h)
end
end Go.Proofs.Ytacpicnihgggaaa

namespace Go.Proofs.Ytacpicnihgggaaa
set_option maxRecDepth 100000
open Go.ChangeShapes Go.WideShapes Go.ChangeAt Go.RowKit

set_option maxHeartbeats 400000 in
theorem ownCheck_any (i many n k : Int) (w : World) :
    Calls Try.prog 45 #[.int .i64 i, .int .i64 many, .int .i64 n, .int .i64 k] w fun e w' => e = .returned (.int .i64 (errO i many n k)) ∧ w' = w := by
  by_cases h1 : n < 0
  · rw [errO_size (by omega)]
    go_enter Try.func45, Try.ntmps45
    go_wp2
    go_ret
    exact ⟨rfl, rfl⟩
  · by_cases h2 : 200 < n
    · rw [errO_size (by omega)]
      go_enter Try.func45, Try.ntmps45
      go_wp2
      go_ret
      exact ⟨rfl, rfl⟩
    · by_cases h3 : k < 1
      · rw [errO_size (by omega)]
        go_enter Try.func45, Try.ntmps45
        go_wp2
        go_ret
        exact ⟨rfl, rfl⟩
      · by_cases h4 : 8 < k
        · rw [errO_size (by omega)]
          go_enter Try.func45, Try.ntmps45
          go_wp2
          go_ret
          exact ⟨rfl, rfl⟩
        · by_cases h5 : i < 0
          · rw [errO_range (by omega) (by omega)]
            go_enter Try.func45, Try.ntmps45
            go_wp2
            go_ret
            exact ⟨rfl, rfl⟩
          · by_cases h6 : many ≤ i
            · rw [errO_range (by omega) (by omega)]
              go_enter Try.func45, Try.ntmps45
              go_wp2
              go_ret
              exact ⟨rfl, rfl⟩
            · rw [errO_ok (by omega) (by omega)]
              go_enter Try.func45, Try.ntmps45
              go_wp2
              go_ret
              exact ⟨rfl, rfl⟩

end Go.Proofs.Ytacpicnihgggaaa

namespace Go.Proofs.Ytacpicnihgggaaa
set_option maxRecDepth 100000
open Go.ChangeShapes Go.WideShapes Go.ChangeAt Go.RowKit

set_option maxHeartbeats 1000000 in
set_option maxRecDepth 100000 in
theorem mine_any (a n k : Int) (w : World) :
    Calls Try.prog 20 #[.int .i64 a, .int .i64 n, .int .i64 k] w fun e w' => ∃ v', e = .returned (.tuple #[v', .int .i64 (errO a k n k)]) ∧
      w'.ownsRow w.heap.size 3 1 v' (okL (errO a k n k) (mineL a.toNat n.toNat k.toNat)).length ((okL (errO a k n k) (mineL a.toNat n.toNat k.toNat)).flatMap encI) ∧ Below w.heap.size w w' := by
  have HC : Hid (∀ X, Calls Try.prog 45 #[.int .i64 a, .int .i64 k, .int .i64 n, .int .i64 k] X fun e w' => e = .returned (.int .i64 (errO a k n k)) ∧ w' = X) := fun X => ownCheck_any a k n k X
  by_cases hf : errO a k n k = 0
  · obtain ⟨⟨hn0, hn1, hk0, hk1⟩, ha0, ha1⟩ := errO_inv hf
    rw [hf] at HC ⊢
    rw [okL_yes]
    obtain ⟨N, rfl⟩ : ∃ m : Nat, n = m := ⟨n.toNat, by omega⟩
    obtain ⟨K, rfl⟩ : ∃ m : Nat, k = m := ⟨k.toNat, by omega⟩
    obtain ⟨A, rfl⟩ : ∃ m : Nat, a = m := ⟨a.toNat, by omega⟩
    rw [Int.toNat_natCast, Int.toNat_natCast, Int.toNat_natCast]
    have hk : 1 ≤ K ∧ K ≤ 8 := by omega
    have haK : A < K := by omega
    have HM : Hid (∀ j, j < cntO A N K ↔ A + j * K < N) := fun j => cnt_more hk haK
    have HL : Hid (mineT A K (cntO A N K) = mineL A N K) := rfl
    have hcn : cntO A N K ≤ N := cnt_le hk
    clear hf hn0 hk0 hk1 ha0 ha1
    generalize mineL A N K = ML at *
    generalize cntO A N K = cn at *
    go_enter Try.func20, Try.ntmps20
    go_wp2_with fail
    refine (HC.out _).mono ?_
    rintro e w1 ⟨rfl, rfl⟩
    clear HC
    go_wp2_with fail
    go_loopw [9, 10] (fun u v wr => ∃ j : Nat, j ≤ cn ∧ v = .int .i64 ((A + j * K : Nat) : Int) ∧ wr.ownsRow w1.heap.size 3 1 u (mineT A K j).length ((mineT A K j).flatMap encI) ∧ Below w1.heap.size w1 wr) (fun _ v _ => N - (intOf v).toNat)
    case atStart => exact ⟨0, by omega, by simp, World.ownsRow_nil _ _ _ _, Below.refl _ _⟩
    case round =>
      obtain ⟨j, hj, rfl, hown, hbel⟩ := hrel
      have OW : Hid (wr.ownsRow w1.heap.size 3 1 u9 (mineT A K j).length ((mineT A K j).flatMap encI)) := hown
      have HB : Hid (Below w1.heap.size w1 wr) := hbel
      have hsr := hbel.size
      have HJ := HM.out j
      have HN2 : Hid (mineT A K (j + 1) = mineT A K j ++ [((A + j * K : Nat) : Int)]) := mineT_next A K j
      have hlen : (mineT A K j).length = j := mineT_len A K j
      have hlen2 : (mineT A K j).length ≤ 200 := by omega
      have HV : Hid ((A + (j + 1) * K : Nat) = A + j * K + K) := by show _ = _; rw [Nat.add_mul]; omega
      clear hown hbel
      by_cases hlt : j < cn
      · have hv : A + j * K < N := HJ.1 hlt
        clear HJ hlen
        generalize A + j * K = V at *
        generalize mineT A K j = f at *
        go_wp2_with (at_builtin; refine wpList_append_newK kI rfl _ _ rfl w1.heap.size _ f rfl (OW.out.alloc _) _ (V : Int) rfl #[.int .i64 V] rfl (0, 0) (heap_alloc_new _ _) (by simp [kI]; omega) (by unfold maxLen; omega) (by simp; omega) ?_)
        intro g c w3 hown3 hb3 _
        have O3 : Hid (w3.ownsRow w1.heap.size 3 1 (.slice (some ⟨g, 0, none⟩) (f.length + 1) c) (mineT A K (j + 1)).length ((mineT A K (j + 1)).flatMap encI)) := by
          show World.ownsRow _ _ _ _ _ _ _
          rw [HN2.out, flat_snoc, List.length_append]; exact hown3
        have B3 : Hid (Below w1.heap.size w1 w3) := (HB.out.alloc hsr _).trans hb3
        clear hown3 hb3
        go_wp2_with fail
        go_roundw
        case rel => exact ⟨j + 1, by omega, by rw [HV.out]; go_num, O3.out, B3.out⟩
        case measure => simp [intOf]; omega
      · have hv : ¬ A + j * K < N := fun h => hlt (HJ.2 h)
        obtain rfl : j = cn := by omega
        rw [HL.out] at OW
        clear HJ hlen hlen2 HN2 HV
        generalize A + j * K = V at *
        go_wp2_with fail
        go_ret2
        exact ⟨_, rfl, OW.out, HB.out⟩
  · have hne : (errO a k n k != 0) = true := by simpa using hf
    rw [okL_no hf]
    generalize errO a k n k = fe at *
    clear hf
    go_enter Try.func20, Try.ntmps20
    go_wp2_with fail
    refine (HC.out _).mono ?_
    rintro e w1 ⟨rfl, rfl⟩
    go_wp2_with fail
    go_ret2
    exact ⟨_, rfl, World.ownsRow_nil _ _ _ _, Below.refl _ _⟩
end Go.Proofs.Ytacpicnihgggaaa
