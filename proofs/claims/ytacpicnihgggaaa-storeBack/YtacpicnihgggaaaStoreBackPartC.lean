/-
  What comes of P7 in plain mathematics: the part that was built is opened as it was; a torn or changed one is refused.
  Contract of store.allHops.
  Contract of store.Build.
  Contract of pacelinekeep's own picked.
  Contract of pacelinekeep's own made: a graph that is right, out of raw numbers.
  What comes of P4 in plain mathematics, for graphs that made makes.
  The calls of the keeping laws of P7, at a graph that made makes.
  Contract of graph.Hops.
-/
import Derived.Test.YtacpicnihgggaaaStoreBackPartA
import Derived.Test.YtacpicnihgggaaaStoreBackPartB
import Derived.Test.YtacpicnihgggaaaNumsWalk
import Derived.Test.YtacpicnihgggaaaHopsLib
import Derived.Deep.CutRange
import Derived.Shelf.Abstract
import Derived.Test.YtacpicnihgggaaaRowBase
import Derived.Test.YtacpicnihgggaaaRowAppend
import Derived.Test.YtacpicnihgggaaaGraphTwo
import Derived.Test.YtacpicnihgggaaaOrderWalk

namespace Go.Proofs.Ytacpicnihgggaaa
set_option maxRecDepth 100000

theorem wtsC_back {n : Int} : ∀ (h : List Hp) (a : List Hp) (r : List Int), (∀ x ∈ h, x.1 < n ∧ 0 ≤ x.2 ∧ x.2 ≤ 1099511627776) → wtsC n (h.map Prod.fst) a (numsB (h.map Prod.snd) ++ r) = some (a ++ h, r)
  | [], a, r, _ => by simp [wtsC, numsB]
  | x :: h, a, r, hm => by
    have hx := hm x (by simp)
    rw [List.map_cons, List.map_cons, show numsB (x.2 :: h.map Prod.snd) ++ r = put x.2 ++ (numsB (h.map Prod.snd) ++ r) by simp [numsB], wtsC_yes hx.1 (numF_put _ hx.2.1 hx.2.2 (by decide)), wtsC_back h _ r (fun y hy => hm y (by simp [hy]))]
    simp
theorem hopsC_back {n : Int} {h : List Hp} (r : List Int) (hg : GoodH h) (hs : SrtH h) (hm : ∀ x ∈ h, x.1 < n) : hopsC n (hopsB h ++ r) = some (h, r) := by
  unfold hopsC hopsB
  rw [List.append_assoc, ungap_gaps _ hg.1]
  simp only [if_true, List.drop_left]
  rw [wtsC_back h [] r (fun x hx => ⟨hm x hx, hg.2 x.2 (List.mem_map.2 ⟨x, hx, rfl⟩)⟩), List.nil_append]
  exact Option.filter_some_pos ((srtB_iff h).2 hs)
theorem partsC_back {n : Int} {s t : List Ed} (hs : ∀ v r, hopsC n (hopsB (hopsL s v) ++ r) = some (hopsL s v, r)) (ht : ∀ v r, hopsC n (hopsB (hopsL t v) ++ r) = some (hopsL t v, r)) :
    ∀ (ml : List Int) (os is : List (List Hp)), partsC n ml.length os is (bodyB s t ml) = some (os ++ ml.map (hopsL s), is ++ ml.map (hopsL t), [])
  | [], os, is => by simp [partsC, bodyB]
  | v :: ml, os, is => by
    have e : bodyB s t (v :: ml) = hopsB (hopsL s v) ++ (hopsB (hopsL t v) ++ bodyB s t ml) := by simp [bodyB]
    rw [List.length_cons, partsC, e, hs, Option.bind_some]
    simp only
    rw [ht, Option.bind_some]
    simp only
    rw [partsC_back hs ht ml]
    simp
theorem sumL_map_le {f : Int → List Hp} {b : Nat} (h : ∀ v, (f v).length ≤ b) : ∀ ml : List Int, sumL (ml.map f) ≤ b * ml.length
  | [] => by simp [sumL]
  | v :: ml => by
    have h1 := sumL_map_le h ml
    have h2 := h v
    have : sumL ((v :: ml).map f) = (f v).length + sumL (ml.map f) := by simp [sumL]
    rw [this, List.length_cons, Nat.mul_add]
    omega
theorem bodyB_small {s t : List Ed} (hs : s.length ≤ 10) (ht : t.length ≤ 10) (ml : List Int) : (bodyB s t ml).length ≤ 420 * ml.length := by
  induction ml with
  | nil => simp [bodyB]
  | cons v ml ih =>
    have h1 := hopsB_len (hopsL s v)
    have h2 := hopsB_len (hopsL t v)
    have h3 := hops_len s v
    have h4 := hops_len t v
    unfold bodyB at *
    rw [List.flatMap_cons, List.length_append, List.length_append, List.length_cons]
    omega
/-- A small graph. -/
structure Small (w k n : Int) (es : List Ed) : Prop where
  right : faultE n es = 0
  mine : errO w k n k = 0
  few : es.length ≤ 10
  low : n ≤ 8
theorem Small.ml {w k n : Int} {es : List Ed} (h : Small w k n es) : (mineL w.toNat n.toNat k.toNat).length ≤ 8 := by
  obtain ⟨⟨h0, _, h1, h2⟩, _⟩ := errO_inv h.mine
  rw [mineL_len]
  have := cnt_le (a := w.toNat) (n := n.toNat) (k := k.toNat) (by omega)
  have := h.low
  omega
theorem Small.pay {w k n : Int} {es : List Ed} (h : Small w k n es) : (payB w k n es).length ≤ 20000 := by
  have h1 := bodyB_small (s := sortE es) (t := sortE (es.map turnE)) (by rw [sortE_len]; exact h.few) (by rw [sortE_len, List.length_map]; exact h.few) (mineL w.toNat n.toNat k.toNat)
  have h2 := numsB_len [w, k, n]
  have h3 := h.ml
  unfold payB
  rw [List.length_append]
  simp at h2
  omega
theorem Small.build {w k n : Int} {es : List Ed} (h : Small w k n es) : buildF w k n es = (wrap (payB w k n es), 0) := build_ok h.right h.mine h.pay
/-- The part of a worker. -/
def partOf (w k n : Int) (es : List Ed) : PartL := ⟨w, k, n, (mineL w.toNat n.toNat k.toNat).map (hopsL (sortE es)), (mineL w.toNat n.toNat k.toNat).map (hopsL (sortE (es.map turnE)))⟩
theorem Small.back {w k n : Int} {es : List Ed} (h : Small w k n es) : payC (payB w k n es) = some (partOf w k n es) := by
  obtain ⟨⟨h0, h1, h2, h3⟩, h4, h5⟩ := errO_inv h.mine
  have hs : ∀ v r, hopsC n (hopsB (hopsL (sortE es) v) ++ r) = some (hopsL (sortE es) v, r) := fun v r => hopsC_back r (good_hops h.right v) (hops_srt es v) (fun x hx => (hops_mem h.right x hx).2.1)
  have ht : ∀ v r, hopsC n (hopsB (hopsL (sortE (es.map turnE)) v) ++ r) = some (hopsL (sortE (es.map turnE)) v, r) := fun v r => hopsC_back r (good_hops (turn_fault h.right) v) (hops_srt _ v) (fun x hx => (hops_mem (turn_fault h.right) x hx).2.1)
  have hl := h.ml
  have hf := h.few
  unfold payC payB
  rw [show numsB [w, k, n] ++ bodyB (sortE es) (sortE (es.map turnE)) (mineL w.toNat n.toNat k.toNat) = put w ++ (put k ++ (put n ++ bodyB (sortE es) (sortE (es.map turnE)) (mineL w.toNat n.toNat k.toNat))) by simp [numsB],
    numF_put _ h4 (by omega) (by decide), Option.bind_some]
  simp only
  rw [numF_put _ (by omega) (by omega) (by decide), Option.bind_some]
  simp only
  rw [numF_put _ (by omega) (by omega) (by decide), Option.bind_some]
  simp only
  rw [if_pos h.mine]
  unfold bodyC
  rw [partsC_back hs ht]
  have f1 : sumL ((mineL w.toNat n.toNat k.toNat).map (hopsL (sortE es))) ≤ 600 := by
    have := sumL_map_le (f := hopsL (sortE es)) (b := 10) (fun v => by have := hops_len (sortE es) v; rw [sortE_len] at this; omega) (mineL w.toNat n.toNat k.toNat)
    omega
  have f2 : sumL ((mineL w.toNat n.toNat k.toNat).map (hopsL (sortE (es.map turnE)))) ≤ 600 := by
    have := sumL_map_le (f := hopsL (sortE (es.map turnE))) (b := 10) (fun v => by have := hops_len (sortE (es.map turnE)) v; rw [sortE_len, List.length_map] at this; omega) (mineL w.toNat n.toNat k.toNat)
    omega
  rw [List.nil_append, List.nil_append, Option.filter_some_pos (by unfold fewB; simp [f1, f2]), Option.bind_some]
  rfl
/-- What was built is opened as it was. -/
theorem Small.opened {w k n : Int} {es : List Ed} (h : Small w k n es) : openF (wrap (payB w k n es)) = (partOf w k n es, 0) := by
  have hu : unwrapF (wrap (payB w k n es)) = (payB w k n es, (wrap (payB w k n es)).length, 0) := by
    have := unwrapF_wrap (payB w k n es) [] h.pay
    rwa [List.append_nil] at this
  unfold openF
  rw [hu]
  simp only [ne_eq, not_true_eq_false, if_false, if_true]
  rw [h.back]
theorem open_err {xs : List Int} {e : Int} (h : unwrapF xs = ([], 0, e)) (he : e ≠ 0) : openF xs = (noP, e) := by
  unfold openF
  rw [h]
  simp only
  rw [if_pos he]
theorem getR_cut4 : ∀ (f i : Nat) (n acc : Int) (c : Nat), i + f = 9 → 0 ≤ n → n < 128 ^ (f + 1) → c < (putL f n).length → getR i acc ((putL f n).take c) = (0, 0, 4)
  | _, _, _, _, 0, _, _, _, _ => by simp [getR]
  | 0, i, n, acc, c + 1, _, _, _, hc => by simp [putL] at hc
  | f + 1, i, n, acc, c + 1, hi, h0, h1, hc => by
    unfold putL at hc ⊢
    by_cases h : n < 128
    · rw [if_pos h] at hc
      simp at hc
    · rw [if_neg h] at hc ⊢
      have hd : n / 128 < 128 ^ (f + 1) := div128_lt (by rw [← p128]; exact h1)
      simp only [List.length_cons] at hc
      rw [List.take_succ_cons, getR, if_neg (by omega), if_pos (by omega)]
      exact getR_cut4 f (i + 1) (n / 128) _ c (by omega) (by omega) hd (by omega)
/-- A frame whose end is torn off is too short. -/
theorem unwrapF_torn4 {a : List Int} {c : Nat} (hl : a.length ≤ 20000) (hc : c < (wrap a).length) : unwrapF ((wrap a).take c) = ([], 0, 4) := by
  rw [wrap_len] at hc
  by_cases hk : c < (put (a.length : Int)).length
  · have e : (wrap a).take c = (put (a.length : Int)).take c := by
      unfold wrap
      rw [List.append_assoc, List.take_append_of_le_length (by omega)]
    rw [e]
    exact unwrapF_err (getR_cut4 9 0 (a.length : Int) 0 c rfl (by omega) (lt_128_10 (by omega)) hk) (by decide)
  · have e : (wrap a).take c = put (a.length : Int) ++ (a ++ four (crc (put a.length ++ a))).take (c - (put (a.length : Int)).length) := by
      unfold wrap
      rw [List.append_assoc, List.take_append, List.take_of_length_le (by omega)]
    have hg : get ((wrap a).take c) = ((a.length : Int), (put (a.length : Int)).length, 0) := by
      rw [e]; exact get_put _ (by omega) (by omega)
    exact unwrapF_short hg hl (by rw [List.length_take]; omega)
theorem payB_pos (w k n : Int) (es : List Ed) : 3 ≤ (payB w k n es).length := by
  have h1 := put_len w
  have h2 := put_len k
  have h3 := put_len n
  unfold payB
  rw [List.length_append, show numsB [w, k, n] = put w ++ (put k ++ put n) by simp [numsB], List.length_append, List.length_append]
  omega
end Go.Proofs.Ytacpicnihgggaaa

namespace Go.Proofs.Ytacpicnihgggaaa
set_option maxRecDepth 100000
open Go.ChangeShapes Go.WideShapes Go.ChangeAt Go.RowKit
attribute [local go_sem ↓] exec_append

/-- A table of lists of hops: each grows by itself. -/
structure Tbl (w : World) (base g n : Nat) (vs : List Value) (f : List (List Hp)) : Prop where
  row : w.ownsRow base 49 1 (.slice (some ⟨g, 0, none⟩) n n) n vs
  lv : vs.length = n
  lf : f.length = n
  el : ∀ (j : Nat) (u : Value) (l : List Hp), vs[j]? = some u → f[j]? = some l → w.ownsRow base 87 2 u l.length (l.flatMap encH)
  ap : ∀ (i j : Nat) (u v : Value), i ≠ j → vs[i]? = some u → vs[j]? = some v → Apt u v
theorem Tbl.kept {w w' : World} {base g n : Nat} {vs : List Value} {f : List (List Hp)} (h : Tbl w base g n vs f) (hk : Kept (fun _ => False) w w') : Tbl w' base g n vs f :=
  ⟨hk.own h.row fun _ _ h => h, h.lv, h.lf, fun j u l hu hl => hk.own (h.el j u l hu hl) fun _ _ h => h, h.ap⟩
theorem Tbl.own {w : World} {base g n : Nat} {vs : List Value} {f : List (List Hp)} (h : Tbl w base g n vs f) : OwnLs w base (.slice (some ⟨g, 0, none⟩) n n) f :=
  ⟨vs, by rw [h.lv, h.lf], by rw [h.lf]; exact h.row, h.el⟩
theorem Tbl.cell {w : World} {base g n j : Nat} {vs : List Value} {f : List (List Hp)} {u : Value} (h : Tbl w base g n vs f) (hu : vs[j]? = some u) : w.cell? ⟨g, j, none⟩ = some u := by
  have := h.row.cells rfl j u hu
  rwa [addr_add] at this
/-- One of the lists has grown. -/
theorem Tbl.put {w w' : World} {base g n j g' m c : Nat} {vs : List Value} {f : List (List Hp)} {u : Value} {l : List Hp} {x : Hp} (h : Tbl w base g n vs f) (hu : vs[j]? = some u) (hl : f[j]? = some l)
    (hg : w.grownBy w' u.ownBlock) (ho : w'.ownsRow base 87 2 (.slice (some ⟨g', 0, none⟩) m c) (l ++ [x]).length ((l ++ [x]).flatMap encH)) (hli : u.ownBlock = some g' ∨ g' = w.heap.size) :
    Tbl (w'.setCell ⟨g, j, none⟩ (.slice (some ⟨g', 0, none⟩) m c)) base g n (vs.set j (.slice (some ⟨g', 0, none⟩) m c)) (f.set j (l ++ [x])) ∧ w'.cell? ⟨g, j, none⟩ = some u ∧ w'.frozen? ⟨g, j, none⟩ = false := by
  have hel := h.el j u l hu hl
  have hrow : w'.ownsRow base 49 1 (.slice (some ⟨g, 0, none⟩) n n) n vs := h.row.kept hg (own_apart h.row hel (by decide))
  have hgb : ∃ cur, w'.heap[g]? = some (.cells cur 49 (0, 0)) := by
    rcases hrow.2 with ⟨hv, _⟩ | ⟨g2, c2, cur, hv, _, hgg, _⟩
    · cases hv
    · injection hv with hv
      injection hv with hv
      injection hv with hv
      subst hv
      exact ⟨cur, hgg⟩
  obtain ⟨cur, hgb⟩ := hgb
  have hjn : j < vs.length := (List.getElem?_eq_some_iff.1 hu).1
  refine ⟨⟨own_setRow hrow, by rw [List.length_set]; exact h.lv, by rw [List.length_set]; exact h.lf, ?_, ?_⟩, ?_, frozenK hrow j⟩
  · intro i v k hv hk
    have kb := Kept.box w' g j (.slice (some ⟨g', 0, none⟩) m c)
    by_cases hij : j = i
    · subst hij
      rw [List.getElem?_set_self hjn] at hv
      rw [List.getElem?_set_self (by rw [h.lf, ← h.lv]; exact hjn)] at hk
      injection hv with hv
      injection hk with hk
      subst hv hk
      exact kb.own ho fun q hq => own_block ho hq hgb (by decide)
    · rw [List.getElem?_set_ne hij] at hv hk
      have h1 := h.el i v k hv hk
      have h2 := h1.kept hg (h.ap i j v u (fun e => hij e.symm) hv hu).or
      exact kb.own h2 fun q hq => own_block h2 hq hgb (by decide)
  · intro i k a b hik ha hb
    by_cases h1 : j = i
    · subst h1
      rw [List.getElem?_set_self hjn] at ha
      injection ha with ha
      subst ha
      rw [List.getElem?_set_ne hik] at hb
      have hkf : k < f.length := by rw [h.lf, ← h.lv]; exact (List.getElem?_eq_some_iff.1 hb).1
      exact (h.ap j k u b hik hu hb).grown hli (h.el k b f[k] hb (List.getElem?_eq_getElem hkf))
    · rw [List.getElem?_set_ne h1] at ha
      by_cases h2 : j = k
      · subst h2
        rw [List.getElem?_set_self hjn] at hb
        injection hb with hb
        subst hb
        have hif : i < f.length := by rw [h.lf, ← h.lv]; exact (List.getElem?_eq_some_iff.1 ha).1
        exact ((h.ap j i u a (fun e => hik e.symm) hu ha).grown hli (h.el i a f[i] ha (List.getElem?_eq_getElem hif))).symm
      · rw [List.getElem?_set_ne h2] at hb
        exact h.ap i k a b hik ha hb
  · have := hrow.cells rfl j u hu
    rwa [addr_add] at this
theorem made_nil (m : Nat) : (madeCells (Value.slice none 0 0).cells (m * 1)).toList = List.replicate m (.slice none 0 0) := by
  simp [madeCells, Value.cells]
  refine List.ext_getElem? fun v => ?_
  rcases Nat.lt_or_ge v m with hv | hv
  · rw [List.getElem?_map, List.getElem?_range hv, List.getElem?_replicate, if_pos hv]
    simp [Nat.mod_one]
  · rw [List.getElem?_eq_none (by simpa using hv), List.getElem?_eq_none (by simpa using hv)]
/-- make([][]api.Hop, m). -/
theorem make_tbl (w : World) (m : Nat) (hm : m ≤ 1000000) :
    ∃ w', (Instr.makeSlice 34 (.int .i64 (m : Int)) (.int .i64 (m : Int))).run Try.prog w = .ok (.slice (some ⟨w.heap.size, 0, none⟩) m m) w' ∧ Tbl w' w.heap.size w.heap.size m (List.replicate m (.slice none 0 0)) (List.replicate m []) ∧ Below w.heap.size w w' := by
  obtain ⟨i0, hi, hz0, hz1, hz2⟩ := info_parts Try.infoL
  obtain ⟨w', h1, h2, h3⟩ := run_makeSlice_full (P := Try.prog) w w.heap.size 34 49 i0 (.slice none 0 0) 1 Try.underlying34 hi hz0 hz1 .i64 .i64 m (by omega) (by rw [hz2]; omega) (by unfold maxLen; omega) (Nat.le_refl _)
  rw [made_nil] at h2
  refine ⟨w', h1, ⟨h2, by simp, by simp, fun j u l hu hl => ?_, fun i j u v _ hu _ => ?_⟩, (Below.refl _ _).grown h3 (Nat.le_refl _) (fun k hk => by cases hk)⟩
  · rw [List.getElem?_replicate] at hu hl
    split at hu
    · injection hu with hu
      rw [if_pos (by assumption)] at hl
      injection hl with hl
      subst hu hl
      exact World.ownsRow_nil _ _ _ _
    · cases hu
  · rw [List.getElem?_replicate] at hu
    split at hu
    · injection hu with hu
      subst hu
      exact Apt.nil _
    · cases hu

/-- The hops of all vertices. -/
def tblF (n : Nat) (es : List Ed) : List (List Hp) := (List.range n).map fun (v : Nat) => hopsL es (v : Int)
theorem tblF_at {n v : Nat} {es : List Ed} (h : v < n) : (tblF n es)[v]? = some (hopsL es (v : Int)) := by simp [tblF, h]
theorem tblF_nil (n : Nat) : tblF n [] = List.replicate n [] := by
  refine List.ext_getElem? fun v => ?_
  rcases Nat.lt_or_ge v n with hv | hv
  · rw [tblF_at hv, List.getElem?_replicate, if_pos hv]; rfl
  · rw [List.getElem?_eq_none (by simpa [tblF] using hv), List.getElem?_eq_none (by simpa using hv)]
theorem tblF_step {n k j : Nat} {es : List Ed} {x : Ed} (hx : es[k]? = some x) (hj : x.1 = (j : Int)) (hn : j < n) : tblF n (es.take (k + 1)) = (tblF n (es.take k)).set j (hopsL (es.take k) (j : Int) ++ [(x.2.1, x.2.2)]) := by
  have hlen : (tblF n (es.take k)).length = n := by simp [tblF]
  refine List.ext_getElem? fun v => ?_
  rcases Nat.lt_or_ge v n with hv | hv
  · rw [tblF_at hv]
    by_cases e : j = v
    · subst e
      rw [List.getElem?_set_self (by omega), hops_yes hx (by simp [hj])]
    · rw [List.getElem?_set_ne e, tblF_at hv, hops_no hx (by rw [hj]; simp; omega)]
  · rw [List.getElem?_eq_none (by simpa [tblF] using hv), List.getElem?_eq_none (by rw [List.length_set]; omega)]

set_option maxHeartbeats 2000000 in
set_option maxRecDepth 100000 in
theorem allHops_any (v : Value) (es : List Ed) (n : Nat) (w : World) (h : EdR w v es) (hn : n ≤ 200) (hl : es.length ≤ 600) (hin : ∀ e ∈ es, 0 ≤ e.1 ∧ e.1 < (n : Int)) :
    Calls Try.prog 25 #[.agg #[.int .i64 n, v]] w fun e w' => ∃ v', e = .returned v' ∧ OwnLs w' w.heap.size v' (tblF n es) ∧ Below w.heap.size w w' := by
  have HR : Hid (EdR w v es) := h
  have HI : Hid (∀ e ∈ es, 0 ≤ e.1 ∧ e.1 < (n : Int)) := hin
  obtain ⟨a, cap, rfl, _, hm, _⟩ := h
  unfold maxLen at hm
  clear hin
  have B0 : Hid (Below w.heap.size w (w.alloc (.cells #[.int .i64 n, .slice a es.length cap] 24)) ∧ (w.alloc (.cells #[.int .i64 n, .slice a es.length cap] 24)).heap[w.heap.size]? = some (.cells #[.int .i64 n, .slice a es.length cap] 24 (0, 0))) := ⟨below_alloc _ _, heap_alloc_new w _⟩
  go_enter Try.func25, Try.ntmps25
  go_upto_region 1 with fail
  generalize w.alloc (.cells #[.int .i64 n, .slice a es.length cap] 24) = w0 at *
  obtain ⟨hb0, hx0⟩ := B0.out
  have c0 : w0.cell? ⟨w.heap.size, 0, none⟩ = some (.int .i64 n) := by rw [cell_of_row _ _ _ _ _ _ hx0]; rfl
  have hlt0 := (Array.getElem?_eq_some_iff.1 hx0).1
  obtain ⟨w1, hmk, htb, hb1⟩ := make_tbl w0 n (by omega)
  have c1 : w1.cell? ⟨w.heap.size, 1, none⟩ = some (.slice a es.length cap) := by rw [(hb1.cell (p := ⟨w.heap.size, 1, none⟩) hlt0), cell_of_row _ _ _ _ _ _ hx0]; rfl
  have hs0 := hb0.size
  have HB1 : Hid (Below w.heap.size w w1) := hb0.trans (hb1.mono hs0)
  have TB : Hid (Tbl w1 w0.heap.size w0.heap.size n (List.replicate n (.slice none 0 0)) (tblF n [])) := by
    show Tbl _ _ _ _ _ _
    rw [tblF_nil]; exact htb
  have hs1 := HB1.out.size
  clear hb0 hx0 htb hb1 B0
  go_wp2_with fail
  generalize w0.heap.size = G at *
  have hs3 : G < w1.heap.size := by
    have := TB.out.row.lt G rfl
    exact this.2
  go_loopw [12] (fun i wr => ∃ (k : Nat) (vs : List Value), k ≤ es.length ∧ i = .int .i64 k ∧ Tbl wr G G n vs (tblF n (es.take k)) ∧ Below w.heap.size w wr ∧ w1.heap.size ≤ wr.heap.size) (fun i _ => es.length - (intOf i).toNat)
  case atStart => exact ⟨0, _, by omega, rfl, TB.out, HB1.out, Nat.le_refl _⟩
  case round =>
    obtain ⟨k, vs, hk, rfl, htb, hbel, hsw⟩ := hrel
    have TR : Hid (Tbl wr G G n vs (tblF n (es.take k))) := htb
    have HB : Hid (Below w.heap.size w wr) := hbel
    have hsr := hbel.size
    clear htb hbel TB HB1 c0 c1 hmk
    by_cases hlt : k < es.length
    · obtain ⟨b, off, cap', e1, _, _, lt, hv⟩ := EdR.at (HR.out.below HB.out (Nat.le_refl _)) (by omega)
      injection e1 with e1 _ e3
      subst e1 e3
      obtain ⟨x, hx⟩ := getE hlt
      obtain ⟨d1, d2, d3⟩ := hv k x hx
      have hxi := HI.out x (List.mem_of_getElem? hx)
      obtain ⟨j, hj⟩ : ∃ j : Nat, x.1 = j := ⟨x.1.toNat, by omega⟩
      have hjn : j < n := by omega
      have HT : Hid (tblF n (es.take (k + 1)) = (tblF n (es.take k)).set j (hopsL (es.take k) (j : Int) ++ [(x.2.1, x.2.2)])) := tblF_step hx hj hjn
      obtain ⟨u, hu⟩ := getX (show j < vs.length by rw [TR.out.lv]; exact hjn)
      have hfl := tblF_at (es := es.take k) hjn
      have hel := TR.out.el j u _ hu hfl
      obtain ⟨ua, un, uc, rfl⟩ : ∃ a n c, u = .slice a n c := by obtain ⟨a, c, e, _⟩ := RowK.own encH_len hel; exact ⟨_, _, _, e⟩
      have hll : (hopsL (es.take k) (j : Int)).length ≤ 600 := by have := hops_len (es.take k) (j : Int); simp at this; omega
      obtain ⟨x1, x2, x3⟩ := x
      simp only at *
      subst hj
      have p0 : (0 : Int) ≤ (k : Int) := by omega
      have p1 : (k : Int) < (es.length : Int) := by omega
      have q0 : (0 : Int) ≤ (j : Int) := by omega
      have q1 : (j : Int) < (n : Int) := by omega
      have HU : Hid (vs[j]? = some (.slice ua un uc)) := hu
      have HFL : Hid ((tblF n (es.take k))[j]? = some (hopsL (es.take k) (j : Int))) := hfl
      clear hv hx hfl hu hel
      generalize hopsL (es.take k) (j : Int) = f at *
      go_upto_region 5 with fail
      have W1 : Hid (Tbl (wr.alloc (.cells #[.int .i64 (j : Int), .int .i64 x2, .int .i64 x3] 67)) G G n vs (tblF n (es.take k)) ∧ Below w.heap.size w (wr.alloc (.cells #[.int .i64 (j : Int), .int .i64 x2, .int .i64 x3] 67)) ∧ (wr.alloc (.cells #[.int .i64 (j : Int), .int .i64 x2, .int .i64 x3] 67)).heap[wr.heap.size]? = some (.cells #[.int .i64 (j : Int), .int .i64 x2, .int .i64 x3] 67 (0, 0)) ∧ w1.heap.size ≤ (wr.alloc (.cells #[.int .i64 (j : Int), .int .i64 x2, .int .i64 x3] 67)).heap.size) := ⟨TR.out.kept ((Kept.refl _ _).alloc _), HB.out.alloc hsr _, heap_alloc_new wr _, by simp; omega⟩
      generalize wr.alloc (.cells #[.int .i64 (j : Int), .int .i64 x2, .int .i64 x3] 67) = w2 at *
      generalize wr.heap.size = bx at *
      obtain ⟨TR2, HB2, bx2, hs2⟩ := W1.out
      have k0 : w2.cell? ⟨bx, 0, none⟩ = some (.int .i64 (j : Int)) := by rw [cell_of_row _ _ _ _ _ _ bx2]; rfl
      have k1 : w2.cell? ⟨bx, 1, none⟩ = some (.int .i64 x2) := by rw [cell_of_row _ _ _ _ _ _ bx2]; rfl
      have k2 : w2.cell? ⟨bx, 2, none⟩ = some (.int .i64 x3) := by rw [cell_of_row _ _ _ _ _ _ bx2]; rfl
      have k3 := TR2.cell HU.out
      have hbx := (Array.getElem?_eq_some_iff.1 bx2).1
      have hG2 : G < w2.heap.size := by omega
      have m0 : ∀ X, (w2.alloc X).cell? ⟨bx, 0, none⟩ = some (.int .i64 (j : Int)) := fun X => ((below_alloc w2 X).cell (p := ⟨bx, 0, none⟩) hbx).trans k0
      have m1 : ∀ X, (w2.alloc X).cell? ⟨G, j, none⟩ = some (.slice ua un uc) := fun X => ((below_alloc w2 X).cell (p := ⟨G, j, none⟩) hG2).trans k3
      have hel := TR2.el j _ f HU.out HFL.out
      have hs4 := HB2.size
      obtain ⟨g5, c5, w5, hrun, ho5, hgr5, hli5⟩ := run_append_newL kH (w := (w2.alloc (.cells #[.int .i64 x2, .int .i64 x3] 87)).drew) 49 G (.slice ua un uc) f ((hel.alloc _).drew) w2.heap.size (x2, x3) #[.int .i64 x2, .int .i64 x3] rfl (0, 0) (heap_alloc_new w2 _) (by simp only [kH]; omega) (by unfold maxLen; omega) (by show G ≤ (w2.alloc _).heap.size; simp; omega)
      obtain ⟨a1, a2, a3⟩ := appOk_of hrun
      have TR3 : Tbl (w2.alloc (.cells #[.int .i64 x2, .int .i64 x3] 87)).drew G G n vs (tblF n (es.take k)) := TR2.kept ((Kept.refl _ _).alloc _).drew
      obtain ⟨T5, k4, k5⟩ := TR3.put HU.out HFL.out hgr5 ho5 hli5
      have T6 : Hid (Tbl (w5.setCell ⟨G, j, none⟩ (.slice (some ⟨g5, 0, none⟩) (f.length + 1) c5)) G G n (vs.set j (.slice (some ⟨g5, 0, none⟩) (f.length + 1) c5)) (tblF n (es.take (k + 1)))) := by
        show Tbl _ _ _ _ _ _
        rw [HT.out]; exact T5
      have HB6 : Hid (Below w.heap.size w (w5.setCell ⟨G, j, none⟩ (.slice (some ⟨g5, 0, none⟩) (f.length + 1) c5))) := by
        have h5 : Below w.heap.size w w5 := ((HB2.alloc hs4 _).drew).trans ((Below.refl _ _).grown hgr5 (by show w.heap.size ≤ (w2.alloc _).heap.size; simp; omega) (fun q hq => by have := own_ge hel hq; omega))
        exact h5.setCell (p := ⟨G, j, none⟩) (by show w.heap.size ≤ G; omega) _
      have hs6 : w1.heap.size ≤ (w5.setCell ⟨G, j, none⟩ (.slice (some ⟨g5, 0, none⟩) (f.length + 1) c5)).heap.size := by
        rw [size_setCell]
        have h1 := hgr5.size
        have h2 : (w2.alloc (.cells #[.int .i64 x2, .int .i64 x3] 87)).drew.heap.size = w2.heap.size + 1 := by simp
        omega
      have m2 : w5.cell? ⟨bx, 0, none⟩ = some (.int .i64 (j : Int)) := by
        have hb5 : w5.heap[bx]? = some (.cells #[.int .i64 (j : Int), .int .i64 x2, .int .i64 x3] 67 (0, 0)) := by
          rw [hgr5.block bx (by show bx < (w2.alloc _).heap.size; simp; omega) (fun e => own_block hel e.symm bx2 (by decide) rfl)]
          exact ((below_alloc w2 _).block bx hbx).trans bx2
        rw [cell_of_row _ _ _ _ _ _ hb5]; rfl
      unfold kH at a1 a2 a3
      simp only at a1 a2 a3
      clear W1 TR HB TR2 HB2 bx2 hel hrun ho5 hgr5 hli5 TR3 T5 d1 d2 d3
      go_region
      generalize w5.setCell ⟨G, j, none⟩ (.slice (some ⟨g5, 0, none⟩) (f.length + 1) c5) = w6 at *
      clear a1 a2 a3 m0 m1 m2 k0 k1 k2 k3 k4 k5
      go_wp2_with fail
      go_roundw
      case rel => exact ⟨k + 1, _, by omega, by go_num, T6.out, HB6.out, hs6⟩
      case measure => simp [intOf]; omega
    · have ek : es.take k = es := List.take_of_length_le (by omega)
      rw [ek] at TR
      clear ek
      go_wp2_with fail
      go_ret
      exact ⟨_, rfl, TR.out.own.lower (by omega), HB.out⟩
end Go.Proofs.Ytacpicnihgggaaa

namespace Go.Proofs.Ytacpicnihgggaaa
set_option maxRecDepth 100000
open Go.ChangeShapes Go.WideShapes Go.ChangeAt Go.RowKit

/-- The box of a graph. -/
def GX (w : World) (q : Nat) (n : Int) (v : Value) : Prop := w.heap[q]? = some (.cells #[.int .i64 n, v] 24 (0, 0))
theorem GX.cells {w : World} {q : Nat} {n : Int} {v : Value} (h : GX w q n v) : w.cell? ⟨q, 0, none⟩ = some (.int .i64 n) ∧ w.cell? ⟨q, 1, none⟩ = some v := ⟨by rw [cell_of_row _ _ _ _ _ _ h]; rfl, by rw [cell_of_row _ _ _ _ _ _ h]; rfl⟩
theorem GX.below {w w' : World} {q B : Nat} {n : Int} {v : Value} (h : GX w q n v) (hb : Below B w w') (hB : w.heap.size ≤ B) : GX w' q n v := by
  unfold GX at *
  rw [hb.block q (Nat.lt_of_lt_of_le (Array.getElem?_eq_some_iff.1 h).1 hB)]
  exact h
/-- What Build comes to. -/
def BldP (w w' : World) (r : List Int × Int) (e : Ending) : Prop := ∃ v', e = .returned (.tuple #[v', .int .i64 r.2]) ∧ w'.ownsRow w.heap.size 5 1 v' r.1.length (r.1.map (Value.int .u8)) ∧ Below w.heap.size w w'

set_option maxHeartbeats 4000000 in
set_option maxRecDepth 100000 in
theorem build_any (v : Value) (es : List Ed) (n wk k : Int) (w : World) (h : EdR w v es) :
    Calls Try.prog 9 #[.agg #[.int .i64 n, v], .int .i64 wk, .int .i64 k] w fun e w' => BldP w w' (buildF wk k n es) e := by
  have HR : Hid (EdR w v es) := h
  obtain ⟨a, cap, rfl⟩ := h.shape
  clear h
  have HCK : Hid (∀ X, EdR X (.slice a es.length cap) es → Calls Try.prog 24 #[.agg #[.int .i64 n, .slice a es.length cap]] X fun e w' => ∃ v', e = .returned (.tuple #[.agg #[.int .i64 (okN (faultE n es) n), v'], .int .i64 (faultE n es)]) ∧ w'.ownsRow X.heap.size 67 3 v' (okL (faultE n es) (sortE es)).length ((okL (faultE n es) (sortE es)).flatMap encE) ∧ Below X.heap.size X w') := fun X hX => sorted_any _ es n X hX
  have G0 : Hid (GX (w.alloc (.cells #[.int .i64 n, .slice a es.length cap] 24)) w.heap.size n (.slice a es.length cap) ∧ Below w.heap.size w (w.alloc (.cells #[.int .i64 n, .slice a es.length cap] 24)) ∧ EdR (w.alloc (.cells #[.int .i64 n, .slice a es.length cap] 24)) (.slice a es.length cap) es) := ⟨heap_alloc_new w _, below_alloc _ _, HR.out.below (below_alloc _ _) (Nat.le_refl _)⟩
  by_cases hf : faultE n es = 0
  · rw [hf, okN_yes, okL_yes] at HCK
    have HCR : Hid (∀ X, EdR X (.slice a es.length cap) es → Calls Try.prog 19 #[.agg #[.int .i64 n, .slice a es.length cap]] X fun e w' => ∃ v', e = .returned (.tuple #[.agg #[.int .i64 n, v'], .int .i64 0]) ∧ w'.ownsRow X.heap.size 67 3 v' (sortE (es.map turnE)).length ((sortE (es.map turnE)).flatMap encE) ∧ Below X.heap.size X w') := fun X hX => by
      have := reverse_any (.slice a es.length cap) es n X hX
      rwa [hf, okN_yes, okL_yes] at this
    obtain ⟨hn0, hn1, hle, _⟩ := fault_ok hf
    have HSI : Hid (∀ e ∈ sortE es, 0 ≤ e.1 ∧ e.1 < n) := fun e he => ⟨(sortE_in hf e he).1, (sortE_in hf e he).2.1⟩
    have HTI : Hid (∀ e ∈ sortE (es.map turnE), 0 ≤ e.1 ∧ e.1 < n) := fun e he => ⟨(sortE_in (turn_fault hf) e he).1, (sortE_in (turn_fault hf) e he).2.1⟩
    have HGS : Hid (∀ v, GoodH (hopsL (sortE es) v)) := fun v => good_hops hf v
    have HGT : Hid (∀ v, GoodH (hopsL (sortE (es.map turnE)) v)) := fun v => good_hops (turn_fault hf) v
    have hls : (sortE es).length ≤ 600 := by rw [sortE_len]; exact hle
    have hlt' : (sortE (es.map turnE)).length ≤ 600 := by rw [sortE_len, List.length_map]; exact hle
    have HMN : Hid (∀ X, Calls Try.prog 20 #[.int .i64 wk, .int .i64 n, .int .i64 k] X fun e w' => ∃ v', e = .returned (.tuple #[v', .int .i64 (errO wk k n k)]) ∧ w'.ownsRow X.heap.size 3 1 v' (okL (errO wk k n k) (mineL wk.toNat n.toNat k.toNat)).length ((okL (errO wk k n k) (mineL wk.toNat n.toNat k.toNat)).flatMap encI) ∧ Below X.heap.size X w') := fun X => mine_any wk n k X
    by_cases he : errO wk k n k = 0
    · obtain ⟨⟨_, _, hk1, hk8⟩, hw0, hwk⟩ := errO_inv he
      have HOK : Hid ((payB wk k n es).length ≤ 20000 → buildF wk k n es = (wrap (payB wk k n es), 0)) := build_ok hf he
      have HOV : Hid (¬ (payB wk k n es).length ≤ 20000 → buildF wk k n es = ([], 1)) := build_over hf he
      have HPB : Hid (∀ x ∈ payB wk k n es, 0 ≤ x ∧ x ≤ 255) := payB_bytes hf he
      have HPY : Hid (payB wk k n es = numsB [wk, k, n] ++ bodyB (sortE es) (sortE (es.map turnE)) (mineL wk.toNat n.toNat k.toNat)) := rfl
      have hML : (mineL wk.toNat n.toNat k.toNat).length ≤ 200 := by rw [mineL_len]; exact Nat.le_trans (cnt_le (by omega)) (by omega)
      have HMI : Hid (∀ x ∈ mineL wk.toNat n.toNat k.toNat, 0 ≤ x ∧ x < n) := fun x hx => by
        unfold mineL at hx
        obtain ⟨i, hi, rfl⟩ := List.mem_map.1 hx
        have h1 : i < cntO wk.toNat n.toNat k.toNat := by simpa using hi
        rw [cnt_more (by omega) (by omega)] at h1
        omega
      rw [he, okL_yes] at HMN
      obtain ⟨N, rfl⟩ : ∃ m : Nat, n = m := ⟨n.toNat, by omega⟩
      have HA : Hid (∀ (X : World) (v : Value) (ss : List Ed), EdR X v ss → ss.length ≤ 600 → (∀ e ∈ ss, 0 ≤ e.1 ∧ e.1 < (N : Int)) → Calls Try.prog 25 #[.agg #[.int .i64 (N : Int), v]] X fun e w' => ∃ v', e = .returned v' ∧ OwnLs w' X.heap.size v' (tblF N ss) ∧ Below X.heap.size X w') := fun X v ss h1 h2 h3 => allHops_any v ss N X h1 (by omega) h2 h3
      clear hf he
      generalize buildF wk k N es = res at *
      generalize payB wk k N es = pay at *
      generalize mineL wk.toNat (N : Int).toNat k.toNat = ML at *
      generalize sortE es = ss at *
      generalize sortE (es.map turnE) = tt at *
      go_enter Try.func9, Try.ntmps9
      go_upto_region 1 with fail
      generalize w.alloc (.cells #[.int .i64 (N : Int), .slice a es.length cap] 24) = w0 at *
      obtain ⟨c0, c1⟩ := G0.out.1.cells
      go_wp2_with fail
      refine (HCK.out w0 G0.out.2.2).mono ?_
      rintro e w1 ⟨sv, rfl, hown, hb1⟩
      obtain ⟨sa, sc, rfl⟩ := (RowK.own encE_len hown).shape
      have Q1 : Hid (GX (w1.alloc (.cells #[.int .i64 (N : Int), .slice sa ss.length sc] 24)) w.heap.size N (.slice a es.length cap) ∧ GX (w1.alloc (.cells #[.int .i64 (N : Int), .slice sa ss.length sc] 24)) w1.heap.size N (.slice sa ss.length sc) ∧ EdR (w1.alloc (.cells #[.int .i64 (N : Int), .slice sa ss.length sc] 24)) (.slice sa ss.length sc) ss ∧ EdR (w1.alloc (.cells #[.int .i64 (N : Int), .slice sa ss.length sc] 24)) (.slice a es.length cap) es ∧ Below w.heap.size w (w1.alloc (.cells #[.int .i64 (N : Int), .slice sa ss.length sc] 24))) :=
        ⟨(G0.out.1.below hb1 (Nat.le_refl _)).below (below_alloc _ _) (Nat.le_refl _), heap_alloc_new w1 _, (RowK.own encE_len hown).below (below_alloc _ _) (Nat.le_refl _), (G0.out.2.2.below hb1 (Nat.le_refl _)).below (below_alloc _ _) (Nat.le_refl _), (G0.out.2.1.trans (hb1.mono (by have := G0.out.2.1.size; omega))).alloc (by have := G0.out.2.1.size; have := hb1.size; omega) _⟩
      clear hown hb1 HCK G0 HR c0 c1
      go_upto_region 4 with fail
      generalize w1.alloc (.cells #[.int .i64 (N : Int), .slice sa ss.length sc] 24) = w2 at *
      generalize w1.heap.size = SB at *
      obtain ⟨c0, c1⟩ := Q1.out.1.cells
      go_wp2_with fail
      refine (HMN.out w2).mono ?_
      rintro e w3 ⟨mv, rfl, hown, hb3⟩
      obtain ⟨ma, mc, rfl⟩ := (RowK.own encI_len hown).shape
      have Q2 : Hid (GX w3 w.heap.size N (.slice a es.length cap) ∧ GX w3 SB N (.slice sa ss.length sc) ∧ EdR w3 (.slice sa ss.length sc) ss ∧ EdR w3 (.slice a es.length cap) es ∧ InR w3 (.slice ma ML.length mc) ML ∧ Below w.heap.size w w3) :=
        ⟨Q1.out.1.below hb3 (Nat.le_refl _), Q1.out.2.1.below hb3 (Nat.le_refl _), Q1.out.2.2.1.below hb3 (Nat.le_refl _), Q1.out.2.2.2.1.below hb3 (Nat.le_refl _), RowK.own encI_len hown, Q1.out.2.2.2.2.trans (hb3.mono Q1.out.2.2.2.2.size)⟩
      clear hown hb3 Q1 HMN c0 c1
      obtain ⟨c0, c1⟩ := Q2.out.1.cells
      go_wp2_with fail
      refine (HCR.out w3 Q2.out.2.2.2.1).mono ?_
      rintro e w4 ⟨rv, rfl, hown, hb4⟩
      obtain ⟨ra, rc, rfl⟩ := (RowK.own encE_len hown).shape
      have Q3 : Hid (GX (w4.alloc (.cells #[.int .i64 (N : Int), .slice ra tt.length rc] 24)) w.heap.size N (.slice a es.length cap) ∧ GX (w4.alloc (.cells #[.int .i64 (N : Int), .slice ra tt.length rc] 24)) SB N (.slice sa ss.length sc) ∧ GX (w4.alloc (.cells #[.int .i64 (N : Int), .slice ra tt.length rc] 24)) w4.heap.size N (.slice ra tt.length rc) ∧ EdR (w4.alloc (.cells #[.int .i64 (N : Int), .slice ra tt.length rc] 24)) (.slice sa ss.length sc) ss ∧ EdR (w4.alloc (.cells #[.int .i64 (N : Int), .slice ra tt.length rc] 24)) (.slice ra tt.length rc) tt ∧ InR (w4.alloc (.cells #[.int .i64 (N : Int), .slice ra tt.length rc] 24)) (.slice ma ML.length mc) ML ∧ Below w.heap.size w (w4.alloc (.cells #[.int .i64 (N : Int), .slice ra tt.length rc] 24))) :=
        ⟨(Q2.out.1.below hb4 (Nat.le_refl _)).below (below_alloc _ _) (Nat.le_refl _), (Q2.out.2.1.below hb4 (Nat.le_refl _)).below (below_alloc _ _) (Nat.le_refl _), heap_alloc_new w4 _, (Q2.out.2.2.1.below hb4 (Nat.le_refl _)).below (below_alloc _ _) (Nat.le_refl _), (RowK.own encE_len hown).below (below_alloc _ _) (Nat.le_refl _), (Q2.out.2.2.2.2.1.below hb4 (Nat.le_refl _)).below (below_alloc _ _) (Nat.le_refl _), (Q2.out.2.2.2.2.2.trans (hb4.mono Q2.out.2.2.2.2.2.size)).alloc (Nat.le_trans Q2.out.2.2.2.2.2.size hb4.size) _⟩
      clear hown hb4 Q2 HCR c0 c1
      go_upto_region 8 with fail
      generalize w4.alloc (.cells #[.int .i64 (N : Int), .slice ra tt.length rc] 24) = w5 at *
      generalize w4.heap.size = RB at *
      have KS : Hid (∀ V, Below w5.heap.size w5 V → V.cell? ⟨SB, 0, none⟩ = some (.int .i64 (N : Int)) ∧ V.cell? ⟨SB, 1, none⟩ = some (.slice sa ss.length sc) ∧ V.cell? ⟨RB, 0, none⟩ = some (.int .i64 (N : Int)) ∧ V.cell? ⟨RB, 1, none⟩ = some (.slice ra tt.length rc)) := fun V hV => ⟨(Q3.out.2.1.below hV (Nat.le_refl _)).cells.1, (Q3.out.2.1.below hV (Nat.le_refl _)).cells.2, (Q3.out.2.2.1.below hV (Nat.le_refl _)).cells.1, (Q3.out.2.2.1.below hV (Nat.le_refl _)).cells.2⟩
      have HSD : Hid (w5.drew.cell? ⟨SB, 0, none⟩ = some (.int .i64 (N : Int)) ∧ w5.drew.cell? ⟨SB, 1, none⟩ = some (.slice sa ss.length sc) ∧ w5.drew.cell? ⟨RB, 0, none⟩ = some (.int .i64 (N : Int)) ∧ w5.drew.cell? ⟨RB, 1, none⟩ = some (.slice ra tt.length rc)) := KS.out _ (Below.refl _ _).drew
      have epk : ∀ args w, (callFunc 25 args).run Try.prog w = .ok (.enter 25 args) w := enters_of Try.func25 (by kernel_rfl) rfl
      refine wp_region_held (S := fun V => V.cell? ⟨SB, 0, none⟩ = some (.int .i64 (N : Int)) ∧ V.cell? ⟨SB, 1, none⟩ = some (.slice sa ss.length sc) ∧ V.cell? ⟨RB, 0, none⟩ = some (.int .i64 (N : Int)) ∧ V.cell? ⟨RB, 1, none⟩ = some (.slice ra tt.length rc)) (by kernel_rfl) ?_
      simp only [List.size_toArray, List.length_cons, List.length_nil, Nat.reduceAdd]
      refine takeH (i := 0) (v := .agg #[.int .i64 (N : Int), .slice sa ss.length sc]) (d := 42) rfl rfl (by kernel_rfl) (by kernel_rfl) (by kernel_rfl) (fun _ _ _ h => h) (by rfl) (fun V hV => by obtain ⟨v1, v2, v3, v4⟩ := hV; go_simp) HSD.out ?_
      simp only [Act.put, List.setIfInBounds_toArray, List.set_cons_zero, List.set_cons_succ]
      refine takeH (i := 2) (v := .agg #[.int .i64 (N : Int), .slice ra tt.length rc]) (d := 44) rfl rfl (by kernel_rfl) (by kernel_rfl) (by kernel_rfl) (fun _ _ _ h => h) (by rfl) (fun V hV => by obtain ⟨v1, v2, v3, v4⟩ := hV; go_simp) HSD.out ?_
      simp only [Act.put, List.setIfInBounds_toArray, List.set_cons_zero, List.set_cons_succ]
      refine oneH (i := 1) rfl (by kernel_rfl) rfl (call_gets (d := 43) (f := 25) (xs := #[.tmp 42]) (ats := #[24]) rfl rfl epk (vs := #[.agg #[.int .i64 (N : Int), .slice sa ss.length sc]]) (by simp [Act.eval]) (HA.out _ _ ss (Q3.out.2.2.2.1.below (Below.refl _ _).drew (Nat.le_refl _)) hls HSI.out) ?_)
      rintro fv w6 ⟨hfo, hb6⟩
      have B6 : Below w5.heap.size w5 w6 := below_undrew hb6
      refine ⟨KS.out _ B6, ?_⟩
      simp only [Act.put, List.setIfInBounds_toArray, List.set_cons_zero, List.set_cons_succ]
      refine oneH (i := 3) rfl (by kernel_rfl) rfl (call_gets (d := 45) (f := 25) (xs := #[.tmp 44]) (ats := #[24]) rfl rfl epk (vs := #[.agg #[.int .i64 (N : Int), .slice ra tt.length rc]]) (by simp [Act.eval]) (HA.out _ _ tt (Q3.out.2.2.2.2.1.below B6 (Nat.le_refl _)) hlt' HTI.out) ?_)
      rintro bv w7 ⟨hbo, hb7⟩
      have B7 : Below w5.heap.size w5 w7 := B6.trans (hb7.mono B6.size)
      refine ⟨KS.out _ B7, ?_⟩
      simp only [Act.put, List.setIfInBounds_toArray, List.set_cons_zero, List.set_cons_succ]
      refine takeH (i := 4) (v := fv) (d := 13) rfl rfl (by kernel_rfl) (by kernel_rfl) (by kernel_rfl) (fun _ _ _ h => h) (by rfl) (fun V hV => by obtain ⟨v1, v2, v3, v4⟩ := hV; go_simp) (KS.out _ B7) ?_
      simp only [Act.put, List.setIfInBounds_toArray, List.set_cons_zero, List.set_cons_succ]
      refine takeH (i := 5) (v := bv) (d := 14) rfl rfl (by kernel_rfl) (by kernel_rfl) (by kernel_rfl) (fun _ _ _ h => h) (by rfl) (fun V hV => by obtain ⟨v1, v2, v3, v4⟩ := hV; go_simp) (KS.out _ B7) ?_
      simp only [Act.put, List.setIfInBounds_toArray, List.set_cons_zero, List.set_cons_succ]
      refine wpAnyH_done (by kernel_rfl) ?_ _
      have Q4 : Hid (GX w7 w.heap.size N (.slice a es.length cap) ∧ LsR w7 fv (tblF N ss) ∧ LsR w7 bv (tblF N tt) ∧ InR w7 (.slice ma ML.length mc) ML ∧ Below w.heap.size w w7) := ⟨Q3.out.1.below B7 (Nat.le_refl _), hfo.reads.below hb7 (Nat.le_refl _), hbo.reads, Q3.out.2.2.2.2.2.1.below B7 (Nat.le_refl _), Q3.out.2.2.2.2.2.2.trans (B7.mono Q3.out.2.2.2.2.2.2.size)⟩
      obtain ⟨fa, fc, rfl⟩ : ∃ a c, fv = .slice a (tblF N ss).length c := by obtain ⟨a, c, e, _⟩ := hfo.reads; exact ⟨a, c, e⟩
      obtain ⟨ba, bc, rfl⟩ : ∃ a c, bv = .slice a (tblF N tt).length c := by obtain ⟨a, c, e, _⟩ := hbo.reads; exact ⟨a, c, e⟩
      clear hfo hb6 hbo hb7 B6 B7 KS HSD HA Q3
      show Exit.then _ _ _ _ _
      obtain ⟨c0, c1⟩ := Q4.out.1.cells
      have hs7 := Q4.out.2.2.2.2.size
      go_wp2_with fail
      have Q5 : Hid (LsR (w7.alloc (.cells #[.int .i64 wk, .int .i64 k, .int .i64 (N : Int)] 3)) (.slice fa (tblF N ss).length fc) (tblF N ss) ∧ LsR (w7.alloc (.cells #[.int .i64 wk, .int .i64 k, .int .i64 (N : Int)] 3)) (.slice ba (tblF N tt).length bc) (tblF N tt) ∧ InR (w7.alloc (.cells #[.int .i64 wk, .int .i64 k, .int .i64 (N : Int)] 3)) (.slice ma ML.length mc) ML ∧ Below w.heap.size w (w7.alloc (.cells #[.int .i64 wk, .int .i64 k, .int .i64 (N : Int)] 3)) ∧ (w7.alloc (.cells #[.int .i64 wk, .int .i64 k, .int .i64 (N : Int)] 3)).ownsRow w7.heap.size 3 1 (.slice (some ⟨w7.heap.size, 0, none⟩) 3 3) [wk, k, (N : Int)].length ([wk, k, (N : Int)].flatMap encI)) :=
        ⟨Q4.out.2.1.below (below_alloc _ _) (Nat.le_refl _), Q4.out.2.2.1.below (below_alloc _ _) (Nat.le_refl _), Q4.out.2.2.2.1.below (below_alloc _ _) (Nat.le_refl _), Q4.out.2.2.2.2.alloc hs7 _, rfl, .inr ⟨w7.heap.size, 3, #[.int .i64 wk, .int .i64 k, .int .i64 (N : Int)], rfl, Nat.le_refl _, heap_alloc_new w7 _, by simp, by simp [maxLen], by simp, rfl⟩⟩
      generalize (w7.alloc (.cells #[.int .i64 wk, .int .i64 k, .int .i64 (N : Int)] 3)) = w8 at *
      generalize w7.heap.size = NB at *
      have hs8 := Q5.out.2.2.2.1.size
      have hN3 : ∀ m ∈ [wk, k, (N : Int)], 0 ≤ m ∧ m ≤ 1099511627776 := fun m hm => by simp only [List.mem_cons, List.not_mem_nil, or_false] at hm; omega
      clear c0 c1 Q4
      refine (appendNumbers_any w8.heap.size NB _ _ [] [wk, k, (N : Int)] w8 (World.ownsRow_nil _ _ _ _) Q5.out.2.2.2.2 hN3 (by simp) (Nat.le_refl _)).mono ?_
      rintro e w9 ⟨nv, rfl, hown9, hb9⟩
      have O9 : Hid (w9.ownsRow w8.heap.size 5 1 nv (numsB [wk, k, (N : Int)]).length ((numsB [wk, k, (N : Int)]).map (Value.int .u8))) := by
        show World.ownsRow _ _ _ _ _ _ _
        simpa using hown9
      have B9 : Hid (Below w8.heap.size w8 w9) := hb9
      have hP0 : (numsB [wk, k, (N : Int)]).length ≤ 30 := by have := numsB_len [wk, k, (N : Int)]; simpa using this
      clear hown9 hb9 hN3
      generalize numsB [wk, k, (N : Int)] = P0 at *
      generalize hBS : w8.heap.size = BS at *
      have hmc : mc ≤ maxLen := by obtain ⟨_, _, e, _, h, _⟩ := Q5.out.2.2.1; injection e with _ _ e3; rw [e3]; exact h
      unfold maxLen at hmc
      go_wp2_with fail
      go_loopw [15, 54] (fun s i wr => ∃ kk : Nat, kk ≤ ML.length ∧ i = .int .i64 kk ∧ wr.ownsRow BS 5 1 s (P0 ++ bodyB ss tt (ML.take kk)).length ((P0 ++ bodyB ss tt (ML.take kk)).map (Value.int .u8)) ∧ Below BS w8 wr) (fun _ i _ => ML.length - (intOf i).toNat)
      case atStart => exact ⟨0, by omega, rfl, by simpa [bodyB] using O9.out, B9.out⟩
      case round =>
        obtain ⟨kk, hkk, rfl, hown, hbel⟩ := hrel
        have OW : Hid (wr.ownsRow BS 5 1 u15 (P0 ++ bodyB ss tt (ML.take kk)).length ((P0 ++ bodyB ss tt (ML.take kk)).map (Value.int .u8))) := hown
        have HB : Hid (Below BS w8 wr) := hbel
        have hsr : BS ≤ wr.heap.size := by have := hbel.size; omega
        clear hown hbel O9 B9
        by_cases hlt : kk < ML.length
        · obtain ⟨x, hx⟩ := getX hlt
          have hxi := HMI.out x (List.mem_of_getElem? hx)
          obtain ⟨j, rfl⟩ : ∃ j : Nat, x = j := ⟨x.toNat, by omega⟩
          have HT : Hid (P0 ++ bodyB ss tt (ML.take (kk + 1)) = (P0 ++ bodyB ss tt (ML.take kk)) ++ hopsB (hopsL ss (j : Int)) ++ hopsB (hopsL tt (j : Int))) := by show _ = _; rw [take_snoc hx, bodyB_snoc]; simp
          have hbl := bodyB_len hls hlt' (ML.take kk)
          have hbl2 : (P0 ++ bodyB ss tt (ML.take kk)).length ≤ 5000000 := by rw [List.length_append]; rw [List.length_take] at hbl; omega
          obtain ⟨mb, mo, mc', e1, _, _, mlt, hmv⟩ := InR.at (Q5.out.2.2.1.below HB.out (by omega)) (by omega)
          injection e1 with e1 _ e3
          subst e1 e3
          have d1 := hmv kk (j : Int) hx
          have htl : (tblF N ss).length = N := by simp [tblF]
          have htl2 : (tblF N tt).length = N := by simp [tblF]
          have hjN : j < N := by omega
          obtain ⟨fb, fo, fc', e1, flt, _, _, hfv⟩ := (Q5.out.1.below HB.out (by omega)).at (by omega)
          injection e1 with e1 _ e3
          subst e1 e3
          obtain ⟨fu, f1, f2⟩ := hfv j _ (tblF_at hjN)
          obtain ⟨fua, fuc, rfl⟩ := f2.shape
          have F2 : Hid (HpR wr (.slice fua (hopsL ss (j : Int)).length fuc) (hopsL ss (j : Int))) := f2
          have hhl := hops_len ss (j : Int)
          have hhl2 := hops_len tt (j : Int)
          have HGJ : Hid (GoodH (hopsL ss (j : Int))) := HGS.out _
          have HGJ2 : Hid (GoodH (hopsL tt (j : Int))) := HGT.out _
          have i1 : (0 : Int) ≤ (kk : Int) := by omega
          have i2 : (kk : Int) < (ML.length : Int) := by omega
          have i3 : (0 : Int) ≤ (j : Int) := by omega
          have i4 : (j : Int) < ((tblF N ss).length : Int) := by omega
          have i5 : (j : Int) < ((tblF N tt).length : Int) := by omega
          have hhs1 := hopsB_len (hopsL ss (j : Int))
          have hpos2 : 0 < (tblF N tt).length := by omega
          clear hmv hfv f2 hx hbl htl htl2
          generalize P0 ++ bodyB ss tt (ML.take kk) = acc at *
          go_wp2_with fail
          refine (appendHops_any BS _ _ acc (hopsL ss (j : Int)) wr OW.out F2.out HGJ.out (by omega) hsr).mono ?_
          rintro e w10 ⟨v10, rfl, hown10, hb10⟩
          have O10 : Hid (w10.ownsRow BS 5 1 v10 (acc ++ hopsB (hopsL ss (j : Int))).length ((acc ++ hopsB (hopsL ss (j : Int))).map (Value.int .u8))) := hown10
          have HB10 : Hid (Below BS w8 w10) := HB.out.trans hb10
          have hs10 : BS ≤ w10.heap.size := by have := HB10.out.size; omega
          have hal : (acc ++ hopsB (hopsL ss (j : Int))).length ≤ 6000000 := by rw [List.length_append]; omega
          obtain ⟨gb, go', gc', e1, glt, _, _, hgv⟩ := (Q5.out.2.1.below HB10.out (by omega)).at (by omega)
          injection e1 with e1 _ e3
          subst e1 e3
          obtain ⟨gu, g1, g2⟩ := hgv j _ (tblF_at hjN)
          obtain ⟨gua, guc, rfl⟩ := g2.shape
          have G2 : Hid (HpR w10 (.slice gua (hopsL tt (j : Int)).length guc) (hopsL tt (j : Int))) := g2
          clear hown10 hb10 OW HB d1 f1 F2 hgv g2
          generalize hopsB (hopsL ss (j : Int)) = A1 at *
          generalize hacc : acc ++ A1 = acc2 at *
          go_wp2_with fail
          refine (appendHops_any BS _ _ acc2 (hopsL tt (j : Int)) w10 O10.out G2.out HGJ2.out (by omega) hs10).mono ?_
          rintro e w11 ⟨v11, rfl, hown11, hb11⟩
          have O11 : Hid (w11.ownsRow BS 5 1 v11 (P0 ++ bodyB ss tt (ML.take (kk + 1))).length ((P0 ++ bodyB ss tt (ML.take (kk + 1))).map (Value.int .u8))) := by
            show World.ownsRow _ _ _ _ _ _ _
            rw [HT.out]; exact hown11
          have HB11 : Hid (Below BS w8 w11) := HB10.out.trans hb11
          clear hown11 hb11 O10 HB10 g1
          go_wp2_with fail
          go_roundw
          case rel => exact ⟨kk + 1, by omega, by go_num, O11.out, HB11.out⟩
          case measure => simp [intOf]; omega
        · have ek : ML.take kk = ML := List.take_of_length_le (by omega)
          rw [ek, ← HPY.out] at OW
          have RP : Hid (Reads .u8 wr u15 pay) := reads_own OW.out
          obtain ⟨pa, pc, e, _⟩ := RP.out
          subst e
          clear ek OW
          have HBW : Hid (Below w.heap.size w wr) := Q5.out.2.2.2.1.trans (HB.out.mono (by omega))
          have hsw := HBW.out.size
          by_cases hpl : pay.length ≤ 20000
          · have hr := HOK.out hpl
            subst hr
            go_wp2_with fail
            refine (wrap_any _ pay wr RP.out HPB.out hpl).mono ?_
            rintro e w12 ⟨v12, rfl, hown12, hb12⟩
            have O12 : Hid (w12.ownsRow w.heap.size 5 1 v12 (wrap pay).length ((wrap pay).map (Value.int .u8))) := own_lower hown12 hsw
            have HB12 : Hid (Below w.heap.size w w12) := HBW.out.trans (hb12.mono hsw)
            clear hown12 hb12
            go_wp2_with fail
            go_ret2
            exact ⟨_, rfl, O12.out, HB12.out⟩
          · have hr := HOV.out hpl
            subst hr
            go_wp2_with fail
            refine (wrap_over _ pay.length _ wr (by omega)).mono ?_
            rintro e w12 ⟨rfl, rfl⟩
            go_wp2_with fail
            go_ret2
            exact ⟨_, rfl, World.ownsRow_nil _ _ _ _, HBW.out⟩
    · have hr : buildF wk k n es = ([], errO wk k n k) := build_err hf he
      have hne : (errO wk k n k != 0) = true := by simpa using he
      rw [hr]
      rw [okL_no he] at HMN
      generalize errO wk k n k = fe at *
      clear hr he hf HCR HSI HTI HGS HGT
      generalize sortE es = ss at *
      go_enter Try.func9, Try.ntmps9
      go_upto_region 1 with fail
      generalize w.alloc (.cells #[.int .i64 n, .slice a es.length cap] 24) = w0 at *
      obtain ⟨c0, c1⟩ := G0.out.1.cells
      go_wp2_with fail
      refine (HCK.out w0 G0.out.2.2).mono ?_
      rintro e w1 ⟨sv, rfl, hown, hb1⟩
      obtain ⟨sa, sc, rfl⟩ := (RowK.own encE_len hown).shape
      have Q1 : Hid (GX (w1.alloc (.cells #[.int .i64 n, .slice sa ss.length sc] 24)) w.heap.size n (.slice a es.length cap) ∧ Below w.heap.size w (w1.alloc (.cells #[.int .i64 n, .slice sa ss.length sc] 24))) :=
        ⟨(G0.out.1.below hb1 (Nat.le_refl _)).below (below_alloc _ _) (Nat.le_refl _), (G0.out.2.1.trans (hb1.mono (by have := G0.out.2.1.size; omega))).alloc (by have := G0.out.2.1.size; have := hb1.size; omega) _⟩
      clear hown hb1 HCK G0 HR c0 c1
      go_upto_region 4 with fail
      generalize w1.alloc (.cells #[.int .i64 n, .slice sa ss.length sc] 24) = w2 at *
      obtain ⟨c0, c1⟩ := Q1.out.1.cells
      go_wp2_with fail
      refine (HMN.out w2).mono ?_
      rintro e w3 ⟨mv, rfl, hown, hb3⟩
      obtain ⟨ma, mc, rfl⟩ := (RowK.own encI_len hown).shape
      have Q2 : Hid (Below w.heap.size w w3) := Q1.out.2.trans (hb3.mono Q1.out.2.size)
      clear hown hb3
      go_wp2_with fail
      go_ret2
      exact ⟨_, rfl, World.ownsRow_nil _ _ _ _, Q2.out⟩
  · have hr : buildF wk k n es = ([], faultE n es) := build_fault hf
    have hne : (faultE n es != 0) = true := by simpa using hf
    rw [hr]
    rw [okN_no hf, okL_no hf] at HCK
    generalize faultE n es = fe at *
    clear hr hf
    go_enter Try.func9, Try.ntmps9
    go_upto_region 1 with fail
    generalize w.alloc (.cells #[.int .i64 n, .slice a es.length cap] 24) = w0 at *
    obtain ⟨c0, c1⟩ := G0.out.1.cells
    go_wp2_with fail
    refine (HCK.out w0 G0.out.2.2).mono ?_
    rintro e w1 ⟨sv, rfl, hown, hb1⟩
    obtain ⟨sa, sc, rfl⟩ := (RowK.own encE_len hown).shape
    have Q1 : Hid (Below w.heap.size w (w1.alloc (.cells #[.int .i64 0, .slice sa ([] : List Ed).length sc] 24))) := (G0.out.2.1.trans (hb1.mono (by have := G0.out.2.1.size; omega))).alloc (by have := G0.out.2.1.size; have := hb1.size; omega) _
    clear hown hb1
    go_wp2_with fail
    go_ret2
    exact ⟨_, rfl, World.ownsRow_nil _ _ _ _, Q1.out⟩
end Go.Proofs.Ytacpicnihgggaaa

namespace Go.Proofs.Ytacpicnihgggaaa
set_option maxRecDepth 100000
open Go.ChangeShapes Go.WideShapes Go.ChangeAt Go.RowKit

/-- The number that picked makes of n: from 0 to m - 1. -/
def pickF (n m : Int) : Int := (if n < 0 then -(n + 1) else n) % m
theorem pickF_bd (n m : Int) (hm : 0 < m) : 0 ≤ pickF n m ∧ pickF n m < m := ⟨Int.emod_nonneg _ (by omega), Int.emod_lt_of_pos _ hm⟩

set_option maxHeartbeats 400000 in
theorem picked_any (n m : Int) (w : World) (h0 : -9223372036854775808 ≤ n) (h1 : n ≤ 9223372036854775807) (hm : 0 < m) (hm1 : m ≤ 9223372036854775807) :
    Calls Try.prog 18 #[.int .i64 n, .int .i64 m] w fun e w' => e = .returned (.int .i64 (pickF n m)) ∧ w' = w := by
  by_cases h : n < 0
  · have HP : Hid (pickF n m = (-(n + 1)) % m) := by show pickF n m = _; unfold pickF; rw [if_pos h]
    have hz : (m == 0) = false := by simp; omega
    go_enter Try.func18, Try.ntmps18
    go_wp2
    go_ret
    exact ⟨ret_i64 (by rw [HP.out, ← Int.neg_tmod, Int.tmod_eq_emod_of_nonneg (by omega)]), rfl⟩
  · have HP : Hid (pickF n m = n % m) := by show pickF n m = _; unfold pickF; rw [if_neg h]
    have hz : (m == 0) = false := by simp; omega
    go_enter Try.func18, Try.ntmps18
    go_wp2
    go_ret
    exact ⟨ret_i64 (by rw [HP.out]), rfl⟩
end Go.Proofs.Ytacpicnihgggaaa

namespace Go.Proofs.Ytacpicnihgggaaa
set_option maxRecDepth 100000
open Go.ChangeShapes Go.WideShapes Go.ChangeAt Go.RowKit

/-- A graph's box behind a store of its edges. -/
theorem heap_set1 {w : World} {b : Nat} {n : Int} {u v : Value} (h : w.heap[b]? = some (.cells #[.int .i64 n, u] 24 (0, 0))) : (w.setCell ⟨b, 1, none⟩ v).heap[b]? = some (.cells #[.int .i64 n, v] 24 (0, 0)) := by
  simp only [World.setCell, Array.getElem?_modify, if_true]
  rw [h]
  rfl
/-- What made makes of one way, in a graph of N vertices. -/
def wayE (N : Int) (x : Ed) : Ed := (pickF x.1 N, pickF x.2.1 N, pickF x.2.2 10)
def madeL (N : Int) (ws : List Ed) : List Ed := (ws.take 10).map (wayE N)

set_option maxHeartbeats 4000000 in
set_option maxRecDepth 100000 in
theorem made_any (n most : Int) (v : Value) (ws : List Ed) (w : World) (h : EdR w v ws) (hB : ∀ x ∈ ws, edB x) (hn : i64B n) (hm0 : 0 < most) (hm1 : most ≤ 199) :
    Calls Try.prog 17 #[.int .i64 n, v, .int .i64 most] w fun e w' => ∃ v', e = .returned (.agg #[.int .i64 (1 + pickF n most), v']) ∧
      w'.ownsRow w.heap.size 67 3 v' (madeL (1 + pickF n most) ws).length ((madeL (1 + pickF n most) ws).flatMap encE) ∧ Below w.heap.size w w' := by
  have HR : Hid (EdR w v ws) := h
  obtain ⟨a, cap, rfl, hcc, hcm, _, _⟩ := h
  unfold maxLen at hcm
  have HP : Hid (∀ X, Calls Try.prog 18 #[.int .i64 n, .int .i64 most] X fun e w' => e = .returned (.int .i64 (pickF n most)) ∧ w' = X) := fun X => picked_any n most X hn.1 hn.2 hm0 (by omega)
  have hpb := pickF_bd n most hm0
  have hw1 : IntKind.i64.wrap (1 + pickF n most) = 1 + pickF n most := wrap_id64 (by omega) (by omega)
  have hN0 : 0 < 1 + pickF n most := by omega
  have hN1 : 1 + pickF n most ≤ 200 := by omega
  have HPB : Hid (∀ x ∈ ws, edB x) := hB
  clear hB hpb
  generalize pickF n most = p at *
  go_enter Try.func17, Try.ntmps17
  go_wp2_with fail
  refine (HP.out _).mono ?_
  rintro e w1 ⟨rfl, rfl⟩
  clear HP
  go_wp2_with fail
  go_loopw [8] (fun i wr => ∃ (k : Nat) (u : Value), k ≤ ws.length ∧ k ≤ 10 ∧ i = .int .i64 k ∧ wr.ownsRow (w.heap.size + 2) 67 3 u ((ws.take k).map (wayE (1 + p))).length (((ws.take k).map (wayE (1 + p))).flatMap encE) ∧ wr.heap[w.heap.size + 1]? = some (.cells #[.int .i64 (1 + p), u] 24 (0, 0)) ∧ Below (w.heap.size + 1) (w.alloc (.cells #[.int .i64 0, .slice none 0 0] 24)) wr) (fun i _ => ws.length - (intOf i).toNat)
  case atStart => exact ⟨0, _, by omega, by omega, rfl, World.ownsRow_nil _ _ _ _, heap_second _ _ _ _, (Below.refl _ _).alloc (by simp) _⟩
  case round =>
    obtain ⟨k, u, hk, hk10, rfl, hown, hbox, hbel⟩ := hrel
    have OW : Hid (wr.ownsRow (w.heap.size + 2) 67 3 u ((ws.take k).map (wayE (1 + p))).length (((ws.take k).map (wayE (1 + p))).flatMap encE)) := hown
    have HB : Hid (Below (w.heap.size + 1) (w.alloc (.cells #[.int .i64 0, .slice none 0 0] 24)) wr) := hbel
    have HX : Hid (wr.heap[w.heap.size + 1]? = some (.cells #[.int .i64 (1 + p), u] 24 (0, 0))) := hbox
    have x0 : wr.cell? ⟨w.heap.size + 1, 0, none⟩ = some (.int .i64 (1 + p)) := by rw [cell_of_row _ _ _ _ _ _ hbox]; rfl
    have x1 : wr.cell? ⟨w.heap.size + 1, 1, none⟩ = some u := by rw [cell_of_row _ _ _ _ _ _ hbox]; rfl
    have x2 : wr.frozen? ⟨w.heap.size + 1, 1, none⟩ = false := by simp only [World.frozen?, hbox]; simp
    have hsr : w.heap.size + 2 ≤ wr.heap.size := (Array.getElem?_eq_some_iff.1 hbox).1
    obtain ⟨ua, un, uc, rfl⟩ : ∃ a n c, u = .slice a n c := by obtain ⟨a, c, e, _⟩ := RowK.own encE_len hown; exact ⟨_, _, _, e⟩
    clear hown hbel hbox
    by_cases hlt : k < ws.length
    · by_cases hlt2 : k < 10
      · obtain ⟨b, off, cap', e1, _, _, lt, hv⟩ := EdR.at (HR.out.below (box_below HB.out) (Nat.le_refl _)) (by omega)
        have ltw : b < w.heap.size := by
          obtain ⟨b', off', cap'', e2, _, _, lt', _⟩ := EdR.at HR.out (by omega)
          rw [e1] at e2
          injection e2 with e2 _ _
          injection e2 with e2
          injection e2 with e2
          omega
        injection e1 with e1 _ e3
        subst e1 e3
        obtain ⟨x, hx⟩ := getE hlt
        obtain ⟨c1, c2, c3⟩ := hv k x hx
        have hxb := HPB.out x (List.mem_of_getElem? hx)
        have HT : Hid ((ws.take (k + 1)).map (wayE (1 + p)) = (ws.take k).map (wayE (1 + p)) ++ [wayE (1 + p) x]) := by show _ = _; rw [take_snoc hx, List.map_append]; rfl
        have hlk : ((ws.take k).map (wayE (1 + p))).length = k := by simp; omega
        obtain ⟨⟨b0, b1⟩, ⟨b2, b3⟩, ⟨b4, b5⟩⟩ := hxb
        have p0 : (0 : Int) ≤ (k : Int) := by omega
        have p1 : (k : Int) < (ws.length : Int) := by omega
        clear hv hx
        generalize (ws.take k).map (wayE (1 + p)) = f at *
        go_upto_region 5 with fail
        have hsz : (wr.alloc (.cells #[.int .i64 (pickF x.1 (1 + p)), .int .i64 (pickF x.2.1 (1 + p)), .int .i64 (pickF x.2.2 10)] 67)).drew.heap.size = wr.heap.size + 1 := by simp
        obtain ⟨g, gc, w2, hrun, hown2, hgr⟩ := run_append_newK kE (w := (wr.alloc (.cells #[.int .i64 (pickF x.1 (1 + p)), .int .i64 (pickF x.2.1 (1 + p)), .int .i64 (pickF x.2.2 10)] 67)).drew) 22 (w.heap.size + 2) (.slice ua un uc) f ((OW.out.alloc _).drew) wr.heap.size (wayE (1 + p) x) #[.int .i64 (pickF x.1 (1 + p)), .int .i64 (pickF x.2.1 (1 + p)), .int .i64 (pickF x.2.2 10)] rfl (0, 0) (heap_alloc_new wr _) (by simp only [kE]; omega) (by unfold maxLen; omega) (by rw [hsz]; omega)
        unfold kE at hrun
        simp only at hrun
        have hbb : Below (w.heap.size + 2) wr w2 := (((Below.refl _ _).alloc hsr _).drew).grown hgr (by rw [hsz]; omega) (fun j hj => (OW.out.lt j hj).1)
        have y0 : w2.cell? ⟨w.heap.size + 1, 1, none⟩ = some (.slice ua un uc) := (hbb.cell (p := ⟨w.heap.size + 1, 1, none⟩) (Nat.lt_succ_self _)).trans x1
        have y1 : w2.frozen? ⟨w.heap.size + 1, 1, none⟩ = false := (hbb.frozen (p := ⟨w.heap.size + 1, 1, none⟩) (Nat.lt_succ_self _)).trans x2
        have O2 : Hid (w2.ownsRow (w.heap.size + 2) 67 3 (.slice (some ⟨g, 0, none⟩) (f.length + 1) gc) ((ws.take (k + 1)).map (wayE (1 + p))).length (((ws.take (k + 1)).map (wayE (1 + p))).flatMap encE)) := by
          show World.ownsRow _ _ _ _ _ _ _
          rw [HT.out]; exact hown2
        have B2 : Hid (Below (w.heap.size + 2) wr w2) := hbb
        clear hown2 hgr hsz hbb
        have O2' : Hid (w2.ownsRow (w.heap.size + 2) 67 3 (.slice (some ⟨g, 0, none⟩) (k + 1) gc) ((ws.take (k + 1)).map (wayE (1 + p))).length (((ws.take (k + 1)).map (wayE (1 + p))).flatMap encE)) := by have := O2.out; rwa [hlk] at this
        have HX2 : Hid (w2.heap[w.heap.size + 1]? = some (.cells #[.int .i64 (1 + p), .slice ua un uc] 24 (0, 0))) := (B2.out.block _ (Nat.lt_succ_self _)).trans HX.out
        have KEEP : Hid (∀ V : World, (∀ q, q < wr.heap.size → q < w.heap.size + 2 → V.heap[q]? = wr.heap[q]?) → V.cell? ⟨w.heap.size + 1, 1, none⟩ = some (.slice ua un uc) ∧ V.cell? ⟨w.heap.size + 1, 0, none⟩ = some (.int .i64 (1 + p)) ∧ V.cell? ⟨b, off + k * 3, none⟩ = some (.int .i64 x.1) ∧ V.cell? ⟨b, off + k * 3 + 1, none⟩ = some (.int .i64 x.2.1) ∧ V.cell? ⟨b, off + k * 3 + 2, none⟩ = some (.int .i64 x.2.2)) := fun V hV => by
          have cc : ∀ (q j : Nat) (u : Value), q < w.heap.size + 2 → wr.cell? ⟨q, j, none⟩ = some u → V.cell? ⟨q, j, none⟩ = some u := fun q j u hq hu => (World.cell?_of_block (a := ⟨q, j, none⟩) (hV q (World.block_lt_of_cell? wr _ hu) hq)).trans hu
          exact ⟨cc _ _ _ (by omega) x1, cc _ _ _ (by omega) x0, cc _ _ _ (by omega) c1, cc _ _ _ (by omega) c2, cc _ _ _ (by omega) c3⟩
        have HSD : Hid (wr.drew.cell? ⟨w.heap.size + 1, 1, none⟩ = some (.slice ua un uc) ∧ wr.drew.cell? ⟨w.heap.size + 1, 0, none⟩ = some (.int .i64 (1 + p)) ∧ wr.drew.cell? ⟨b, off + k * 3, none⟩ = some (.int .i64 x.1) ∧ wr.drew.cell? ⟨b, off + k * 3 + 1, none⟩ = some (.int .i64 x.2.1) ∧ wr.drew.cell? ⟨b, off + k * 3 + 2, none⟩ = some (.int .i64 x.2.2)) := KEEP.out _ (fun _ _ _ => rfl)
        have HSE : Hid ((wr.alloc (.cells #[.int .i64 (pickF x.1 (1 + p)), .int .i64 (pickF x.2.1 (1 + p)), .int .i64 (pickF x.2.2 10)] 67)).drew.cell? ⟨w.heap.size + 1, 1, none⟩ = some (.slice ua un uc) ∧ (wr.alloc (.cells #[.int .i64 (pickF x.1 (1 + p)), .int .i64 (pickF x.2.1 (1 + p)), .int .i64 (pickF x.2.2 10)] 67)).drew.cell? ⟨w.heap.size + 1, 0, none⟩ = some (.int .i64 (1 + p)) ∧ (wr.alloc (.cells #[.int .i64 (pickF x.1 (1 + p)), .int .i64 (pickF x.2.1 (1 + p)), .int .i64 (pickF x.2.2 10)] 67)).drew.cell? ⟨b, off + k * 3, none⟩ = some (.int .i64 x.1) ∧ (wr.alloc (.cells #[.int .i64 (pickF x.1 (1 + p)), .int .i64 (pickF x.2.1 (1 + p)), .int .i64 (pickF x.2.2 10)] 67)).drew.cell? ⟨b, off + k * 3 + 1, none⟩ = some (.int .i64 x.2.1) ∧ (wr.alloc (.cells #[.int .i64 (pickF x.1 (1 + p)), .int .i64 (pickF x.2.1 (1 + p)), .int .i64 (pickF x.2.2 10)] 67)).drew.cell? ⟨b, off + k * 3 + 2, none⟩ = some (.int .i64 x.2.2)) := KEEP.out _ (fun q hq _ => (below_alloc wr _).block q hq)
        have HSF : Hid (w2.cell? ⟨w.heap.size + 1, 1, none⟩ = some (.slice ua un uc) ∧ w2.cell? ⟨w.heap.size + 1, 0, none⟩ = some (.int .i64 (1 + p)) ∧ w2.cell? ⟨b, off + k * 3, none⟩ = some (.int .i64 x.1) ∧ w2.cell? ⟨b, off + k * 3 + 1, none⟩ = some (.int .i64 x.2.1) ∧ w2.cell? ⟨b, off + k * 3 + 2, none⟩ = some (.int .i64 x.2.2)) := KEEP.out _ (fun q _ hq => B2.out.block q hq)
        have epk : ∀ args w, (callFunc 18 args).run Try.prog w = .ok (.enter 18 args) w := enters_of Try.func18 (by kernel_rfl) rfl
        refine region_lastF (S := fun V => V.cell? ⟨w.heap.size + 1, 1, none⟩ = some (.slice ua un uc) ∧ V.cell? ⟨w.heap.size + 1, 0, none⟩ = some (.int .i64 (1 + p)) ∧ V.cell? ⟨b, off + k * 3, none⟩ = some (.int .i64 x.1) ∧ V.cell? ⟨b, off + k * 3 + 1, none⟩ = some (.int .i64 x.2.1) ∧ V.cell? ⟨b, off + k * 3 + 2, none⟩ = some (.int .i64 x.2.2)) (by kernel_rfl) (by kernel_rfl) (by kernel_rfl) (by kernel_rfl) ?_
        simp only [List.pop_toArray, List.dropLast_cons_cons, List.dropLast_singleton, List.size_toArray, List.length_cons, List.length_nil, Nat.reduceAdd]
        refine takeH (i := 0) (v := .pointer (some ⟨w.heap.size + 1, 1, none⟩)) (d := 24) rfl rfl (by kernel_rfl) (by kernel_rfl) (by kernel_rfl) (fun _ _ _ h => h) (by rfl) (fun V hV => by obtain ⟨v1, v2, v3, v4, v5⟩ := hV; go_simp) HSD.out ?_
        simp only [Act.put, List.setIfInBounds_toArray, List.set_cons_zero, List.set_cons_succ]
        refine takeH (i := 1) (v := .slice ua un uc) (d := 25) rfl rfl (by kernel_rfl) (by kernel_rfl) (by kernel_rfl) (fun _ _ _ h => h) (by rfl) (fun V hV => by obtain ⟨v1, v2, v3, v4, v5⟩ := hV; go_simp) HSD.out ?_
        simp only [Act.put, List.setIfInBounds_toArray, List.set_cons_zero, List.set_cons_succ]
        refine takeH (i := 2) (v := .slice (some ⟨b, off, none⟩) ws.length cap) (d := 26) rfl rfl (by kernel_rfl) (by kernel_rfl) (by kernel_rfl) (fun _ _ _ h => h) (by rfl) (fun V hV => by obtain ⟨v1, v2, v3, v4, v5⟩ := hV; go_simp) HSD.out ?_
        simp only [Act.put, List.setIfInBounds_toArray, List.set_cons_zero, List.set_cons_succ]
        refine takeH (i := 3) (v := .int .i64 (k : Int)) (d := 27) rfl rfl (by kernel_rfl) (by kernel_rfl) (by kernel_rfl) (fun _ _ _ h => h) (by rfl) (fun V hV => by obtain ⟨v1, v2, v3, v4, v5⟩ := hV; go_simp) HSD.out ?_
        simp only [Act.put, List.setIfInBounds_toArray, List.set_cons_zero, List.set_cons_succ]
        refine takeH (i := 4) (v := .pointer (some ⟨b, off + k * 3, none⟩)) (d := 28) rfl rfl (by kernel_rfl) (by kernel_rfl) (by kernel_rfl) (fun _ _ _ h => h) (by rfl) (fun V hV => by obtain ⟨v1, v2, v3, v4, v5⟩ := hV; go_simp) HSD.out ?_
        simp only [Act.put, List.setIfInBounds_toArray, List.set_cons_zero, List.set_cons_succ]
        refine takeH (i := 5) (v := .pointer (some ⟨b, off + k * 3, none⟩)) (d := 29) rfl rfl (by kernel_rfl) (by kernel_rfl) (by kernel_rfl) (fun _ _ _ h => h) (by rfl) (fun V hV => by obtain ⟨v1, v2, v3, v4, v5⟩ := hV; go_simp) HSD.out ?_
        simp only [Act.put, List.setIfInBounds_toArray, List.set_cons_zero, List.set_cons_succ]
        refine takeH (i := 6) (v := .int .i64 x.1) (d := 30) rfl rfl (by kernel_rfl) (by kernel_rfl) (by kernel_rfl) (fun _ _ _ h => h) (by rfl) (fun V hV => by obtain ⟨v1, v2, v3, v4, v5⟩ := hV; go_simp) HSD.out ?_
        simp only [Act.put, List.setIfInBounds_toArray, List.set_cons_zero, List.set_cons_succ]
        refine takeH (i := 7) (v := .pointer (some ⟨w.heap.size + 1, 0, none⟩)) (d := 31) rfl rfl (by kernel_rfl) (by kernel_rfl) (by kernel_rfl) (fun _ _ _ h => h) (by rfl) (fun V hV => by obtain ⟨v1, v2, v3, v4, v5⟩ := hV; go_simp) HSD.out ?_
        simp only [Act.put, List.setIfInBounds_toArray, List.set_cons_zero, List.set_cons_succ]
        refine takeH (i := 8) (v := .int .i64 (1 + p)) (d := 32) rfl rfl (by kernel_rfl) (by kernel_rfl) (by kernel_rfl) (fun _ _ _ h => h) (by rfl) (fun V hV => by obtain ⟨v1, v2, v3, v4, v5⟩ := hV; go_simp) HSD.out ?_
        simp only [Act.put, List.setIfInBounds_toArray, List.set_cons_zero, List.set_cons_succ]
        refine takeH (i := 10) (v := .slice (some ⟨b, off, none⟩) ws.length cap) (d := 34) rfl rfl (by kernel_rfl) (by kernel_rfl) (by kernel_rfl) (fun _ _ _ h => h) (by rfl) (fun V hV => by obtain ⟨v1, v2, v3, v4, v5⟩ := hV; go_simp) HSD.out ?_
        simp only [Act.put, List.setIfInBounds_toArray, List.set_cons_zero, List.set_cons_succ]
        refine takeH (i := 11) (v := .int .i64 (k : Int)) (d := 35) rfl rfl (by kernel_rfl) (by kernel_rfl) (by kernel_rfl) (fun _ _ _ h => h) (by rfl) (fun V hV => by obtain ⟨v1, v2, v3, v4, v5⟩ := hV; go_simp) HSD.out ?_
        simp only [Act.put, List.setIfInBounds_toArray, List.set_cons_zero, List.set_cons_succ]
        refine takeH (i := 12) (v := .pointer (some ⟨b, off + k * 3, none⟩)) (d := 36) rfl rfl (by kernel_rfl) (by kernel_rfl) (by kernel_rfl) (fun _ _ _ h => h) (by rfl) (fun V hV => by obtain ⟨v1, v2, v3, v4, v5⟩ := hV; go_simp) HSD.out ?_
        simp only [Act.put, List.setIfInBounds_toArray, List.set_cons_zero, List.set_cons_succ]
        refine takeH (i := 13) (v := .pointer (some ⟨b, off + k * 3 + 1, none⟩)) (d := 37) rfl rfl (by kernel_rfl) (by kernel_rfl) (by kernel_rfl) (fun _ _ _ h => h) (by rfl) (fun V hV => by obtain ⟨v1, v2, v3, v4, v5⟩ := hV; go_simp) HSD.out ?_
        simp only [Act.put, List.setIfInBounds_toArray, List.set_cons_zero, List.set_cons_succ]
        refine takeH (i := 14) (v := .int .i64 x.2.1) (d := 38) rfl rfl (by kernel_rfl) (by kernel_rfl) (by kernel_rfl) (fun _ _ _ h => h) (by rfl) (fun V hV => by obtain ⟨v1, v2, v3, v4, v5⟩ := hV; go_simp) HSD.out ?_
        simp only [Act.put, List.setIfInBounds_toArray, List.set_cons_zero, List.set_cons_succ]
        refine takeH (i := 15) (v := .pointer (some ⟨w.heap.size + 1, 0, none⟩)) (d := 39) rfl rfl (by kernel_rfl) (by kernel_rfl) (by kernel_rfl) (fun _ _ _ h => h) (by rfl) (fun V hV => by obtain ⟨v1, v2, v3, v4, v5⟩ := hV; go_simp) HSD.out ?_
        simp only [Act.put, List.setIfInBounds_toArray, List.set_cons_zero, List.set_cons_succ]
        refine takeH (i := 16) (v := .int .i64 (1 + p)) (d := 40) rfl rfl (by kernel_rfl) (by kernel_rfl) (by kernel_rfl) (fun _ _ _ h => h) (by rfl) (fun V hV => by obtain ⟨v1, v2, v3, v4, v5⟩ := hV; go_simp) HSD.out ?_
        simp only [Act.put, List.setIfInBounds_toArray, List.set_cons_zero, List.set_cons_succ]
        refine takeH (i := 18) (v := .slice (some ⟨b, off, none⟩) ws.length cap) (d := 42) rfl rfl (by kernel_rfl) (by kernel_rfl) (by kernel_rfl) (fun _ _ _ h => h) (by rfl) (fun V hV => by obtain ⟨v1, v2, v3, v4, v5⟩ := hV; go_simp) HSD.out ?_
        simp only [Act.put, List.setIfInBounds_toArray, List.set_cons_zero, List.set_cons_succ]
        refine takeH (i := 19) (v := .int .i64 (k : Int)) (d := 43) rfl rfl (by kernel_rfl) (by kernel_rfl) (by kernel_rfl) (fun _ _ _ h => h) (by rfl) (fun V hV => by obtain ⟨v1, v2, v3, v4, v5⟩ := hV; go_simp) HSD.out ?_
        simp only [Act.put, List.setIfInBounds_toArray, List.set_cons_zero, List.set_cons_succ]
        refine takeH (i := 20) (v := .pointer (some ⟨b, off + k * 3, none⟩)) (d := 44) rfl rfl (by kernel_rfl) (by kernel_rfl) (by kernel_rfl) (fun _ _ _ h => h) (by rfl) (fun V hV => by obtain ⟨v1, v2, v3, v4, v5⟩ := hV; go_simp) HSD.out ?_
        simp only [Act.put, List.setIfInBounds_toArray, List.set_cons_zero, List.set_cons_succ]
        refine takeH (i := 21) (v := .pointer (some ⟨b, off + k * 3 + 2, none⟩)) (d := 45) rfl rfl (by kernel_rfl) (by kernel_rfl) (by kernel_rfl) (fun _ _ _ h => h) (by rfl) (fun V hV => by obtain ⟨v1, v2, v3, v4, v5⟩ := hV; go_simp) HSD.out ?_
        simp only [Act.put, List.setIfInBounds_toArray, List.set_cons_zero, List.set_cons_succ]
        refine takeH (i := 22) (v := .int .i64 x.2.2) (d := 46) rfl rfl (by kernel_rfl) (by kernel_rfl) (by kernel_rfl) (fun _ _ _ h => h) (by rfl) (fun V hV => by obtain ⟨v1, v2, v3, v4, v5⟩ := hV; go_simp) HSD.out ?_
        simp only [Act.put, List.setIfInBounds_toArray, List.set_cons_zero, List.set_cons_succ]
        refine oneH (i := 9) rfl (by kernel_rfl) rfl (call_same (d := 33) (f := 18) (xs := #[.tmp 30, .tmp 32]) (ats := #[3, 3]) rfl rfl epk (vs := #[.int .i64 x.1, .int .i64 (1 + p)]) (by simp [Act.eval]) (picked_any _ _ _ (by omega) (by omega) (by omega) (by omega)) ⟨HSD.out, ?_⟩)
        simp only [Act.put, List.setIfInBounds_toArray, List.set_cons_zero, List.set_cons_succ]
        refine oneH (i := 17) rfl (by kernel_rfl) rfl (call_same (d := 41) (f := 18) (xs := #[.tmp 38, .tmp 40]) (ats := #[3, 3]) rfl rfl epk (vs := #[.int .i64 x.2.1, .int .i64 (1 + p)]) (by simp [Act.eval]) (picked_any _ _ _ (by omega) (by omega) (by omega) (by omega)) ⟨HSD.out, ?_⟩)
        simp only [Act.put, List.setIfInBounds_toArray, List.set_cons_zero, List.set_cons_succ]
        refine oneH (i := 23) rfl (by kernel_rfl) rfl (call_same (d := 47) (f := 18) (xs := #[.tmp 46, .const (.int .i64 10)]) (ats := #[3, 3]) rfl rfl epk (vs := #[.int .i64 x.2.2, .int .i64 10]) (by simp [Act.eval]) (picked_any _ _ _ (by omega) (by omega) (by omega) (by omega)) ⟨HSD.out, ?_⟩)
        simp only [Act.put, List.setIfInBounds_toArray, List.set_cons_zero, List.set_cons_succ]
        refine takeH (i := 24) (v := .agg #[.int .i64 (pickF x.1 (1 + p)), .int .i64 (pickF x.2.1 (1 + p)), .int .i64 (pickF x.2.2 10)]) (d := 48) rfl rfl (by kernel_rfl) (by kernel_rfl) (by kernel_rfl) (fun _ _ _ h => h) (by rfl) (fun V hV => by go_simp) HSD.out ?_
        simp only [Act.put, List.setIfInBounds_toArray, List.set_cons_zero, List.set_cons_succ]
        refine oneH (i := 25) rfl (by kernel_rfl) rfl (op_run (d := 49) (v' := .slice (some ⟨wr.heap.size, 0, none⟩) 1 1) (w' := (wr.alloc (.cells #[.int .i64 (pickF x.1 (1 + p)), .int .i64 (pickF x.2.1 (1 + p)), .int .i64 (pickF x.2.2 10)] 67)).drew) rfl (by go_simp) ⟨HSE.out, ?_⟩)
        simp only [Act.put, List.setIfInBounds_toArray, List.set_cons_zero, List.set_cons_succ]
        refine oneH (i := 26) rfl (by kernel_rfl) rfl (call_append (d := 50) (s := .tmp 25) (x := .tmp 49) (t := 22) rfl rfl (v := .slice ua un uc) (v2 := .slice (some ⟨wr.heap.size, 0, none⟩) 1 1) (by simp [Act.eval]) (by simp [Act.eval]) hrun ⟨HSF.out, ?_⟩)
        simp only [Act.put, List.setIfInBounds_toArray, List.set_cons_zero, List.set_cons_succ]
        refine takeH (i := 27) (v := .pointer (some ⟨w.heap.size + 1, 1, none⟩)) (d := 51) rfl rfl (by kernel_rfl) (by kernel_rfl) (by kernel_rfl) (fun _ _ _ h => h) (by rfl) (fun V hV => by go_simp) HSF.out ?_
        simp only [Act.put, List.setIfInBounds_toArray, List.set_cons_zero, List.set_cons_succ]
        refine wpAnyH_done (by kernel_rfl) ?_ _
        clear HSD HSE HSF
        show Oper.wp _ _ _ _ _ _
        go_wp2_with fail
        go_roundw
        case rel => exact ⟨k + 1, .slice (some ⟨g, 0, none⟩) (k + 1) gc, by omega, by omega, by go_num, RowK.setBelow O2'.out (show w.heap.size + 1 < w.heap.size + 2 by omega) _, heap_set1 HX2.out, (HB.out.trans (B2.out.mono (by omega))).setCell (Nat.le_refl _) _⟩
        case measure => simp [intOf]; omega
      · -- ten ways are had
        have O3 : Hid (wr.ownsRow (w.heap.size + 2) 67 3 (.slice ua un uc) (madeL (1 + p) ws).length ((madeL (1 + p) ws).flatMap encE)) := by
          have e : (ws.take k).map (wayE (1 + p)) = madeL (1 + p) ws := by
            unfold madeL
            congr 1
            rw [show k = 10 by omega]
          rw [← e]; exact OW.out
        obtain ⟨q0, q1⟩ := gbox_cells HB.out
        have q2 : wr.frozen? ⟨w.heap.size, 0, none⟩ = false := (HB.out.frozen (p := ⟨w.heap.size, 0, none⟩) (Nat.lt_succ_self _)).trans (by simp only [World.frozen?, heap_alloc_new]; simp)
        have q3 : wr.frozen? ⟨w.heap.size, 1, none⟩ = false := (HB.out.frozen (p := ⟨w.heap.size, 1, none⟩) (Nat.lt_succ_self _)).trans (by simp only [World.frozen?, heap_alloc_new]; simp)
        clear OW
        go_wp2_with fail
        obtain ⟨r0, r1⟩ := gput_cells (n := 1 + p) (v := .slice ua un uc) q0 q1
        refine bodyPost_ret (v := .agg #[.int .i64 (1 + p), .slice ua un uc]) (by simp [results, Try.results17, go_sem, r0, r1]) rfl ⟨_, rfl, ?_, ?_⟩
        · exact own_lower (RowK.setBelow (RowK.setBelow O3.out (show w.heap.size < w.heap.size + 2 by omega) _) (show w.heap.size < w.heap.size + 2 by omega) _) (by omega)
        · exact ((box_below HB.out).setCell (Nat.le_refl _) _).setCell (Nat.le_refl _) _
    · have O3 : Hid (wr.ownsRow (w.heap.size + 2) 67 3 (.slice ua un uc) (madeL (1 + p) ws).length ((madeL (1 + p) ws).flatMap encE)) := by
        have e : (ws.take k).map (wayE (1 + p)) = madeL (1 + p) ws := by
          unfold madeL
          congr 1
          rw [List.take_of_length_le (by omega), List.take_of_length_le (by omega)]
        rw [← e]; exact OW.out
      obtain ⟨q0, q1⟩ := gbox_cells HB.out
      have q2 : wr.frozen? ⟨w.heap.size, 0, none⟩ = false := (HB.out.frozen (p := ⟨w.heap.size, 0, none⟩) (Nat.lt_succ_self _)).trans (by simp only [World.frozen?, heap_alloc_new]; simp)
      have q3 : wr.frozen? ⟨w.heap.size, 1, none⟩ = false := (HB.out.frozen (p := ⟨w.heap.size, 1, none⟩) (Nat.lt_succ_self _)).trans (by simp only [World.frozen?, heap_alloc_new]; simp)
      clear OW
      go_wp2_with fail
      obtain ⟨r0, r1⟩ := gput_cells (n := 1 + p) (v := .slice ua un uc) q0 q1
      refine bodyPost_ret (v := .agg #[.int .i64 (1 + p), .slice ua un uc]) (by simp [results, Try.results17, go_sem, r0, r1]) rfl ⟨_, rfl, ?_, ?_⟩
      · exact own_lower (RowK.setBelow (RowK.setBelow O3.out (show w.heap.size < w.heap.size + 2 by omega) _) (show w.heap.size < w.heap.size + 2 by omega) _) (by omega)
      · exact ((box_below HB.out).setCell (Nat.le_refl _) _).setCell (Nat.le_refl _) _
end Go.Proofs.Ytacpicnihgggaaa

namespace Go.Proofs.Ytacpicnihgggaaa
set_option maxRecDepth 100000

theorem made_len (N : Int) (ws : List Ed) : (madeL N ws).length ≤ 10 := by simp [madeL]; omega
theorem made_right {N : Int} {ws : List Ed} (h0 : 0 < N) (h1 : N ≤ 200) : faultE N (madeL N ws) = 0 := by
  refine ok_fault (by omega) h1 (by have := made_len N ws; omega) fun e he => ?_
  unfold madeL at he
  obtain ⟨x, _, rfl⟩ := List.mem_map.1 he
  have a := pickF_bd x.1 N h0
  have b := pickF_bd x.2.1 N h0
  have c := pickF_bd x.2.2 10 (by omega)
  refine out_of_in a b ?_
  show 0 ≤ pickF x.2.2 10 ∧ pickF x.2.2 10 ≤ 1099511627776
  omega
theorem turn_right {N : Int} {es : List Ed} (h : faultE N es = 0) : faultE N (sortE (es.map turnE)) = 0 := by
  obtain ⟨h0, h1, h2, h3⟩ := fault_ok h
  refine ok_fault h0 h1 (by rw [sortE_len, List.length_map]; exact h2) fun e he => ?_
  have he2 := (sortE_perm _).mem_iff.1 he
  obtain ⟨x, hx, rfl⟩ := List.mem_map.1 he2
  obtain ⟨a, b, c, d, e, f⟩ := in_of_out (h3 x hx)
  exact out_of_in ⟨c, d⟩ ⟨a, b⟩ ⟨e, f⟩
theorem turn_turn (es : List Ed) : sortE ((sortE (es.map turnE)).map turnE) = sortE es := by
  refine sort_congr ?_
  have h1 := (sortE_perm (es.map turnE)).map turnE
  rw [List.map_map] at h1
  have e : turnE ∘ turnE = id := rfl
  rw [e, List.map_id] at h1
  exact h1
end Go.Proofs.Ytacpicnihgggaaa

namespace Go.Proofs.Ytacpicnihgggaaa
set_option maxRecDepth 100000
open Go.ChangeShapes Go.WideShapes Go.ChangeAt Go.RowKit

theorem pick_in (n m : Int) (h : 0 < m) : 0 ≤ pickF n m ∧ pickF n m < m := by have := pickF_bd n m h; omega
/-- The graph that made makes is small. -/
theorem keep_small {n x : Int} {W : Int} {ws : List Ed} (h0 : 0 ≤ W) (h1 : W < 1 + pickF x 4) : Small W (1 + pickF x 4) (1 + pickF n 8) (madeL (1 + pickF n 8) ws) := by
  have p1 := pick_in n 8 (by decide)
  have p2 := pick_in x 4 (by decide)
  exact ⟨made_right (by omega) (by omega), errO_ok (by omega) (by omega), made_len _ _, by omega⟩
/-- Build, where the graph is small. -/
theorem build_small {W K N : Int} {E : List Ed} (h : Small W K N E) (v : Value) (X : World) (hX : EdR X v E) :
    Calls Try.prog 9 #[.agg #[.int .i64 N, v], .int .i64 W, .int .i64 K] X fun e w' => ∃ v', e = .returned (.tuple #[v', .int .i64 0]) ∧ w'.ownsRow X.heap.size 5 1 v' (wrap (payB W K N E)).length ((wrap (payB W K N E)).map (Value.int .u8)) ∧ Below X.heap.size X w' := by
  have := build_any v E N W K X hX
  rw [h.build] at this
  exact this
/-- Open of what was built. -/
theorem open_small {W K N : Int} {E : List Ed} (h : Small W K N E) (v : Value) (X : World) (hX : Reads .u8 X v (wrap (payB W K N E))) :
    Calls Try.prog 14 #[v] X fun e w' => ∃ vo vi, e = .returned (.tuple #[.agg #[.int .i64 W, .int .i64 K, .int .i64 N, vo, vi], .int .i64 0]) ∧ LsR w' vo ((mineL W.toNat N.toNat K.toNat).map (hopsL (sortE E))) ∧ LsR w' vi ((mineL W.toNat N.toNat K.toNat).map (hopsL (sortE (E.map turnE)))) ∧ Below X.heap.size X w' := by
  refine (storeOpen_any v _ X hX (wrap_bytes (payB_bytes h.right h.mine) h.pay)).mono ?_
  rintro e w' ⟨pv, he, hp, hb⟩
  rw [h.opened] at he hp
  obtain ⟨vo, vi, rfl, ho, hi⟩ := hp
  exact ⟨vo, vi, he, ho, hi, hb⟩
end Go.Proofs.Ytacpicnihgggaaa

namespace Go.Proofs.Ytacpicnihgggaaa
set_option maxRecDepth 100000
open Go.ChangeShapes Go.WideShapes Go.ChangeAt Go.RowKit

set_option maxHeartbeats 2000000 in
set_option maxRecDepth 100000 in
theorem hops_any (v : Value) (es : List Ed) (n z : Int) (w : World) (h : EdR w v es) :
    Calls Try.prog 21 #[.agg #[.int .i64 n, v], .int .i64 z] w fun e w' => ∃ v', e = .returned (.tuple #[v', .int .i64 (errH n es z)]) ∧
      w'.ownsRow w.heap.size 87 2 v' (okL (errH n es z) (hopsL (sortE es) z)).length ((okL (errH n es z) (hopsL (sortE es) z)).flatMap encH) ∧ Below w.heap.size w w' := by
  have HR : Hid (EdR w v es) := h
  obtain ⟨a, cap, rfl⟩ := h.shape
  clear h
  have HCK : Hid (∀ X, EdR X (.slice a es.length cap) es → Calls Try.prog 24 #[.agg #[.int .i64 n, .slice a es.length cap]] X fun e w' => ∃ v', e = .returned (.tuple #[.agg #[.int .i64 (okN (faultE n es) n), v'], .int .i64 (faultE n es)]) ∧
      w'.ownsRow X.heap.size 67 3 v' (okL (faultE n es) (sortE es)).length ((okL (faultE n es) (sortE es)).flatMap encE) ∧ Below X.heap.size X w') := fun X hX => sorted_any _ es n X hX
  by_cases hf : faultE n es = 0
  · have hle : es.length ≤ 600 := (fault_ok hf).2.2.1
    have HE0 : Hid (insB n z = false → errH n es z = 2) := fun hi => errH_out hf hi
    have HE1 : Hid (insB n z = true → errH n es z = 0) := fun hi => errH_ok hf hi
    rw [hf, okN_yes, okL_yes] at HCK
    clear hf
    cases hi : insB n z
    · rw [HE0.out hi, okL_no (by decide)]
      clear HE0 HE1
      go_enter Try.func21, Try.ntmps21
      go_wp2_with fail
      refine (HCK.out _ ?_).mono ?_
      · exact HR.out.below (below_alloc w _) (Nat.le_refl _)
      rintro e w1 ⟨sv, rfl, hown, hb1⟩
      have B1 : Hid (Below (w.heap.size + 1) (w.alloc (.cells #[.int .i64 n, .slice a es.length cap] 24)) w1) := by
        show Below _ _ _
        simpa using hb1
      obtain ⟨sa, sn, sc, rfl⟩ : ∃ a n c, sv = .slice a n c := by obtain ⟨a, c, e, _⟩ := RowK.own encE_len hown; exact ⟨_, _, _, e⟩
      have hs1 : w.heap.size + 1 ≤ w1.heap.size := by have := B1.out.size; simpa using this
      obtain ⟨k0, k1⟩ := gbox_cells B1.out
      have m0 : ∀ X, (w1.alloc X).cell? ⟨w.heap.size, 0, none⟩ = some (.int .i64 n) := fun X => ((below_alloc w1 X).cell (p := ⟨w.heap.size, 0, none⟩) (show w.heap.size < w1.heap.size by omega)).trans k0
      clear hb1 hown HCK
      go_wp2_with fail
      refine (insideOf_any n _).mono ?_
      rintro e w2 ⟨rfl, rfl⟩
      unfold insF
      go_wp2_with fail
      refine (inside_any n z _ _ ?_).mono ?_
      · exact cell_second _ _ _ _
      rw [hi]
      rintro e w3 ⟨rfl, rfl⟩
      go_wp2_with fail
      go_ret2
      exact ⟨_, rfl, World.ownsRow_nil _ _ _ _, ((box_below B1.out).alloc (by omega) _).alloc (by simp; omega) _⟩
    · rw [HE1.out hi, okL_yes]
      clear HE0 HE1
      have hsl : (sortE es).length ≤ 600 := by rw [sortE_len]; exact hle
      generalize sortE es = s at *
      go_enter Try.func21, Try.ntmps21
      go_wp2_with fail
      refine (HCK.out _ ?_).mono ?_
      · exact HR.out.below (below_alloc w _) (Nat.le_refl _)
      rintro e w1 ⟨sv, rfl, hown, hb1⟩
      have B1 : Hid (Below (w.heap.size + 1) (w.alloc (.cells #[.int .i64 n, .slice a es.length cap] 24)) w1) := by
        show Below _ _ _
        simpa using hb1
      have SR : Hid (EdR w1 sv s) := RowK.own encE_len hown
      have hs1 : w.heap.size + 1 ≤ w1.heap.size := by have := B1.out.size; simpa using this
      obtain ⟨k0, k1⟩ := gbox_cells B1.out
      obtain ⟨sa, sc, rfl⟩ := SR.out.shape
      have m0 : ∀ X, (w1.alloc X).cell? ⟨w.heap.size, 0, none⟩ = some (.int .i64 n) := fun X => ((below_alloc w1 X).cell (p := ⟨w.heap.size, 0, none⟩) (show w.heap.size < w1.heap.size by omega)).trans k0
      clear hb1 hown HCK
      go_wp2_with fail
      refine (insideOf_any n _).mono ?_
      rintro e w2 ⟨rfl, rfl⟩
      unfold insF
      go_wp2_with fail
      refine (inside_any n z _ _ ?_).mono ?_
      · exact cell_second _ _ _ _
      rw [hi]
      rintro e w3 ⟨rfl, rfl⟩
      have SB : ∀ X Y, ((w1.alloc (.cells #[.int .i64 n, .slice sa s.length sc] X)).alloc Y).cell? ⟨w1.heap.size, 1, none⟩ = some (.slice sa s.length sc) := fun X Y => ((below_alloc _ Y).cell (p := ⟨w1.heap.size, 1, none⟩) (by simp)).trans (by simp)
      have W3 : Hid (EdR ((w1.alloc (.cells #[.int .i64 n, .slice sa s.length sc] 24)).alloc (.cells #[.int .i64 n] 3)) (.slice sa s.length sc) s ∧ Below w.heap.size w ((w1.alloc (.cells #[.int .i64 n, .slice sa s.length sc] 24)).alloc (.cells #[.int .i64 n] 3))) := ⟨(SR.out.below (below_alloc _ _) (Nat.le_refl _)).below (below_alloc _ _) (Nat.le_refl _), ((box_below B1.out).alloc (by omega) _).alloc (by simp; omega) _⟩
      go_wp2_with fail
      clear SB m0 k0 k1
      generalize (w1.alloc (.cells #[.int .i64 n, .slice sa s.length sc] 24)).alloc (.cells #[.int .i64 n] 3) = wl at *
      have HL : Hid (EdR wl (.slice sa s.length sc) s) := W3.out.1
      have BL : Hid (Below w.heap.size w wl) := W3.out.2
      have hwl := BL.out.size
      have hcap : sc ≤ maxLen := by obtain ⟨_, _, e, _, h, _⟩ := HL.out; injection e with _ _ e3; rw [e3]; exact h
      unfold maxLen at hcap
      clear W3 SR
      go_loopw [9, 30] (fun u i wr => ∃ k : Nat, k ≤ s.length ∧ i = .int .i64 k ∧ wr.ownsRow wl.heap.size 87 2 u (hopsL (s.take k) z).length ((hopsL (s.take k) z).flatMap encH) ∧ Below wl.heap.size wl wr) (fun _ i _ => s.length - (intOf i).toNat)
      case atStart => exact ⟨0, by omega, rfl, World.ownsRow_nil _ _ _ _, Below.refl _ _⟩
      case round =>
        obtain ⟨k, hk, rfl, hown, hbel⟩ := hrel
        have OW : Hid (wr.ownsRow wl.heap.size 87 2 u9 (hopsL (s.take k) z).length ((hopsL (s.take k) z).flatMap encH)) := hown
        have HB : Hid (Below wl.heap.size wl wr) := hbel
        have hsr := hbel.size
        clear hown hbel
        by_cases hlt : k < s.length
        · obtain ⟨b, off, cap', e1, _, _, lt, hv⟩ := EdR.at (HL.out.below HB.out (Nat.le_refl _)) (by omega)
          injection e1 with e1 _ e3
          subst e1 e3
          obtain ⟨x, hx⟩ := getE hlt
          obtain ⟨c1, c2, c3⟩ := hv k x hx
          have hlen : (hopsL (s.take k) z).length ≤ 600 := by have := hops_len (s.take k) z; simp at this; omega
          have hx1 := fun i => cell_of_row (wr.alloc (.cells #[.int .i64 x.1, .int .i64 x.2.1, .int .i64 x.2.2] 67)) wr.heap.size i _ _ _ (heap_alloc_new wr _)
          cases hxz : (x.1 == z)
          · have HN : Hid (hopsL (s.take (k + 1)) z = hopsL (s.take k) z) := hops_no hx hxz
            clear hv hx hx1
            go_wp2_with fail
            go_roundw
            case rel => exact ⟨k + 1, by omega, by go_num, by rw [HN.out]; exact OW.out.alloc _, HB.out.alloc hsr _⟩
            case measure => simp [intOf]; omega
          · have HN : Hid (hopsL (s.take (k + 1)) z = hopsL (s.take k) z ++ [(x.2.1, x.2.2)]) := hops_yes hx hxz
            clear hv hx hx1
            generalize hopsL (s.take k) z = f at *
            go_wp2_with (at_builtin; refine wpList_append_newK kH rfl _ _ rfl wl.heap.size _ f rfl ((OW.out.alloc _).alloc _) (wr.heap.size + 1) (x.2.1, x.2.2) rfl #[.int .i64 x.2.1, .int .i64 x.2.2] rfl (0, 0) (heap_second _ _ _ _) (by simp [kH]; omega) (by unfold maxLen; omega) (by simp; omega) ?_)
            intro g c w3 hown3 hb3 _
            have O3 : Hid (w3.ownsRow wl.heap.size 87 2 (.slice (some ⟨g, 0, none⟩) (f.length + 1) c) (hopsL (s.take (k + 1)) z).length ((hopsL (s.take (k + 1)) z).flatMap encH)) := by
              show World.ownsRow _ _ _ _ _ _ _
              rw [HN.out, flat_snoc, List.length_append]; exact hown3
            have B3 : Hid (Below wl.heap.size wl w3) := ((HB.out.alloc hsr _).alloc (by simp; omega) _).trans hb3
            clear hown3 hb3
            go_wp2_with fail
            go_roundw
            case rel => exact ⟨k + 1, by omega, by go_num, O3.out, B3.out⟩
            case measure => simp [intOf]; omega
        · have ek : s.take k = s := List.take_of_length_le (by omega)
          have O2 : Hid (wr.ownsRow wl.heap.size 87 2 u9 (hopsL s z).length ((hopsL s z).flatMap encH)) := by have := OW.out; rwa [ek] at this
          clear ek OW
          go_wp2_with fail
          go_ret2
          exact ⟨_, rfl, own_lower O2.out hwl, BL.out.trans (HB.out.mono hwl)⟩
  · have hne : (faultE n es != 0) = true := by simpa using hf
    rw [errH_fault hf, okL_no hf]
    rw [okN_no hf, okL_no hf] at HCK
    generalize faultE n es = fe at *
    clear hf
    go_enter Try.func21, Try.ntmps21
    go_wp2_with fail
    refine (HCK.out _ ?_).mono ?_
    · exact HR.out.below (below_alloc w _) (Nat.le_refl _)
    rintro e w1 ⟨sv, rfl, hown, hb1⟩
    have B1 : Hid (Below (w.heap.size + 1) (w.alloc (.cells #[.int .i64 n, .slice a es.length cap] 24)) w1) := by
      show Below _ _ _
      simpa using hb1
    obtain ⟨sa, sn, sc, rfl⟩ : ∃ a n c, sv = .slice a n c := by obtain ⟨a, c, e, _⟩ := RowK.own encE_len hown; exact ⟨_, _, _, e⟩
    have hs1 : w.heap.size + 1 ≤ w1.heap.size := by have := B1.out.size; simpa using this
    clear hb1 hown HCK
    go_wp2_with fail
    go_ret2
    exact ⟨_, rfl, World.ownsRow_nil _ _ _ _, (box_below B1.out).alloc (by omega) _⟩
end Go.Proofs.Ytacpicnihgggaaa
