/-
  Contract of slices.SortFunc with merge's compare, on a row of mail of the call's own; merge.Sort.
  Contract of pacelineref.Packed: it returns the bytes of P1.1 in memory of its own; nothing else is written.
  Contract of pacelineref.GapsOf: it returns the bytes and the error that P1.5 names; nothing that was there is written.
  Contracts of queue.pack and the document's own RunBytes: the bytes of a run.
  Contract of queue.Push.
-/
import Derived.Test.YtihghhmhgakkaaaMailCmp
import Derived.Test.YtihghhmhgakkaaaQueuePushesPartA
import Derived.Test.YtihghhmhgakkaaaMailRes
import Derived.Shelf.SlSortCmp.QuietGrown
import Derived.Test.YtihghhmhgakkaaaPutWalk
import Derived.Test.YtihghhmhgakkaaaGapsWalk
import Derived.Test.YtihghhmhgakkaaaRowCore
import Derived.Laws.AppendOwnNone
import Derived.Test.YtihghhmhgakkaaaQueueMath
import Derived.Shelf.Abstract
import Derived.Deep.CutRange
import Derived.Deep.QuietTactic
import Derived.BigQuiet
import Derived.Lib.QuietBelow

namespace Go.Proofs.Ytihghhmhgakkaaa
set_option maxRecDepth 100000
open Go.ChangeShapes Go.WideShapes Go.ChangeAt Go.RowKit Go.Sort

theorem ltOf_cmpM (x y : Ml) : ltOf cmpM x y = ltMb x y := cmpM_lt x y
theorem swoM : SWO (ltOf cmpM) where
  irrefl x := by rw [ltOf_cmpM, ltMb_false]; unfold ltM; omega
  trans x y z h1 h2 := by
    rw [ltOf_cmpM, ltMb_true] at *
    unfold ltM at *; omega
  ntrans x y z h1 h2 := by
    rw [ltOf_cmpM, ltMb_false] at *
    unfold ltM at *; omega
theorem totM (x y : Ml) (h1 : ltOf cmpM x y = false) (h2 : ltOf cmpM y x = false) : x = y := by
  rw [ltOf_cmpM, ltMb_false] at h1 h2
  unfold ltM at h1 h2
  have e1 : x.1 = y.1 := by omega
  have e2 : x.2 = y.2 := by omega
  exact Prod.ext e1 e2
theorem sortM_of (es : List Ml) : (es.mergeSort fun x y => !ltOf cmpM y x) = sortM es := by
  unfold sortM
  congr 1
  funext x y
  rw [ltOf_cmpM]
  rfl
/-- A world behind W: blocks are laid, nothing is turned; the boxes of the two pieces of mail. -/
def CmpG (W V : World) (a0 a1 b0 b1 : Int) : Prop :=
  V.cell? ⟨W.heap.size, 0, none⟩ = some (.int .i64 a0) ∧ V.cell? ⟨W.heap.size + 1, 0, none⟩ = some (.int .i64 b0) ∧ V.cell? ⟨W.heap.size, 1, none⟩ = some (.int .i64 a1) ∧ V.cell? ⟨W.heap.size + 1, 1, none⟩ = some (.int .i64 b1) ∧ ∃ q os', V = grow (W.drewN q) os'
theorem cmpG_start (W : World) (a0 a1 b0 b1 : Int) : CmpG W ((W.alloc (.cells #[.int .i64 a0, .int .i64 a1] 27)).alloc (.cells #[.int .i64 b0, .int .i64 b1] 27)).drew a0 a1 b0 b1 := by
  refine ⟨by simp, by simp, by simp, by simp, 1, #[.cells #[.int .i64 a0, .int .i64 a1] 27, .cells #[.int .i64 b0, .int .i64 b1] 27], ?_⟩
  rw [alloc_eq_grow, alloc_eq_grow, grow_grow]; rfl
theorem cmpG_alloc {W V : World} {a0 a1 b0 b1 : Int} (h : CmpG W V a0 a1 b0 b1) (o : Obj) : CmpG W (V.alloc o) a0 a1 b0 b1 := by
  obtain ⟨h1, h2, h3, h4, q, os, h7⟩ := h
  have c : ∀ {p : Addr} {v : Value}, V.cell? p = some v → (V.alloc o).cell? p = some v := fun {p v} hp => ((below_alloc V o).cell (p := p) (World.block_lt_of_cell? V p hp)).trans hp
  exact ⟨c h1, c h2, c h3, c h4, q, os ++ #[o], by rw [alloc_eq_grow, h7, grow_grow]⟩

set_option maxHeartbeats 2000000 in
set_option maxRecDepth 100000 in
/-- merge's compare: in whatever world; blocks are laid, nothing is turned. -/
theorem mailCmp_grow (x y : Ml) (W : World) : Calls Try.prog 51 #[.agg #[.int .i64 x.1, .int .i64 x.2], .agg #[.int .i64 y.1, .int .i64 y.2]] W fun e w' => e = .returned (.int .i64 (cmpM x y)) ∧ ∃ q os', w' = grow (W.drewN q) os' := by
  unfold cmpM
  obtain ⟨a0, a1⟩ := x
  obtain ⟨b0, b1⟩ := y
  simp only
  have HS0 : Hid (CmpG W _ a0 a1 b0 b1) := cmpG_start W a0 a1 b0 b1
  generalize hor : or2 (cmpI a0 b0) (cmpI a1 b1) = rr
  have c3 : Hid (∀ (q : Nat) (V : World), V.heap[q]? = some (.cells #[.int .i64 (cmpI a0 b0), .int .i64 (cmpI a1 b1)] 3 (0, 0)) → Calls Try.prog 66 #[.slice (some ⟨q, 0, none⟩) 2 2] V fun e w' => e = .returned (.int .i64 rr) ∧ w' = V) := fun q V h => by rw [← hor]; exact cmpOr2_any _ _ q V (by rw [cell_of_row _ _ _ _ _ _ h]; rfl) (by rw [cell_of_row _ _ _ _ _ _ h]; rfl)
  clear hor
  go_enter Try.func51, Try.ntmps51
  go_wp2_with fail
  go_region_held3 (fun V => V.cell? ⟨W.heap.size, 0, none⟩ = some (.int .i64 a0) ∧ V.cell? ⟨W.heap.size + 1, 0, none⟩ = some (.int .i64 b0) ∧ V.cell? ⟨W.heap.size, 1, none⟩ = some (.int .i64 a1) ∧ V.cell? ⟨W.heap.size + 1, 1, none⟩ = some (.int .i64 b1) ∧ ∃ q os', V = grow (W.drewN q) os') (first | exact HS0.out | assumption | exact cmpG_alloc (by assumption) _) (first | (go_at_call 67; refine (cmpInt_any _ _ _).mono ?_; rintro e w1 ⟨rfl, rfl⟩) | (go_at_call 66; refine (c3.out _ _ (heap_third' _ _ _ _ _)).mono ?_; rintro e w1 ⟨rfl, rfl⟩))
  all_goals (rename_i hh; clear hh)
  go_wp2_with fail
  go_ret
  exact ⟨rfl, 1, _, by rw [alloc_eq_grow, alloc_eq_grow, alloc_eq_grow, grow_grow, grow_grow]; rfl⟩
theorem cmpLaysM (blk off size : Nat) (w : World) : CmpLays Try.prog 51 #[] encM 2 cmpM blk off size w := fun _ _ _ _ x y => mailCmp_grow x y _

theorem flatM_get (d : List Ml) (t : Nat) (h : t < d.length * 2) : (d.flatMap encM)[t]? = some (flatK encM 2 d.toArray)[t]! := by
  have h1 : t / 2 < d.length := by omega
  have h2 : t % 2 < 2 := by omega
  have hx : d[t / 2]? = some d[t / 2] := List.getElem?_eq_getElem h1
  have hm2 : t % 2 < (encM d[t / 2]).length := h2
  have hu : (encM d[t / 2])[t % 2]? = some (encM d[t / 2])[t % 2] := List.getElem?_eq_getElem hm2
  have := flat_at encM_len hx hu
  rw [show t / 2 * 2 + t % 2 = t by omega] at this
  rw [this, get_flatK _ _ _ _ (by simpa using h)]
  congr 1
  have e1 : d.toArray[t / 2]! = d[t / 2] := by rw [getElem!_pos _ _ (by simpa using h1)]; simp
  rw [e1]
  exact (getElem!_pos (encM d[t / 2]) (t % 2) hm2).symm

/-- An owned row of edges, in the sort's words. -/
theorem holdsM_own {w : World} {base g n cap : Nat} {d : List Ml} (h : w.ownsRow base 27 2 (.slice (some ⟨g, 0, none⟩) n cap) d.length (d.flatMap encM)) : HoldsK encM 2 w g 0 d.toArray := by
  intro j hj
  rw [size_flatK] at hj
  have hj' : j < d.length * 2 := by simpa using hj
  rcases own_shapeK h with ⟨hv, _⟩ | ⟨g', cap', hv, _, _, _, _, hc⟩
  · cases hv
  · injection hv with h1 h2 h3
    injection h1 with h1
    injection h1 with h1
    subst h1 h2 h3
    refine ⟨?_, frozenK h _⟩
    have := hc j _ (flatM_get d j hj')
    rw [Nat.zero_add]; exact this
/-- .. and back, behind the sort. -/
theorem ownM_sorted {w : World} {base g n cap m : Nat} {d d' : List Ml} {os : Array Obj} (h : w.ownsRow base 27 2 (.slice (some ⟨g, 0, none⟩) n cap) d.length (d.flatMap encM)) (hl : d'.length = d.length) :
    (sortWorldK encM 2 w g 0 m d'.toArray os).ownsRow base 27 2 (.slice (some ⟨g, 0, none⟩) n cap) d'.length (d'.flatMap encM) ∧ Below base w (sortWorldK encM 2 w g 0 m d'.toArray os) := by
  rcases h.2 with ⟨hv, _⟩ | ⟨g', cap', cur, hv, hg, hgg, hc, hm, hcur, htk⟩
  · cases hv
  · injection hv with h1 h2 h3
    injection h1 with h1
    injection h1 with h1
    subst h1 h2 h3
    have lt : g < w.heap.size := (Array.getElem?_eq_some_iff.1 hgg).1
    have hblk : (sortWorldK encM 2 w g 0 m d'.toArray os).heap[g]? = some (.cells (putCells id 0 (flatK encM 2 d'.toArray) cur) 27 (0, 0)) := by
      simp only [sortWorldK, grow, putRowK, putRow, mapBlock, Sort.ahead]
      rw [Array.getElem?_append_left (by simpa using lt), Array.getElem?_modify, if_pos rfl, hgg]
      rfl
    refine ⟨⟨flat_len encM_len d', .inr ⟨g, cap, _, by rw [hl], hg, hblk, by rw [hl]; exact hc, hm, by simp [putCells, hcur], ?_⟩⟩, ?_⟩
    · refine List.ext_getElem? fun t => ?_
      rcases Nat.lt_or_ge t (d'.length * 2) with ht | ht
      · rw [List.getElem?_take_of_lt ht, flatM_get d' t ht, Array.getElem?_toList]
        simp only [putCells, Array.getElem?_mapIdx]
        have hc2 : t < cur.size := by rw [hcur]; rw [hl] at ht; omega
        rw [Array.getElem?_eq_getElem hc2, Option.map_some, if_pos ⟨by omega, by rw [size_flatK]; simpa using ht⟩]
        rfl
      · rw [List.getElem?_eq_none (by rw [List.length_take]; omega), List.getElem?_eq_none (by rw [flat_len encM_len d']; omega)]
    · refine ⟨rfl, rfl, rfl, ?_, fun k hk => ?_⟩
      · simp [sortWorldK, grow, putRowK, putRow, mapBlock, Sort.ahead]
      · have hk2 : k < w.heap.size := by omega
        simp only [sortWorldK, grow, putRowK, putRow, mapBlock, Sort.ahead]
        rw [Array.getElem?_append_left (by simpa using hk2), Array.getElem?_modify, if_neg (by omega)]

/-- slices.SortFunc with compare. -/
theorem sortM_any (base : Nat) (v : Value) (es : List Ml) (w : World) (h : w.ownsRow base 27 2 v es.length (es.flatMap encM)) (hl : es.length < 4611686018427387904) :
    Calls Try.prog 50 #[v, .func (.func 51) #[] #[]] w fun e w' => e = .returned (.tuple #[]) ∧ w'.ownsRow base 27 2 v (sortM es).length ((sortM es).flatMap encM) ∧ Below base w w' := by
  rcases own_shapeK h with ⟨rfl, h0, _⟩ | ⟨g, cap, rfl, hg, lt, hc, hm, _⟩
  · have : es = [] := List.eq_nil_of_length_eq_zero h0
    subst this
    have hcon := AnyF.slices_SortFunc_none Try.sortM none 0 (.func (.func 51) #[] #[]) w
    change Calls Try.prog 50 _ _ _ at hcon
    refine hcon.mono ?_
    rintro e w' ⟨rfl, rfl⟩
    exact ⟨rfl, by simpa [sortM] using h, Below.refl _ _⟩
  · have eg : ∀ args w, (callFunc 51 args).run Try.prog w = .ok (.enter 51 args) w := Go.Proofs.enters_of Try.func51 (by kernel_rfl) rfl
    have hcon := AnyQ.slices_SortFunc_total Try.sortM 2 Try.isAgg27 Try.sizeOf27 encM encM_len (fun x u hu => encM_one x u hu) cmpM swoM 51 #[] g 0 cap es.toArray w eg (cmpLaysM _ _ _ _) (holdsM_own h) lt (by simpa using hl) totM
    change Calls Try.prog 50 _ _ _ at hcon
    rw [show es.toArray.size = es.length by simp] at hcon
    rw [sortM_of] at hcon
    refine hcon.mono ?_
    rintro e w' ⟨rfl, m, os, rfl⟩
    have := ownM_sorted (m := m) (os := os) h (sortM_len es)
    exact ⟨rfl, this.1, this.2⟩

/-- What merge.Sort answers, and the document's. -/
def SrtP (w : World) (es : List Ml) (e : Ending) (w' : World) : Prop := ∃ v', e = .returned (.tuple #[v', .int .i64 (errS es.length)]) ∧ w'.ownsRow w.heap.size 27 2 v' (okL (errS es.length) (sortM es)).length ((okL (errS es.length) (sortM es)).flatMap encM) ∧ Below w.heap.size w w'
set_option maxHeartbeats 1000000 in
theorem mergeSort_any (v : Value) (es : List Ml) (w : World) (h : MlR w v es) : Calls Try.prog 36 #[v] w (SrtP w es) := by
  have HR : Hid (MlR w v es) := h
  obtain ⟨a, cap, rfl, hc, hm, _, _⟩ := h
  unfold maxLen at hm
  by_cases hn : es.length > 5000
  · have e1 : errS es.length = 1 := if_pos hn
    have HE : Hid (SrtP w es (.returned (.tuple #[.slice none 0 0, .int .i64 1])) w) := by
      unfold SrtP
      rw [e1]
      exact ⟨_, rfl, by rw [okL_no (by decide)]; exact World.ownsRow_nil _ _ _ _, Below.refl _ _⟩
    clear e1
    go_enter Try.func36, Try.ntmps36
    go_wp2_with fail
    go_ret2
    exact HE.out
  · have e1 : errS es.length = 0 := if_neg hn
    have HE : Hid (∀ v' w', w'.ownsRow w.heap.size 27 2 v' (sortM es).length ((sortM es).flatMap encM) → Below w.heap.size w w' → SrtP w es (.returned (.tuple #[v', .int .i64 0])) w') := by
      intro v' w' h1 h2
      unfold SrtP
      rw [e1, okL_yes]
      exact ⟨_, rfl, h1, h2⟩
    clear e1
    generalize SrtP w es = P at *
    go_enter Try.func36, Try.ntmps36
    go_wp2_with (at_builtin; refine wpList_append_rowK kM rfl _ _ rfl w.heap.size _ ([] : List Ml) rfl (World.ownsRow_nil _ _ _ _) _ es rfl HR.out ?d1 ?d2 (Nat.le_refl _) ?_)
    case d1 => simp [kM]; omega
    case d2 => simp [maxLen]; omega
    intro v' w' hown hb _
    have OW : Hid (w'.ownsRow w.heap.size 27 2 v' es.length (es.flatMap encM)) := by
      show World.ownsRow _ _ _ _ _ _ _
      simpa [kM] using hown
    have HB : Hid (Below w.heap.size w w') := hb
    obtain ⟨va, vn, vc, rfl⟩ : ∃ a n c, v' = .slice a n c := by obtain ⟨a, c, e, _⟩ := MlR.ownd OW.out; exact ⟨_, _, _, e⟩
    clear hown hb
    go_wp2_with fail
    refine (sortM_any _ _ es _ OW.out (by omega)).mono ?_
    rintro e w2 ⟨rfl, hown2, hb2⟩
    have HX : Hid (P (.returned (.tuple #[.slice va vn vc, .int .i64 0])) w2) := HE.out _ _ hown2 (HB.out.trans hb2)
    clear hown2 hb2
    go_wp2_with fail
    exact HX.out
theorem mergeSort_ref (v : Value) (es : List Ml) (w : World) (h : MlR w v es) : Calls Try.prog 36 #[v] w (RefP w (errS es.length) (sortM es)) := mergeSort_any v es w h
end Go.Proofs.Ytihghhmhgakkaaa

namespace Go.Proofs.Ytihghhmhgakkaaa
set_option maxRecDepth 100000
open Go.ChangeShapes Go.WideShapes Go.ChangeAt Go.RowKit

set_option maxHeartbeats 800000 in
theorem packed_any (f : Nat) : ∀ (n : Int) (w : World), 0 ≤ n → n < 128 ^ (f + 1) → n ≤ 18446744073709551615 →
    Calls Try.prog 46 #[.int .u64 n] w fun e w' =>
      ∃ v', e = .returned v' ∧ w'.ownsRow w.heap.size 5 1 v' (put n).length ((put n).map (Value.int .u8)) ∧ Below w.heap.size w w' := by
  obtain ⟨i0, hi, hz0, hz1, hz2⟩ := info_parts Try.info5
  induction f with
  | zero =>
    intro n w h0 hf h1
    have hn : n < 128 := by simpa using hf
    clear hf
    go_enter Try.func46, Try.ntmps46
    go_wp2_with fail
    go_ret
    refine ⟨_, rfl, ?_, ?_⟩
    · rw [put_small hn]; exact own_new w _ (Nat.le_refl _) n
    · exact (Below.refl _ _).alloc (Nat.le_refl _) _
  | succ f ih =>
    intro n w h0 hf h1
    by_cases hn : n < 128
    · clear hf ih
      go_enter Try.func46, Try.ntmps46
      go_wp2_with fail
      go_ret
      refine ⟨_, rfl, ?_, ?_⟩
      · rw [put_small hn]; exact own_new w _ (Nat.le_refl _) n
      · exact (Below.refl _ _).alloc (Nat.le_refl _) _
    · have hd : n / 128 < 128 ^ (f + 1) := div128_lt (by rw [p128] at hf; exact hf)
      have IH := ih (n / 128) (w.alloc (.cells #[.int .u8 (n % 128 + 128)] 5)) (by omega) hd (by omega)
      have HI : Hid (Calls Try.prog 46 #[.int .u64 (n / 128)] (w.alloc (.cells #[.int .u8 (n % 128 + 128)] 5)) _) := IH
      clear IH ih hf hd
      go_enter Try.func46, Try.ntmps46
      go_wp2_with fail
      refine HI.out.mono ?_
      rintro e w1 ⟨v1, rfl, hown1, hbel1⟩
      have hl := put_len (n / 128)
      have hb1 : Below w.heap.size w w1 := ((Below.refl _ _).alloc (Nat.le_refl _) _).trans (hbel1.mono (by simp))
      have own0 := own_below (own_new w w.heap.size (Nat.le_refl _) (n % 128 + 128)) hbel1 (Nat.le_refl _)
      obtain ⟨g, cap, rfl, hg, hg2, hc, hm, hcell⟩ := own_shape hown1 (by omega)
      have hsz := hb1.size
      have HC : Hid (∀ (j : Nat) (u : Value), (List.map (Value.int IntKind.u8) (put (n / 128)))[j]? = some u → w1.cell? ((⟨g, 0, none⟩ : Addr).add j) = some u) := hcell
      clear HI hown1 hbel1 hcell
      go_wp2_with (at_builtin; refine wpList_append_own _ rfl _ _ 50 rfl w.heap.size 5 i0 (.int .u8 0) 1 1 Try.underlying50 hi hz0 hz1 hz2 rfl (by decide) _ _ _ rfl own0 ⟨g, 0, none⟩ (put (n / 128)).length cap ((put (n / 128)).map (Value.int .u8)) rfl (by simp) HC.out (bytes_oneCell _) ?d3 ?d4 ?d5 ?_)
      case d3 => unfold maxLen; simp; omega
      case d4 => simp; omega
      case d5 => first | omega | (simp; omega)
      intro v' w2 hown' hgrow _
      have hbel2 : Below w.heap.size w w2 := hb1.grown hgrow hsz (fun k hk => by simp [Value.ownBlock] at hk; omega)
      clear HC own0
      go_wp2
      go_ret
      exact ⟨v', rfl, by rw [put_big (by omega) h1]; simpa [Nat.add_comm] using hown', hbel2⟩
end Go.Proofs.Ytihghhmhgakkaaa

namespace Go.Proofs.Ytihghhmhgakkaaa
set_option maxRecDepth 100000
open Go.ChangeShapes Go.WideShapes Go.ChangeAt Go.RowKit


def inV (n : Int) : Bool := decide (0 ≤ n ∧ n ≤ 1152921504606846976)
theorem inV_yes {n : Int} (h : 0 ≤ n ∧ n ≤ 1152921504606846976) : inV n = true := by simp [inV, h]
theorem inV_no {n : Int} (h : ¬ (0 ≤ n ∧ n ≤ 1152921504606846976)) : inV n = false := by simp only [inV, decide_eq_false_iff_not]; exact h

set_option maxHeartbeats 400000 in
theorem inV_any (n : Int) (w : World) : Calls Try.prog 44 #[.int .i64 n, .int .i64 0, .int .i64 1152921504606846976] w fun e w' => e = .returned (.bool (inV n)) ∧ w' = w := by
  by_cases h : 0 ≤ n
  · by_cases h2 : n ≤ 1152921504606846976
    · have H : Hid (inV n = true) := inV_yes ⟨h, h2⟩
      go_enter Try.func44, Try.ntmps44
      go_wp2
      go_ret
      exact ⟨ret_bool H.out.symm, rfl⟩
    · have H : Hid (inV n = false) := inV_no (by omega)
      go_enter Try.func44, Try.ntmps44
      go_wp2
      go_ret
      exact ⟨ret_bool H.out.symm, rfl⟩
  · have H : Hid (inV n = false) := inV_no (by omega)
    go_enter Try.func44, Try.ntmps44
    go_wp2
    go_ret
    exact ⟨ret_bool H.out.symm, rfl⟩

set_option maxHeartbeats 1600000 in
set_option maxRecDepth 100000 in
theorem gapsOf_row (a : Option Addr) (cap : Nat) (xs : List Int) (w : World) (h : Reads .i64 w (.slice a xs.length cap) xs) :
    Calls Try.prog 47 #[.slice a xs.length cap] w fun e w' =>
      ∃ c v', e = .returned (.tuple #[v', .int .i64 c]) ∧ Named xs c ∧ w'.ownsRow w.heap.size 5 1 v' (gapsF xs c).length ((gapsF xs c).map (Value.int .u8)) ∧ Below w.heap.size w w' := by
  have HR : Hid (Reads .i64 w (.slice a xs.length cap) xs) := h
  have hm : xs.length ≤ maxLen := by obtain ⟨a', c', hv, h1, h2, _⟩ := h; omega
  unfold maxLen at hm
  clear h
  obtain ⟨i0, hi, hz0, hz1, hz2⟩ := info_parts Try.info5
  by_cases hl : 2000 < xs.length
  · have HN : Hid (Named xs 1) := .inl ⟨rfl, hl⟩
    have HF : Hid (gapsF xs 1 = []) := rfl
    go_enter Try.func47, Try.ntmps47
    go_wp2_with fail
    go_ret2
    exact ⟨1, _, rfl, HN.out, by rw [HF.out]; exact World.ownsRow_nil _ _ _ _, Below.refl _ _⟩
  · have hl2 : xs.length ≤ 2000 := by omega
    clear hl
    go_enter Try.func47, Try.ntmps47
    go_wp2_with fail
    go_loop [4] (fun i => ∃ k : Nat, k ≤ xs.length ∧ i = .int .i64 k ∧ (∀ i, i < k → 0 ≤ xs.getD i 0 ∧ xs.getD i 0 ≤ 1152921504606846976)) (fun i => xs.length - (intOf i).toNat)
    case atStart => exact ⟨0, by omega, rfl, fun i hi => by omega⟩
    case round =>
      obtain ⟨k, hk, rfl, hs⟩ := hrel
      have HS : Hid (∀ i, i < k → 0 ≤ xs.getD i 0 ∧ xs.getD i 0 ≤ 1152921504606846976) := hs
      clear hs
      by_cases hlt : k < xs.length
      · obtain ⟨b, off, cap', hv, _, _, hb, hcell⟩ := HR.out.plain (by omega)
        injection hv with hv1 hv2 hv3
        subst hv1 hv3
        have d1 := hcell k hlt
        have HN : Hid (0 ≤ xs.getD k 0 ∧ xs.getD k 0 ≤ 1152921504606846976 → ∀ i, i < k + 1 → 0 ≤ xs.getD i 0 ∧ xs.getD i 0 ≤ 1152921504606846976) := fun h i hi => by
          by_cases e : i = k
          · rw [e]; exact h
          · exact HS.out i (by omega)
        have HF : Hid (¬ (0 ≤ xs.getD k 0 ∧ xs.getD k 0 ≤ 1152921504606846976) → Named xs 2) := fun h => .inr (.inl ⟨rfl, hl2, fun h2 => h (h2 k hlt)⟩)
        have HZ : Hid (gapsF xs 2 = []) := rfl
        clear hcell hv2
        generalize xs.getD k 0 = x at *
        go_wp2_with fail
        refine (inV_any x _).mono ?_
        rintro e w' ⟨rfl, rfl⟩
        by_cases hx : 0 ≤ x ∧ x ≤ 1152921504606846976
        · have HN2 : Hid _ := HN.out hx
          rw [inV_yes hx]
          clear hx
          go_wp2_with fail
          go_round
          case rel => exact ⟨k + 1, by omega, by go_num, HN2.out⟩
          case measure => simp [intOf]; omega
        · have HF2 : Hid (Named xs 2) := HF.out hx
          rw [inV_no hx]
          clear hx
          go_wp2_with fail
          go_ret2
          exact ⟨2, _, rfl, HF2.out, by rw [HZ.out]; exact World.ownsRow_nil _ _ _ _, Below.refl _ _⟩
      · have HA : Hid (AllIn xs) := fun i hi => HS.out i (by omega)
        clear HS
        go_wp2_with fail
        refine (packed_any 9 _ _ (by omega) (lt_128_10 (by omega)) (by omega)).mono ?_
        rintro e w2 ⟨v2, rfl, hown2, hb2⟩
        have HO : Hid (w2.ownsRow w.heap.size 5 1 v2 (put xs.length).length ((put xs.length).map (Value.int .u8))) := hown2
        clear hown2
        go_wp2_with fail
        go_loopw [5, 6] (fun v i wr => ∃ k : Nat, k ≤ xs.length ∧ i = .int .i64 k ∧ (∀ i, i + 1 < k → xs.getD i 0 ≤ xs.getD (i + 1) 0) ∧ wr.ownsRow w.heap.size 5 1 v (put xs.length ++ gapsTo xs k).length ((put xs.length ++ gapsTo xs k).map (Value.int .u8)) ∧ Below w.heap.size w wr) (fun _ i _ => xs.length - (intOf i).toNat)
        case atStart => exact ⟨0, by omega, rfl, fun i hi => by omega, by simpa [gapsTo] using HO.out, hb2⟩
        case round =>
          obtain ⟨t, ht, rfl, hs, hown, hbel⟩ := hrel
          have HS : Hid (∀ i, i + 1 < t → xs.getD i 0 ≤ xs.getD (i + 1) 0) := hs
          have HW : Hid (wr.ownsRow w.heap.size 5 1 _ (put xs.length ++ gapsTo xs t).length ((put xs.length ++ gapsTo xs t).map (Value.int .u8))) := hown
          have hsz := hbel.size
          clear hs hown
          by_cases htl : t < xs.length
          · obtain ⟨b, off, cap', hv, _, _, hb, hcell⟩ := HR.out.plain (by omega)
            injection hv with hv1 hv2 hv3
            subst hv1 hv3
            have d1 : wr.cell? ⟨b, off + t, none⟩ = some (.int .i64 (xs.getD t 0)) := (hbel.cell (by exact hb)).trans (hcell t htl)
            have hx := HA.out t htl
            have hlen : (put xs.length ++ gapsTo xs t).length ≤ 20010 := by
              have := put_len xs.length
              have := gapsTo_len xs t
              rw [List.length_append]; omega
            have HL : Hid ((put xs.length ++ gapsTo xs t).length ≤ 20010) := hlen
            have HG : Hid (put xs.length ++ gapsTo xs (t + 1) = (put xs.length ++ gapsTo xs t) ++ put (xs.getD t 0 - prev xs t)) := by
              show put xs.length ++ gapsTo xs (t + 1) = _
              rw [gapsTo, List.append_assoc]
            by_cases h0 : 0 < t
            · obtain ⟨j, rfl⟩ : ∃ j, t = j + 1 := ⟨t - 1, by omega⟩
              have d2 : wr.cell? ⟨b, off + j, none⟩ = some (.int .i64 (xs.getD j 0)) := (hbel.cell (by exact hb)).trans (hcell j (by omega))
              have hy := HA.out j (by omega)
              have HP : Hid (prev xs (j + 1) = xs.getD j 0) := by show prev xs (j + 1) = _; simp [prev]
              have HN : Hid (xs.getD j 0 ≤ xs.getD (j + 1) 0 → ∀ i, i + 1 < j + 1 + 1 → xs.getD i 0 ≤ xs.getD (i + 1) 0) := fun h i hi => by
                by_cases e : i = j
                · rw [e]; exact h
                · exact HS.out i (by omega)
              have HB : Hid (xs.getD (j + 1) 0 < xs.getD j 0 → Named xs 3) := fun h => .inr (.inr (.inl ⟨rfl, hl2, HA.out, fun h2 => by have := h2 j htl; omega⟩))
              have HZ : Hid (gapsF xs 3 = []) := rfl
              rw [HP.out] at HG
              clear hcell hv2 hlen
              generalize xs.getD (j + 1) 0 = x at *
              generalize xs.getD j 0 = y at *
              have i1 : (j : Int) + 1 < (xs.length : Int) := by omega
              have i2 : (j : Int) < (xs.length : Int) := by omega
              have i3 : (0 : Int) ≤ (j : Int) := by omega
              by_cases hxy : x < y
              · have HX : Hid (Named xs 3) := HB.out hxy
                have hneg : x - y < 0 := by omega
                go_wp2_with fail
                go_quiet (fail)
                go_wp2_with fail
                go_ret2
                exact ⟨3, _, rfl, HX.out, by rw [HZ.out]; exact World.ownsRow_nil _ _ _ _, below_drewN hbel _⟩
              · have HX : Hid _ := HN.out (by omega)
                have hneg : ¬ x - y < 0 := by omega
                go_wp2_with fail
                go_quiet (fail)
                go_wp2_with fail
                refine (packed_any 9 (x - y) _ (by omega) (lt_128_10 (by omega)) (by omega)).mono ?_
                rintro e w4 ⟨v4, rfl, hown4, hb4⟩
                have lp := put_len (x - y)
                have hb5 : Below w.heap.size w w4 := (below_drewN hbel _).trans (hb4.mono hsz)
                have hown5 : w4.ownsRow w.heap.size 5 1 _ (put xs.length ++ gapsTo xs (j + 1)).length ((put xs.length ++ gapsTo xs (j + 1)).map (Value.int .u8)) := own_below (own_below HW.out (below_drewN (Below.refl wr.heap.size wr) _) (Nat.le_refl _)) hb4 (Nat.le_refl _)
                obtain ⟨g, cc, rfl, hg, hg2, hc, hmm, hcell4⟩ := own_shape hown4 (by omega)
                have HC : Hid (∀ (j : Nat) (u : Value), (List.map (Value.int IntKind.u8) (put (x - y)))[j]? = some u → w4.cell? ((⟨g, 0, none⟩ : Addr).add j) = some u) := hcell4
                have hl5 := HL.out
                clear hown4 hcell4 HW hb4 hbel
                generalize put xs.length ++ gapsTo xs (j + 1) = pre at *
                go_wp2_with (at_builtin; refine wpList_append_own _ rfl _ _ 50 rfl w.heap.size 5 i0 (.int .u8 0) 1 1 Try.underlying50 hi hz0 hz1 hz2 rfl (by decide) _ _ _ rfl hown5 ⟨g, 0, none⟩ (put (x - y)).length cc ((put (x - y)).map (Value.int .u8)) rfl (by simp) HC.out (bytes_oneCell _) ?d3 ?d4 ?d5 ?_)
                case d3 => unfold maxLen; omega
                case d4 => omega
                case d5 => exact hb5.size
                intro v6 w6 hown6 hgrow _
                have hb6 : Below w.heap.size w w6 := hb5.grown hgrow hb5.size (fun k hk => (hown5.lt k hk).1)
                have hw6 : w6.ownsRow w.heap.size 5 1 v6 (put xs.length ++ gapsTo xs (j + 1 + 1)).length ((put xs.length ++ gapsTo xs (j + 1 + 1)).map (Value.int .u8)) := by rw [HG.out]; simpa using hown6
                have HW6 : Hid (w6.ownsRow w.heap.size 5 1 v6 (put xs.length ++ gapsTo xs (j + 1 + 1)).length ((put xs.length ++ gapsTo xs (j + 1 + 1)).map (Value.int .u8))) := hw6
                clear hw6 hown6 hgrow HC hown5 hb5
                go_wp2_with fail
                go_roundw
                case rel => exact ⟨j + 1 + 1, by omega, by go_num, HX.out, HW6.out, hb6⟩
                case measure => simp [intOf]; omega
            · have ht0 : t = 0 := by omega
              subst ht0
              have HP : Hid (prev xs 0 = 0) := rfl
              rw [HP.out, Int.sub_zero] at HG
              rw [Nat.add_zero] at d1
              clear hcell hv2 hlen
              generalize xs.getD 0 0 = x at *
              go_wp2_with fail
              refine (packed_any 9 x _ (by omega) (lt_128_10 (by omega)) (by omega)).mono ?_
              rintro e w4 ⟨v4, rfl, hown4, hb4⟩
              have lp := put_len x
              have hb5 : Below w.heap.size w w4 := hbel.trans (hb4.mono hsz)
              have hown5 : w4.ownsRow w.heap.size 5 1 _ (put xs.length ++ gapsTo xs 0).length ((put xs.length ++ gapsTo xs 0).map (Value.int .u8)) := own_below HW.out hb4 (Nat.le_refl _)
              obtain ⟨g, cc, rfl, hg, hg2, hc, hmm, hcell4⟩ := own_shape hown4 (by omega)
              have HC : Hid (∀ (j : Nat) (u : Value), (List.map (Value.int IntKind.u8) (put x))[j]? = some u → w4.cell? ((⟨g, 0, none⟩ : Addr).add j) = some u) := hcell4
              have hl5 := HL.out
              clear hown4 hcell4 HW hb4 hbel
              generalize put xs.length ++ gapsTo xs 0 = pre at *
              go_wp2_with (at_builtin; refine wpList_append_own _ rfl _ _ 50 rfl w.heap.size 5 i0 (.int .u8 0) 1 1 Try.underlying50 hi hz0 hz1 hz2 rfl (by decide) _ _ _ rfl hown5 ⟨g, 0, none⟩ (put x).length cc ((put x).map (Value.int .u8)) rfl (by simp) HC.out (bytes_oneCell _) ?e3 ?e4 ?e5 ?_)
              case e3 => unfold maxLen; omega
              case e4 => omega
              case e5 => exact hb5.size
              intro v6 w6 hown6 hgrow _
              have hb6 : Below w.heap.size w w6 := hb5.grown hgrow hb5.size (fun k hk => (hown5.lt k hk).1)
              have hw6 : w6.ownsRow w.heap.size 5 1 v6 (put xs.length ++ gapsTo xs (0 + 1)).length ((put xs.length ++ gapsTo xs (0 + 1)).map (Value.int .u8)) := by rw [HG.out]; simpa using hown6
              have HW6 : Hid (w6.ownsRow w.heap.size 5 1 v6 (put xs.length ++ gapsTo xs (0 + 1)).length ((put xs.length ++ gapsTo xs (0 + 1)).map (Value.int .u8))) := hw6
              clear hw6 hown6 hgrow HC hown5 hb5
              go_wp2_with fail
              go_roundw
              case rel => exact ⟨0 + 1, by omega, by go_num, fun i hi => by omega, HW6.out, hb6⟩
              case measure => simp [intOf]; omega
          · have htt : t = xs.length := by omega
            subst htt
            have HN : Hid (Named xs 0) := .inr (.inr (.inr ⟨rfl, hl2, HA.out, fun i hi => HS.out i hi⟩))
            have HF : Hid (gapsF xs 0 = put xs.length ++ gapsTo xs xs.length) := rfl
            go_wp2_with fail
            go_ret2
            exact ⟨0, _, rfl, HN.out, by rw [HF.out]; exact HW.out, hbel⟩

theorem gapsOf_any (v : Value) (xs : List Int) (w : World) (h : Reads .i64 w v xs) :
    Calls Try.prog 47 #[v] w fun e w' =>
      ∃ c v', e = .returned (.tuple #[v', .int .i64 c]) ∧ Named xs c ∧ w'.ownsRow w.heap.size 5 1 v' (gapsF xs c).length ((gapsF xs c).map (Value.int .u8)) ∧ Below w.heap.size w w' := by
  have h2 := h
  obtain ⟨a, cap, rfl, _⟩ := h
  exact gapsOf_row a cap xs w h2
end Go.Proofs.Ytihghhmhgakkaaa

namespace Go.Proofs.Ytihghhmhgakkaaa
set_option maxRecDepth 100000
open Go.ChangeShapes Go.WideShapes Go.ChangeAt Go.RowKit

theorem named_run {l : List Ml} (h1 : mayA l = true) (h2 : srtMb l = true) (h3 : l.length ≤ 1000) : Named (l.map Prod.fst) 0 := by
  refine .inr (.inr (.inr ⟨rfl, by simp; omega, fun i hi => ?_, fun i hi => ?_⟩))
  · rw [List.length_map] at hi
    have hm := mayM_iff.1 (mayA_iff.1 h1 l[i] (List.getElem_mem hi))
    rw [List.getD_eq_getElem?_getD, List.getElem?_map, List.getElem?_eq_getElem hi]
    simp only [Option.map_some, Option.getD_some]
    omega
  · rw [List.length_map] at hi
    have hs := (srtMb_iff l).1 h2 i l[i] l[i + 1] (List.getElem?_eq_getElem (by omega)) (List.getElem?_eq_getElem hi)
    rw [List.getD_eq_getElem?_getD, List.getD_eq_getElem?_getD, List.getElem?_map, List.getElem?_map, List.getElem?_eq_getElem (by omega), List.getElem?_eq_getElem hi]
    simp only [Option.map_some, Option.getD_some]
    unfold ltM at hs
    omega
/-- What a call answers that answers bytes. -/
def BytP (w : World) (b : List Int) (e : Ending) (w' : World) : Prop := ∃ v', e = .returned v' ∧ w'.ownsRow w.heap.size 5 1 v' b.length (b.map (Value.int .u8)) ∧ Below w.heap.size w w'
/-- The bytes of the Values. -/
def valsB (l : List Ml) : List Int := l.flatMap fun m => put m.2
theorem valsB_snoc (l : List Ml) (x : Ml) : valsB (l ++ [x]) = valsB l ++ put x.2 := by unfold valsB; simp
theorem valsB_len : ∀ (l : List Ml), (valsB l).length ≤ 10 * l.length
  | [] => by simp [valsB]
  | x :: l => by
    have h1 := valsB_len l
    have h2 := put_len x.2
    unfold valsB at *
    rw [List.flatMap_cons, List.length_append, List.length_cons]
    omega
theorem runB_eq (l : List Ml) : runB l = gapsF (l.map Prod.fst) 0 ++ valsB l := rfl
theorem gapsF_len (l : List Int) : (gapsF l 0).length ≤ 10 + 10 * l.length := by
  unfold gapsF
  rw [if_pos rfl, List.length_append]
  have h1 := put_len (l.length : Int)
  have h2 := gapsTo_len l l.length
  omega

set_option maxHeartbeats 2000000 in
set_option maxRecDepth 100000 in
theorem runBytes_any (v : Value) (l : List Ml) (w : World) (h : MlR w v l) (h1 : mayA l = true) (h2 : srtMb l = true) (h3 : l.length ≤ 1000) :
    Calls Try.prog 33 #[v] w fun e w' => ∃ v', e = .returned v' ∧ w'.ownsRow w.heap.size 5 1 v' (runB l).length ((runB l).map (Value.int .u8)) ∧ Below w.heap.size w w' := by
  have HR : Hid (MlR w v l) := h
  have HM : Hid (∀ m ∈ l, mayM m = true) := mayA_iff.1 h1
  have HN : Hid (Named (l.map Prod.fst) 0) := named_run h1 h2 h3
  obtain ⟨a, cap, rfl, hc, hm, _, _⟩ := h
  unfold maxLen at hm
  have HE : Hid (∀ v' w', w'.ownsRow w.heap.size 5 1 v' (gapsF (l.map Prod.fst) 0 ++ valsB l).length ((gapsF (l.map Prod.fst) 0 ++ valsB l).map (Value.int .u8)) → Below w.heap.size w w' → BytP w (runB l) (.returned v') w') := fun v' w' ho hb => ⟨_, rfl, by rw [runB_eq]; exact ho, hb⟩
  show Calls _ _ _ _ (BytP w (runB l))
  generalize BytP w (runB l) = P at *
  clear h1 h2
  go_enter Try.func33, Try.ntmps33
  go_wp2_with fail
  go_loopw [3, 4, 5] (fun x y i wr => ∃ k : Nat, k ≤ l.length ∧ i = .int .i64 k ∧ wr.ownsRow w.heap.size 3 1 x ((l.take k).map Prod.fst).length (((l.take k).map Prod.fst).flatMap encI) ∧ wr.ownsRow w.heap.size 5 1 y (valsB (l.take k)).length ((valsB (l.take k)).map (Value.int .u8)) ∧ Below w.heap.size w wr) (fun _ _ i _ => l.length - (intOf i).toNat)
  case atStart => exact ⟨0, by omega, rfl, World.ownsRow_nil _ _ _ _, World.ownsRow_nil _ _ _ _, Below.refl _ _⟩
  case round =>
    obtain ⟨k, hk, rfl, hot, hov, hbel⟩ := hrel
    have OT : Hid (wr.ownsRow w.heap.size 3 1 u3 ((l.take k).map Prod.fst).length (((l.take k).map Prod.fst).flatMap encI)) := hot
    have OV : Hid (wr.ownsRow w.heap.size 5 1 u4 (valsB (l.take k)).length ((valsB (l.take k)).map (Value.int .u8))) := hov
    have HB : Hid (Below w.heap.size w wr) := hbel
    have hsr := hbel.size
    clear hot hov hbel
    by_cases hlt : k < l.length
    · obtain ⟨b, off, cap', e1, _, _, lt, hv⟩ := MlR.at (HR.out.below HB.out (Nat.le_refl _)) (by omega)
      obtain ⟨b0, off0, cap0, e2, _, _, lt0, _⟩ := MlR.at HR.out (by omega)
      injection e1 with e1 e9 e3
      subst e1 e3
      injection e2 with e2 e8 e3
      injection e2 with e2
      injection e2 with e2 e7 _
      subst e2
      clear e9 e8 e7 e3
      obtain ⟨x, hx⟩ := getX hlt
      obtain ⟨c1, c2⟩ := hv k x hx
      obtain ⟨m1, m2, m3, m4⟩ := mayM_iff.1 (HM.out x (List.mem_of_getElem? hx))
      have HT : Hid ((l.take (k + 1)).map Prod.fst = (l.take k).map Prod.fst ++ [x.1]) := by show _ = _; rw [take_snoc hx, List.map_append]; rfl
      have HV : Hid (valsB (l.take (k + 1)) = valsB (l.take k) ++ put x.2) := by show _ = _; rw [take_snoc hx, valsB_snoc]
      have hl1 : ((l.take k).map Prod.fst).length ≤ 1000 := by simp; omega
      have hl2 : (valsB (l.take k)).length ≤ 10000 := by
        have q1 := valsB_len (l.take k)
        have q2 : (l.take k).length ≤ k := List.length_take_le _ _
        omega
      have p0 : (0 : Int) ≤ (k : Int) := by omega
      have p1 : (k : Int) < (l.length : Int) := by omega
      have hwr : IntKind.u64.wrap x.2 = x.2 := by rw [IntKind.wrap_u64]; omega
      clear hv hx
      generalize (l.take k).map Prod.fst = ts at *
      generalize valsB (l.take k) = vs at *
      go_wp2_with (at_builtin; refine wpList_append_newK kI rfl _ _ rfl w.heap.size _ ts rfl (OT.out.alloc _) wr.heap.size x.1 rfl #[.int .i64 x.1] rfl (0, 0) (heap_alloc_new _ _) (by simp [kI]; omega) (by unfold maxLen; omega) (by simp; omega) ?_)
      intro g gc w2 hot2 hb2 hg2
      have O2 : Hid (w2.ownsRow w.heap.size 3 1 (.slice (some ⟨g, 0, none⟩) (ts.length + 1) gc) ((l.take (k + 1)).map Prod.fst).length (((l.take (k + 1)).map Prod.fst).flatMap encI)) := by show World.ownsRow _ _ _ _ _ _ _; rw [HT.out]; simpa [kI] using hot2
      have V2 : Hid (w2.ownsRow w.heap.size 5 1 u4 vs.length (vs.map (Value.int .u8))) := (OV.out.alloc _).kept hg2 (own_apart OV.out OT.out (by decide))
      have B2 : Hid (Below w.heap.size w w2) := (HB.out.alloc hsr _).trans hb2
      have hs2 := B2.out.size
      have d1 := ((((Below.refl _ _).alloc hsr _).trans hb2).cell (p := ⟨b, off + k * 2, none⟩) lt0).trans c1
      have d2 := ((((Below.refl _ _).alloc hsr _).trans hb2).cell (p := ⟨b, off + k * 2 + 1, none⟩) lt0).trans c2
      clear hot2 hb2 hg2 OT OV c1 c2
      go_wp2_with fail
      refine (packed_any 9 x.2 _ m3 (lt_128_10 (by omega)) (by omega)).mono ?_
      rintro e w3 ⟨v3, rfl, ho3, hb3⟩
      have V3 : Hid (w3.ownsRow w.heap.size 5 1 u4 vs.length (vs.map (Value.int .u8))) := own_below V2.out hb3 (Nat.le_refl _)
      have O3 : Hid (w3.ownsRow w.heap.size 3 1 (.slice (some ⟨g, 0, none⟩) (ts.length + 1) gc) ((l.take (k + 1)).map Prod.fst).length (((l.take (k + 1)).map Prod.fst).flatMap encI)) := own_below O2.out hb3 (Nat.le_refl _)
      have P3 : Hid (Reads .u8 w3 v3 (put x.2)) := reads_own ho3
      have B3 : Hid (Below w.heap.size w w3) := B2.out.trans (hb3.mono hs2)
      have hs3 := B3.out.size
      have hpl := put_len x.2
      obtain ⟨ya, yc, rfl, _⟩ := id P3.out
      obtain ⟨za, zc, rfl⟩ : ∃ a c, u4 = .slice a vs.length c := by obtain ⟨a, c, e, _⟩ := reads_own V3.out; exact ⟨a, c, e⟩
      clear ho3 hb3 d1 d2 O2 V2
      generalize put x.2 = px at *
      go_wp2_with (at_builtin; refine wpList_append_reads rfl _ _ rfl w.heap.size _ vs rfl V3.out _ px rfl P3.out (by omega) (by omega) ?_)
      intro v4 w4 hov4 hb4 hg4
      have V4 : Hid (w4.ownsRow w.heap.size 5 1 v4 (valsB (l.take (k + 1))).length ((valsB (l.take (k + 1))).map (Value.int .u8))) := by show World.ownsRow _ _ _ _ _ _ _; rw [HV.out]; simpa using hov4
      have O4 : Hid (w4.ownsRow w.heap.size 3 1 (.slice (some ⟨g, 0, none⟩) (ts.length + 1) gc) ((l.take (k + 1)).map Prod.fst).length (((l.take (k + 1)).map Prod.fst).flatMap encI)) := O3.out.kept hg4 (own_apart O3.out V3.out (by decide))
      have B4 : Hid (Below w.heap.size w w4) := B3.out.trans hb4
      clear hov4 hb4 hg4 V3 O3
      go_wp2_with fail
      go_roundw
      case rel => exact ⟨k + 1, by omega, by go_num, O4.out, V4.out, B4.out⟩
      case measure => simp [intOf]; omega
    · have ek : l.take k = l := List.take_of_length_le (by omega)
      rw [ek] at OT OV
      have RT : Hid (Reads .i64 wr u3 (l.map Prod.fst)) := reads_own (k := .i64) (e := 3) (base := w.heap.size) (by rw [← flatI]; exact OT.out)
      have hl1 : (l.map Prod.fst).length ≤ 1000 := by simp; omega
      have hl2 := valsB_len l
      have hl3 := gapsF_len (l.map Prod.fst)
      obtain ⟨ta, tc, rfl, _⟩ := id RT.out
      obtain ⟨za, zc, rfl⟩ : ∃ a c, u4 = .slice a (valsB l).length c := by obtain ⟨a, c, e, _⟩ := reads_own OV.out; exact ⟨a, c, e⟩
      clear ek OT
      generalize l.map Prod.fst = ts at *
      generalize valsB l = vs at *
      go_wp2_with fail
      refine (gapsOf_any _ ts _ RT.out).mono ?_
      rintro e w2 ⟨cd, v2, rfl, hn2, ho2, hb2⟩
      obtain rfl : cd = 0 := hn2.one HN.out
      have G2 : Hid (w2.ownsRow w.heap.size 5 1 v2 (gapsF ts 0).length ((gapsF ts 0).map (Value.int .u8))) := own_lower ho2 hsr
      have R2 : Hid (Reads .u8 w2 (.slice za vs.length zc) vs) := (reads_own OV.out).below hb2 (Nat.le_refl _)
      have B2 : Hid (Below w.heap.size w w2) := HB.out.trans (hb2.mono hsr)
      have hs2 := B2.out.size
      obtain ⟨ga, gc, rfl⟩ : ∃ a c, v2 = .slice a (gapsF ts 0).length c := by obtain ⟨a, c, e, _⟩ := reads_own G2.out; exact ⟨a, c, e⟩
      clear hn2 ho2 hb2 OV HN
      generalize gapsF ts 0 = gs at *
      go_wp2_with (at_builtin; refine wpList_append_reads rfl _ _ rfl w.heap.size _ gs rfl G2.out _ vs rfl R2.out (by omega) (by omega) ?_)
      intro v4 w4 hov4 hb4 _
      have V4 : Hid (w4.ownsRow w.heap.size 5 1 v4 (gs ++ vs).length ((gs ++ vs).map (Value.int .u8))) := by show World.ownsRow _ _ _ _ _ _ _; simpa using hov4
      have HX : Hid (P (.returned v4) w4) := HE.out v4 w4 V4.out (B2.out.trans hb4)
      clear hov4 hb4
      go_wp2_with fail
      exact HX.out
set_option maxHeartbeats 2000000 in
set_option maxRecDepth 100000 in
theorem pack_any (v : Value) (es : List Ml) (w : World) (h : MlR w v es) (h1 : mayA es = true) (h3 : es.length ≤ 1000) :
    Calls Try.prog 29 #[v] w fun e w' => ∃ v', e = .returned v' ∧ w'.ownsRow w.heap.size 5 1 v' (runB (sortM es)).length ((runB (sortM es)).map (Value.int .u8)) ∧ Below w.heap.size w w' := by
  have HR : Hid (MlR w v es) := h
  have HS : Hid (∀ X, MlR X v es → Calls Try.prog 36 #[v] X (RefP X 0 (sortM es))) := fun X hX => by
    have := mergeSort_ref v es X hX
    rw [show errS es.length = 0 from if_neg (by omega)] at this
    exact this
  have hma : mayA (sortM es) = true := by rw [mayA_perm (sortM_perm es)]; exact h1
  have HM : Hid (∀ m ∈ sortM es, mayM m = true) := mayA_iff.1 hma
  have hl : (sortM es).length ≤ 1000 := by rw [sortM_len]; exact h3
  have HN : Hid (Named ((sortM es).map Prod.fst) 0) := named_run hma ((srtMb_iff _).2 (in_srtM (sortM_sorted es))) hl
  obtain ⟨a, cap, rfl⟩ := h.shape
  clear h h1 h3 hma
  have HE : Hid (∀ v' w', w'.ownsRow w.heap.size 5 1 v' (gapsF ((sortM es).map Prod.fst) 0 ++ valsB (sortM es)).length ((gapsF ((sortM es).map Prod.fst) 0 ++ valsB (sortM es)).map (Value.int .u8)) → Below w.heap.size w w' → BytP w (runB (sortM es)) (.returned v') w') := fun v' w' ho hb => ⟨_, rfl, by rw [runB_eq]; exact ho, hb⟩
  show Calls _ _ _ _ (BytP w (runB (sortM es)))
  generalize sortM es = l at *
  generalize BytP w (runB l) = P at *
  go_enter Try.func29, Try.ntmps29
  go_wp2_with fail
  refine (HS.out _ HR.out).mono ?_
  rintro e w1 ⟨v1, rfl, ho1, hb1⟩
  have HL : Hid (MlR w1 v1 l) := MlR.ownd ho1
  have B1 : Hid (Below w.heap.size w w1) := hb1
  have hs1 := hb1.size
  obtain ⟨va, vc, rfl⟩ := HL.out.shape
  obtain ⟨_, _, e1, hlc, hmc, _⟩ := id HL.out
  injection e1 with e1 e2 e3
  subst e1 e3
  unfold maxLen at hmc
  clear ho1 hb1 HS HR e2
  go_wp2_with fail
  go_loopw [5, 19] (fun x i wr => ∃ k : Nat, k ≤ l.length ∧ i = .int .i64 k ∧ wr.ownsRow w1.heap.size 3 1 x ((l.take k).map Prod.fst).length (((l.take k).map Prod.fst).flatMap encI) ∧ Below w1.heap.size w1 wr) (fun _ i _ => l.length - (intOf i).toNat)
  case atStart => exact ⟨0, by omega, rfl, World.ownsRow_nil _ _ _ _, Below.refl _ _⟩
  case round =>
    obtain ⟨k, hk, rfl, hot, hbel⟩ := hrel
    have OT : Hid (wr.ownsRow w1.heap.size 3 1 u5 ((l.take k).map Prod.fst).length (((l.take k).map Prod.fst).flatMap encI)) := hot
    have HB : Hid (Below w1.heap.size w1 wr) := hbel
    have hsr := hbel.size
    clear hot hbel
    by_cases hlt : k < l.length
    · obtain ⟨b, off, cap', e1, _, _, lt, hv⟩ := MlR.at (HL.out.below HB.out (Nat.le_refl _)) (by omega)
      injection e1 with e1 e9 e3
      subst e1 e3
      clear e9
      obtain ⟨x, hx⟩ := getX hlt
      obtain ⟨c1, c2⟩ := hv k x hx
      have HT : Hid ((l.take (k + 1)).map Prod.fst = (l.take k).map Prod.fst ++ [x.1]) := by show _ = _; rw [take_snoc hx, List.map_append]; rfl
      have hl1 : ((l.take k).map Prod.fst).length ≤ 1000 := by simp; omega
      have p0 : (0 : Int) ≤ (k : Int) := by omega
      have p1 : (k : Int) < (l.length : Int) := by omega
      clear hv hx
      generalize (l.take k).map Prod.fst = ts at *
      have hbx : ∀ o1 o2, Below w1.heap.size w1 ((wr.alloc o1).alloc o2) := fun o1 o2 => (HB.out.alloc hsr _).alloc (by simp; omega) _
      go_wp2_with (at_builtin; refine wpList_append_newK kI rfl _ _ rfl w1.heap.size _ ts rfl ((OT.out.alloc _).alloc _) (wr.heap.size + 1) x.1 rfl #[.int .i64 x.1] rfl (0, 0) (heap_second _ _ _ _) (by simp [kI]; omega) (by unfold maxLen; omega) (by simp; omega) ?_)
      intro g gc w2 hot2 hb2 _
      have O2 : Hid (w2.ownsRow w1.heap.size 3 1 (.slice (some ⟨g, 0, none⟩) (ts.length + 1) gc) ((l.take (k + 1)).map Prod.fst).length (((l.take (k + 1)).map Prod.fst).flatMap encI)) := by show World.ownsRow _ _ _ _ _ _ _; rw [HT.out]; simpa [kI] using hot2
      have B2 : Hid (Below w1.heap.size w1 w2) := (hbx _ _).trans hb2
      clear hot2 hb2
      go_wp2_with fail
      go_roundw
      case rel => exact ⟨k + 1, by omega, by go_num, O2.out, B2.out⟩
      case measure => simp [intOf]; omega
    · have ek : l.take k = l := List.take_of_length_le (by omega)
      rw [ek] at OT
      have RT : Hid (Reads .i64 wr u5 (l.map Prod.fst)) := reads_own (k := .i64) (e := 3) (base := w1.heap.size) (by rw [← flatI]; exact OT.out)
      have hl1 : (l.map Prod.fst).length ≤ 1000 := by simp; omega
      have hl3 := gapsF_len (l.map Prod.fst)
      obtain ⟨ta, tc, rfl, _⟩ := id RT.out
      clear ek OT
      generalize l.map Prod.fst = ts at *
      go_wp2_with fail
      refine (gaps_any _ ts _ RT.out).mono ?_
      rintro e w2 ⟨cd, v2, rfl, hn2, ho2, hb2⟩
      obtain rfl : cd = 0 := hn2.one HN.out
      have G2 : Hid (w2.ownsRow w1.heap.size 5 1 v2 (gapsF ts 0).length ((gapsF ts 0).map (Value.int .u8))) := own_lower ho2 hsr
      have B2 : Hid (Below w1.heap.size w1 w2) := HB.out.trans (hb2.mono hsr)
      have hs2 := B2.out.size
      obtain ⟨ga, gc, rfl⟩ : ∃ a c, v2 = .slice a (gapsF ts 0).length c := by obtain ⟨a, c, e, _⟩ := reads_own G2.out; exact ⟨a, c, e⟩
      clear hn2 ho2 hb2 HN HB RT
      generalize gapsF ts 0 = gs at *
      go_wp2_with fail
      go_loopw [8, 36] (fun y i wr => ∃ k : Nat, k ≤ l.length ∧ i = .int .i64 k ∧ wr.ownsRow w1.heap.size 5 1 y (gs ++ valsB (l.take k)).length ((gs ++ valsB (l.take k)).map (Value.int .u8)) ∧ Below w1.heap.size w1 wr) (fun _ i _ => l.length - (intOf i).toNat)
      case atStart => exact ⟨0, by omega, rfl, by simpa [valsB] using G2.out, B2.out⟩
      case round =>
        obtain ⟨j, hj, rfl, hov, hbel⟩ := hrel
        have OV : Hid (wr.ownsRow w1.heap.size 5 1 u8 (gs ++ valsB (l.take j)).length ((gs ++ valsB (l.take j)).map (Value.int .u8))) := hov
        have HB : Hid (Below w1.heap.size w1 wr) := hbel
        have hsr2 := hbel.size
        clear hov hbel B2 G2
        by_cases hlt2 : j < l.length
        · obtain ⟨b, off, cap', e1, _, _, lt, hv⟩ := MlR.at (HL.out.below HB.out (Nat.le_refl _)) (by omega)
          injection e1 with e1 e9 e3
          subst e1 e3
          clear e9
          obtain ⟨x, hx⟩ := getX hlt2
          obtain ⟨c1, c2⟩ := hv j x hx
          obtain ⟨m1, m2, m3, m4⟩ := mayM_iff.1 (HM.out x (List.mem_of_getElem? hx))
          have HV : Hid (gs ++ valsB (l.take (j + 1)) = (gs ++ valsB (l.take j)) ++ put x.2) := by show _ = _; rw [take_snoc hx, valsB_snoc, List.append_assoc]
          have hl2 : (gs ++ valsB (l.take j)).length ≤ 30000 := by
            have q1 := valsB_len (l.take j)
            have q2 : (l.take j).length ≤ j := List.length_take_le _ _
            rw [List.length_append]
            omega
          have p0 : (0 : Int) ≤ (j : Int) := by omega
          have p1 : (j : Int) < (l.length : Int) := by omega
          have hwr : IntKind.u64.wrap x.2 = x.2 := by rw [IntKind.wrap_u64]; omega
          have hbx : ∀ o1, Below w1.heap.size w1 (wr.alloc o1) := fun o1 => HB.out.alloc hsr2 _
          clear hv hx
          generalize gs ++ valsB (l.take j) = vs at *
          go_wp2_with fail
          refine (put_any x.2 _ m3 (by omega)).mono ?_
          rintro e w3 ⟨v3, rfl, ho3, hb3⟩
          have V3 : Hid (w3.ownsRow w1.heap.size 5 1 u8 vs.length (vs.map (Value.int .u8))) := own_below (OV.out.alloc _) hb3 (Nat.le_refl _)
          have P3 : Hid (Reads .u8 w3 v3 (put x.2)) := reads_own ho3
          have B3 : Hid (Below w1.heap.size w1 w3) := (hbx _).trans (hb3.mono (by simp; omega))
          have hs3 := B3.out.size
          have hpl := put_len x.2
          obtain ⟨ya, yc, rfl, _⟩ := id P3.out
          obtain ⟨za, zc, rfl⟩ : ∃ a c, u8 = .slice a vs.length c := by obtain ⟨a, c, e, _⟩ := reads_own V3.out; exact ⟨a, c, e⟩
          clear ho3 hb3 OV HB hbx
          generalize put x.2 = px at *
          go_wp2_with (at_builtin; refine wpList_append_reads rfl _ _ rfl w1.heap.size _ vs rfl V3.out _ px rfl P3.out (by omega) (by omega) ?_)
          intro v4 w4 hov4 hb4 _
          have V4 : Hid (w4.ownsRow w1.heap.size 5 1 v4 (gs ++ valsB (l.take (j + 1))).length ((gs ++ valsB (l.take (j + 1))).map (Value.int .u8))) := by show World.ownsRow _ _ _ _ _ _ _; rw [HV.out]; simpa using hov4
          have B4 : Hid (Below w1.heap.size w1 w4) := B3.out.trans hb4
          clear hov4 hb4 V3 B3
          go_wp2_with fail
          go_roundw
          case rel => exact ⟨j + 1, by omega, by go_num, V4.out, B4.out⟩
          case measure => simp [intOf]; omega
        · have ek : l.take j = l := List.take_of_length_le (by omega)
          have HX : Hid (P (.returned u8) wr) := HE.out u8 wr (own_lower (by have := OV.out; rwa [ek] at this) hs1) (B1.out.trans (HB.out.mono hs1))
          obtain ⟨za, zn, zc, rfl⟩ : ∃ a n c, u8 = .slice a n c := by obtain ⟨a, c, e, _⟩ := reads_own OV.out; exact ⟨a, _, c, e⟩
          clear ek OV HB
          go_wp2_with fail
          exact HX.out
end Go.Proofs.Ytihghhmhgakkaaa

namespace Go.Proofs.Ytihghhmhgakkaaa
set_option maxRecDepth 100000
open Go.ChangeShapes Go.WideShapes Go.ChangeAt Go.RowKit

/-- What Push answers, and the document's. -/
def PshP (w : World) (n : Int) (L : List Ml) (R : List (List Int)) (f : Int) (e : Ending) (w' : World) : Prop :=
  ∃ vl vr, e = .returned (.tuple #[.agg #[.int .i64 (okN f n), vl, vr], .int .i64 f]) ∧ w'.ownsRow w.heap.size 27 2 vl (okL f L).length ((okL f L).flatMap encM) ∧ OwnBs w' w.heap.size vr (okL f R) ∧ Below w.heap.size w w'
theorem PshP.no {w w' : World} {n f : Int} {L : List Ml} {R : List (List Int)} (hf : f ≠ 0) (hb : Below w.heap.size w w') : PshP w n L R f (.returned (.tuple #[.agg #[.int .i64 0, .slice none 0 0, .slice none 0 0], .int .i64 f])) w' :=
  ⟨_, _, by rw [okN_no hf], by rw [okL_no hf]; exact World.ownsRow_nil _ _ _ _, by rw [okL_no hf]; exact OwnBs.nil _ _, hb⟩
theorem PshP.yes {w w' : World} {n : Int} {L : List Ml} {R : List (List Int)} {vl vr : Value} (h1 : w'.ownsRow w.heap.size 27 2 vl L.length (L.flatMap encM)) (h2 : OwnBs w' w.heap.size vr R) (hb : Below w.heap.size w w') : PshP w n L R 0 (.returned (.tuple #[.agg #[.int .i64 n, vl, vr], .int .i64 0])) w' :=
  ⟨_, _, rfl, h1, h2, hb⟩
theorem MlR.one (w : World) (m : Ml) : MlR (w.alloc (.cells #[.int .i64 m.1, .int .i64 m.2] 27)) (.slice (some ⟨w.heap.size, 0, none⟩) 1 1) [m] := by
  refine ⟨some ⟨w.heap.size, 0, none⟩, 1, rfl, Nat.le_refl _, by simp [maxLen], fun e => (by cases e), fun _ => ⟨w.heap.size, 0, rfl, by simp, fun i x hx j u hu => ?_⟩⟩
  have hi : i = 0 := by
    rcases Nat.eq_zero_or_pos i with h | h
    · exact h
    · rw [List.getElem?_eq_none (by simp; omega)] at hx; cases hx
  subst hi
  simp at hx
  subst hx
  rw [cell_of_row _ _ _ _ _ _ (heap_alloc_new w _)]
  simp only [Nat.zero_mul, Nat.zero_add]
  match j, hu with
  | 0, hu => simp [encM] at hu ⊢; exact hu
  | 1, hu => simp [encM] at hu ⊢; exact hu
  | j + 2, hu => simp [encM] at hu
theorem mayA_one (m : Ml) : mayA [m] = mayM m := by unfold mayA; simp

/-- The three boxes that Push makes. -/
theorem push_boxes (w : World) (a b c : Value) (m : Ml) : ∀ W, W = ((w.alloc (.cells #[a, b, c] 25)).alloc (.cells #[.int .i64 m.1, .int .i64 m.2] 27)).alloc (.cells #[.int .i64 0, .slice none 0 0, .slice none 0 0] 25) →
    QX W w.heap.size a b c ∧ QX W (w.heap.size + 2) (.int .i64 0) (.slice none 0 0) (.slice none 0 0) ∧ W.heap[w.heap.size + 1]? = some (.cells #[.int .i64 m.1, .int .i64 m.2] 27 (0, 0)) ∧ Below w.heap.size w W ∧ W.heap.size ≤ w.heap.size + 3 ∧ w.heap.size + 3 ≤ W.heap.size := by
  rintro W rfl
  have b1 := below_alloc w (.cells #[a, b, c] 25)
  have b2 := below_alloc (w.alloc (.cells #[a, b, c] 25)) (.cells #[.int .i64 m.1, .int .i64 m.2] 27)
  have b3 := below_alloc ((w.alloc (.cells #[a, b, c] 25)).alloc (.cells #[.int .i64 m.1, .int .i64 m.2] 27)) (.cells #[.int .i64 0, .slice none 0 0, .slice none 0 0] 25)
  have s1 : (w.alloc (.cells #[a, b, c] 25)).heap.size = w.heap.size + 1 := by simp
  have s2 : ((w.alloc (.cells #[a, b, c] 25)).alloc (.cells #[.int .i64 m.1, .int .i64 m.2] 27)).heap.size = w.heap.size + 2 := by simp
  refine ⟨((QX.new w a b c).below b2 (by omega)).below b3 (by omega), ?_, ?_, ?_, by simp, by simp⟩
  · have h := QX.new ((w.alloc (.cells #[a, b, c] 25)).alloc (.cells #[.int .i64 m.1, .int .i64 m.2] 27)) (.int .i64 0) (.slice none 0 0) (.slice none 0 0)
    rwa [s2] at h
  · rw [b3.block _ (by omega)]
    have h := heap_second w (.cells #[a, b, c] 25) #[.int .i64 m.1, .int .i64 m.2] 27
    exact h
  · exact (b1.trans (b2.mono (by omega))).trans (b3.mono (by omega))

theorem QX.grown {w w' : World} {q b n size : Nat} {e : TypeId} {x y z v : Value} {xs : List Value} (h : QX w q x y z) (ho : w.ownsRow b e size v n xs) (hne : e ≠ 25) (hg : w.grownBy w' v.ownBlock) : QX w' q x y z := (hg.block q h.lt fun k => own_block ho k.symm h hne rfl).trans h
theorem OwnBs.past {w w' : World} {base b n size : Nat} {e : TypeId} {v u : Value} {xs : List Value} {f : List (List Int)} (h : OwnBs w base v f) (hu : w.ownsRow b e size u n xs) (h1 : 50 ≠ e) (h2 : 5 ≠ e) (hg : w.grownBy w' u.ownBlock) : OwnBs w' base v f := by
  obtain ⟨vs, k1, k2, k3⟩ := h
  exact ⟨vs, k1, k2.kept hg (own_apart k2 hu h1), fun j x l hx hl => (k3 j x l hx hl).kept hg (own_apart (k3 j x l hx hl) hu h2)⟩

set_option maxHeartbeats 4000000 in
set_option maxRecDepth 100000 in
theorem push_any (n : Int) (vl vr : Value) (lo : List Ml) (rs : List (List Int)) (m : Ml) (w : World) (h : QuR w vl vr lo rs) (hB : QuB lo rs) :
    Calls Try.prog 10 #[.agg #[.int .i64 n, vl, vr], .agg #[.int .i64 m.1, .int .i64 m.2]] w (PshP w n (looF n lo m) (rnsF n lo rs m) (pushE lo m (quF n lo rs))) := by
  have HR : Hid (QuR w vl vr lo rs) := h
  have HBd : Hid (QuB lo rs) := hB
  have HU : Hid (∀ X, QuR X vl vr lo rs → Calls Try.prog 25 #[.agg #[.int .i64 n, vl, vr]] X (UnpP X (quF n lo rs))) := fun X hX => unpackAll_any n vl vr lo rs X hX hB
  have HQ : Hid (∀ f, quF n lo rs = some f → 1 ≤ n ∧ n ≤ 1000 ∧ (lo.length : Int) < n ∧ rs.length ≤ 5000 ∧ mayA lo = true ∧ f.length = rs.length ∧ lo.length + sumM f ≤ 5000 ∧ ∀ l ∈ f, 1 ≤ l.length ∧ l.length ≤ 1000 ∧ mayA l = true ∧ srtMb l = true) := fun f hf => quF_inv hf
  obtain ⟨a, cap, rfl⟩ := h.1.shape
  obtain ⟨c, cap2, rfl, _⟩ := id h.2
  clear h hB
  generalize quF n lo rs = o at *
  cases o with
  | none =>
    have HE : Hid (∀ w', Below w.heap.size w w' → PshP w n (looF n lo m) (rnsF n lo rs m) (pushE lo m none) (.returned (.tuple #[.agg #[.int .i64 0, .slice none 0 0, .slice none 0 0], .int .i64 9])) w') := fun w' hw => PshP.no (by show (9 : Int) ≠ 0; decide) hw
    generalize PshP w n (looF n lo m) (rnsF n lo rs m) (pushE lo m none) = P at *
    go_enter Try.func10, Try.ntmps10
    go_upto_region 1 with fail
    obtain ⟨Q0, T0, M0, B0, s1, s2⟩ := push_boxes w (.int .i64 n) (.slice a lo.length cap) (.slice c rs.length cap2) m _ rfl
    generalize ((w.alloc (.cells #[.int .i64 n, .slice a lo.length cap, .slice c rs.length cap2] 25)).alloc (.cells #[.int .i64 m.1, .int .i64 m.2] 27)).alloc (.cells #[.int .i64 0, .slice none 0 0, .slice none 0 0] 25) = W0 at *
    have T1 : Hid (QX W0 (w.heap.size + 2) (.int .i64 0) (.slice none 0 0) (.slice none 0 0)) := T0
    have BH : Hid (Below w.heap.size w W0) := B0
    obtain ⟨q0, q1, q2⟩ := Q0.cells
    clear Q0 T0 M0 B0
    go_wp2_with fail
    refine (HU.out _ (HR.out.below BH.out (Nat.le_refl _))).mono ?_
    rintro e w1 ⟨v1, rfl, ho, hb1⟩
    have T2 : Hid (QX w1 (w.heap.size + 2) (.int .i64 0) (.slice none 0 0) (.slice none 0 0)) := T1.out.below hb1 (by omega)
    have HX : Hid (P (.returned (.tuple #[.agg #[.int .i64 0, .slice none 0 0, .slice none 0 0], .int .i64 9])) (putQ w1 (w.heap.size + 2) (.int .i64 0) (.slice none 0 0) (.slice none 0 0))) := HE.out _ (below_putQ (BH.out.trans (hb1.mono (by omega))) (by omega) _ _ _)
    obtain ⟨t0, t1, t2, t3, t4, t5⟩ := T2.out.all
    clear hb1 ho HU
    unfold errQ
    go_wp2_with fail
    have r := (T2.out.put (.int .i64 0) (.slice none 0 0) (.slice none 0 0)).cells
    unfold putQ at r
    obtain ⟨r0, r1, r2⟩ := r
    exact bodyPost_ret (v := .tuple #[.agg #[.int .i64 0, .slice none 0 0, .slice none 0 0], .int .i64 9]) (by simp [results, Try.results10, go_sem, r0, r1, r2]) rfl HX.out
  | some f =>
    obtain ⟨h1, h2, h3, h4, h5, h6, h7, _⟩ := HQ.out f rfl
    have HA : Hid (∀ v X, MlR X v [m] → Calls Try.prog 26 #[v] X fun e w' => e = .returned (.bool (!mayM m)) ∧ Below X.heap.size X w') := fun v X hX => by
      have := anyBarred_any v [m] X hX
      rwa [mayA_one] at this
    have hfl : f.length ≤ 5000 := by omega
    clear h6 HQ
    cases hm : mayM m
    · have hpe : pushE lo m (some f) = 2 := by unfold pushE; rw [hm]; rfl
      rw [hm] at HA
      have HE : Hid (∀ w', Below w.heap.size w w' → PshP w n (looF n lo m) (rnsF n lo rs m) (pushE lo m (some f)) (.returned (.tuple #[.agg #[.int .i64 0, .slice none 0 0, .slice none 0 0], .int .i64 2])) w') := fun w' hw => by rw [hpe]; exact PshP.no (by decide) hw
      generalize PshP w n (looF n lo m) (rnsF n lo rs m) (pushE lo m (some f)) = P at *
      clear hm hpe h7
      go_enter Try.func10, Try.ntmps10
      go_upto_region 1 with fail
      obtain ⟨Q0, T0, M0, B0, s1, s2⟩ := push_boxes w (.int .i64 n) (.slice a lo.length cap) (.slice c rs.length cap2) m _ rfl
      generalize ((w.alloc (.cells #[.int .i64 n, .slice a lo.length cap, .slice c rs.length cap2] 25)).alloc (.cells #[.int .i64 m.1, .int .i64 m.2] 27)).alloc (.cells #[.int .i64 0, .slice none 0 0, .slice none 0 0] 25) = W0 at *
      have T1 : Hid (QX W0 (w.heap.size + 2) (.int .i64 0) (.slice none 0 0) (.slice none 0 0)) := T0
      have Q1 : Hid (QX W0 w.heap.size (.int .i64 n) (.slice a lo.length cap) (.slice c rs.length cap2)) := Q0
      have M1 : Hid (W0.heap[w.heap.size + 1]? = some (.cells #[.int .i64 m.1, .int .i64 m.2] 27 (0, 0))) := M0
      have BH : Hid (Below w.heap.size w W0) := B0
      obtain ⟨q0, q1, q2⟩ := Q0.cells
      clear Q0 T0 M0 B0
      go_wp2_with fail
      refine (HU.out _ (HR.out.below BH.out (Nat.le_refl _))).mono ?_
      rintro e w1 ⟨v1, rfl, ho, hb1⟩
      have b1 : Below W0.heap.size W0 w1 := hb1
      have B1 : Hid (Below W0.heap.size W0 w1) := hb1
      have hs1 := hb1.size
      have HL : Hid (LmR w1 v1 f) := ho.reads
      obtain ⟨fa, fc, rfl⟩ : ∃ a c, v1 = .slice a f.length c := by obtain ⟨a, c, e, _⟩ := ho.reads; exact ⟨a, c, e⟩
      have mb : w1.heap[w.heap.size + 1]? = some (.cells #[.int .i64 m.1, .int .i64 m.2] 27 (0, 0)) := (b1.block _ (by omega)).trans M1.out
      have mc0 : w1.cell? ⟨w.heap.size + 1, 0, none⟩ = some (.int .i64 m.1) := boxQ_cells mb 0
      have mc1 : w1.cell? ⟨w.heap.size + 1, 1, none⟩ = some (.int .i64 m.2) := boxQ_cells mb 1
      clear hb1 ho HU b1 mb q0 q1 q2
      unfold errQ
      go_wp2_with fail
      refine (HA.out _ _ (MlR.one w1 m)).mono ?_
      rintro e w2 ⟨rfl, hb2⟩
      have b2 : Below w1.heap.size w1 w2 := (below_alloc _ _).trans (hb2.mono (by simp))
      have B2 : Hid (Below W0.heap.size W0 w2) := B1.out.trans (b2.mono hs1)
      have hs2 := B2.out.size
      have L2 : Hid (LmR w2 (.slice fa f.length fc) f) := HL.out.below b2 (Nat.le_refl _)
      have Q2 : Hid (QX w2 w.heap.size (.int .i64 n) (.slice a lo.length cap) (.slice c rs.length cap2)) := Q1.out.below B2.out (by omega)
      have T2 : Hid (QX w2 (w.heap.size + 2) (.int .i64 0) (.slice none 0 0) (.slice none 0 0)) := T1.out.below B2.out (by omega)
      have M2 : Hid (w2.heap[w.heap.size + 1]? = some (.cells #[.int .i64 m.1, .int .i64 m.2] 27 (0, 0))) := (B2.out.block _ (by omega)).trans M1.out
      clear hb2 b2 HL mc0 mc1 Q1 T1 M1 B1
      have HX : Hid (P (.returned (.tuple #[.agg #[.int .i64 0, .slice none 0 0, .slice none 0 0], .int .i64 2])) (putQ w2 (w.heap.size + 2) (.int .i64 0) (.slice none 0 0) (.slice none 0 0))) := HE.out _ (below_putQ (BH.out.trans (B2.out.mono (by omega))) (by omega) _ _ _)
      obtain ⟨t0, t1, t2, t3, t4, t5⟩ := T2.out.all
      go_wp2_with fail
      have r := (T2.out.put (.int .i64 0) (.slice none 0 0) (.slice none 0 0)).cells
      unfold putQ at r
      obtain ⟨r0, r1, r2⟩ := r
      exact bodyPost_ret (v := .tuple #[.agg #[.int .i64 0, .slice none 0 0, .slice none 0 0], .int .i64 2]) (by simp [results, Try.results10, go_sem, r0, r1, r2]) rfl HX.out
    · rw [hm] at HA
      have HC : Hid (∀ v X, LmR X v f → Calls Try.prog 27 #[v] X fun e w' => e = .returned (.int .i64 (sumM f : Nat)) ∧ w' = X) := fun v X hX => countQ_any v f X hX (by omega)
      obtain ⟨tot, htot, ht1, ht2⟩ : ∃ tot : Int, IntKind.i64.wrap ((lo.length : Int) + (sumM f : Nat)) = tot ∧ tot ≤ (lo.length : Int) + (sumM f : Nat) ∧ (lo.length : Int) + (sumM f : Nat) ≤ tot := ⟨_, rfl, by rw [IntKind.wrap_i64]; omega, by rw [IntKind.wrap_i64]; omega⟩
      by_cases hfull : lo.length + sumM f = 5000
      · have hpe : pushE lo m (some f) = 10 := by unfold pushE; rw [hm]; exact if_pos hfull
        have hte : (tot == 5000) = true := by simp; omega
        have HE : Hid (∀ w', Below w.heap.size w w' → PshP w n (looF n lo m) (rnsF n lo rs m) (pushE lo m (some f)) (.returned (.tuple #[.agg #[.int .i64 0, .slice none 0 0, .slice none 0 0], .int .i64 10])) w') := fun w' hw => by rw [hpe]; exact PshP.no (by decide) hw
        generalize PshP w n (looF n lo m) (rnsF n lo rs m) (pushE lo m (some f)) = P at *
        clear hm hpe h7 hfull ht1 ht2
        generalize sumM f = sf at *
        go_enter Try.func10, Try.ntmps10
        go_upto_region 1 with fail
        obtain ⟨Q0, T0, M0, B0, s1, s2⟩ := push_boxes w (.int .i64 n) (.slice a lo.length cap) (.slice c rs.length cap2) m _ rfl
        generalize ((w.alloc (.cells #[.int .i64 n, .slice a lo.length cap, .slice c rs.length cap2] 25)).alloc (.cells #[.int .i64 m.1, .int .i64 m.2] 27)).alloc (.cells #[.int .i64 0, .slice none 0 0, .slice none 0 0] 25) = W0 at *
        have T1 : Hid (QX W0 (w.heap.size + 2) (.int .i64 0) (.slice none 0 0) (.slice none 0 0)) := T0
        have Q1 : Hid (QX W0 w.heap.size (.int .i64 n) (.slice a lo.length cap) (.slice c rs.length cap2)) := Q0
        have M1 : Hid (W0.heap[w.heap.size + 1]? = some (.cells #[.int .i64 m.1, .int .i64 m.2] 27 (0, 0))) := M0
        have BH : Hid (Below w.heap.size w W0) := B0
        obtain ⟨q0, q1, q2⟩ := Q0.cells
        clear Q0 T0 M0 B0
        go_wp2_with fail
        refine (HU.out _ (HR.out.below BH.out (Nat.le_refl _))).mono ?_
        rintro e w1 ⟨v1, rfl, ho, hb1⟩
        have b1 : Below W0.heap.size W0 w1 := hb1
        have B1 : Hid (Below W0.heap.size W0 w1) := hb1
        have hs1 := hb1.size
        have HL : Hid (LmR w1 v1 f) := ho.reads
        obtain ⟨fa, fc, rfl⟩ : ∃ a c, v1 = .slice a f.length c := by obtain ⟨a, c, e, _⟩ := ho.reads; exact ⟨a, c, e⟩
        have mb : w1.heap[w.heap.size + 1]? = some (.cells #[.int .i64 m.1, .int .i64 m.2] 27 (0, 0)) := (b1.block _ (by omega)).trans M1.out
        have mc0 : w1.cell? ⟨w.heap.size + 1, 0, none⟩ = some (.int .i64 m.1) := boxQ_cells mb 0
        have mc1 : w1.cell? ⟨w.heap.size + 1, 1, none⟩ = some (.int .i64 m.2) := boxQ_cells mb 1
        clear hb1 ho HU b1 mb q0 q1 q2
        unfold errQ
        go_wp2_with fail
        refine (HA.out _ _ (MlR.one w1 m)).mono ?_
        rintro e w2 ⟨rfl, hb2⟩
        have b2 : Below w1.heap.size w1 w2 := (below_alloc _ _).trans (hb2.mono (by simp))
        have B2 : Hid (Below W0.heap.size W0 w2) := B1.out.trans (b2.mono hs1)
        have hs2 := B2.out.size
        have L2 : Hid (LmR w2 (.slice fa f.length fc) f) := HL.out.below b2 (Nat.le_refl _)
        have Q2 : Hid (QX w2 w.heap.size (.int .i64 n) (.slice a lo.length cap) (.slice c rs.length cap2)) := Q1.out.below B2.out (by omega)
        have T2 : Hid (QX w2 (w.heap.size + 2) (.int .i64 0) (.slice none 0 0) (.slice none 0 0)) := T1.out.below B2.out (by omega)
        have M2 : Hid (w2.heap[w.heap.size + 1]? = some (.cells #[.int .i64 m.1, .int .i64 m.2] 27 (0, 0))) := (B2.out.block _ (by omega)).trans M1.out
        clear hb2 b2 HL mc0 mc1 Q1 T1 M1 B1
        obtain ⟨q0, q1, q2⟩ := Q2.out.cells
        go_wp2_with fail
        go_quiet ((go_at_call 27; exact Calls.quiet_of_same (HC.out _ _ L2.out)))
        have b3 := below_drewN (Below.refl w2.heap.size w2) nq
        have B3 : Hid (Below W0.heap.size W0 (w2.drewN nq)) := B2.out.trans (b3.mono hs2)
        have Q3 : Hid (QX (w2.drewN nq) w.heap.size (.int .i64 n) (.slice a lo.length cap) (.slice c rs.length cap2)) := Q2.out.below b3 Q2.out.lt
        have T3 : Hid (QX (w2.drewN nq) (w.heap.size + 2) (.int .i64 0) (.slice none 0 0) (.slice none 0 0)) := T2.out.below b3 T2.out.lt
        have M3 : Hid ((w2.drewN nq).heap[w.heap.size + 1]? = some (.cells #[.int .i64 m.1, .int .i64 m.2] 27 (0, 0))) := M2.out
        clear b3 q0 q1 q2 Q2 T2 M2 B2 L2
        generalize w2.drewN nq = w3 at *
        have hs3 := B3.out.size
        have HX : Hid (P (.returned (.tuple #[.agg #[.int .i64 0, .slice none 0 0, .slice none 0 0], .int .i64 10])) (putQ w3 (w.heap.size + 2) (.int .i64 0) (.slice none 0 0) (.slice none 0 0))) := HE.out _ (below_putQ (BH.out.trans (B3.out.mono (by omega))) (by omega) _ _ _)
        obtain ⟨t0, t1, t2, t3, t4, t5⟩ := T3.out.all
        go_wp2_with fail
        have r := (T3.out.put (.int .i64 0) (.slice none 0 0) (.slice none 0 0)).cells
        unfold putQ at r
        obtain ⟨r0, r1, r2⟩ := r
        exact bodyPost_ret (v := .tuple #[.agg #[.int .i64 0, .slice none 0 0, .slice none 0 0], .int .i64 10]) (by simp [results, Try.results10, go_sem, r0, r1, r2]) rfl HX.out
      · have hpe : pushE lo m (some f) = 0 := by unfold pushE; rw [hm]; exact if_neg hfull
        have hte : (tot == 5000) = false := by simp; omega
        have hmA : mayA (lo ++ [m]) = true := by rw [mayA_app, h5, mayA_one, hm]; rfl
        have HMA : Hid (mayA (lo ++ [m]) = true) := hmA
        have HE : Hid (∀ vl vr w', w'.ownsRow w.heap.size 27 2 vl (looF n lo m).length ((looF n lo m).flatMap encM) → OwnBs w' w.heap.size vr (rnsF n lo rs m) → Below w.heap.size w w' → PshP w n (looF n lo m) (rnsF n lo rs m) (pushE lo m (some f)) (.returned (.tuple #[.agg #[.int .i64 n, vl, vr], .int .i64 0])) w') := fun vl vr w' g1 g2 hw => by rw [hpe]; exact PshP.yes g1 g2 hw
        generalize PshP w n (looF n lo m) (rnsF n lo rs m) (pushE lo m (some f)) = P at *
        clear hm hpe h7 hfull ht1 ht2 hmA h5
        generalize sumM f = sf at *
        go_enter Try.func10, Try.ntmps10
        go_upto_region 1 with fail
        obtain ⟨Q0, T0, M0, B0, s1, s2⟩ := push_boxes w (.int .i64 n) (.slice a lo.length cap) (.slice c rs.length cap2) m _ rfl
        generalize ((w.alloc (.cells #[.int .i64 n, .slice a lo.length cap, .slice c rs.length cap2] 25)).alloc (.cells #[.int .i64 m.1, .int .i64 m.2] 27)).alloc (.cells #[.int .i64 0, .slice none 0 0, .slice none 0 0] 25) = W0 at *
        have T1 : Hid (QX W0 (w.heap.size + 2) (.int .i64 0) (.slice none 0 0) (.slice none 0 0)) := T0
        have Q1 : Hid (QX W0 w.heap.size (.int .i64 n) (.slice a lo.length cap) (.slice c rs.length cap2)) := Q0
        have M1 : Hid (W0.heap[w.heap.size + 1]? = some (.cells #[.int .i64 m.1, .int .i64 m.2] 27 (0, 0))) := M0
        have BH : Hid (Below w.heap.size w W0) := B0
        obtain ⟨q0, q1, q2⟩ := Q0.cells
        clear Q0 T0 M0 B0
        go_wp2_with fail
        refine (HU.out _ (HR.out.below BH.out (Nat.le_refl _))).mono ?_
        rintro e w1 ⟨v1, rfl, ho, hb1⟩
        have b1 : Below W0.heap.size W0 w1 := hb1
        have B1 : Hid (Below W0.heap.size W0 w1) := hb1
        have hs1 := hb1.size
        have HL : Hid (LmR w1 v1 f) := ho.reads
        obtain ⟨fa, fc, rfl⟩ : ∃ a c, v1 = .slice a f.length c := by obtain ⟨a, c, e, _⟩ := ho.reads; exact ⟨a, c, e⟩
        have mb : w1.heap[w.heap.size + 1]? = some (.cells #[.int .i64 m.1, .int .i64 m.2] 27 (0, 0)) := (b1.block _ (by omega)).trans M1.out
        have mc0 : w1.cell? ⟨w.heap.size + 1, 0, none⟩ = some (.int .i64 m.1) := boxQ_cells mb 0
        have mc1 : w1.cell? ⟨w.heap.size + 1, 1, none⟩ = some (.int .i64 m.2) := boxQ_cells mb 1
        clear hb1 ho HU b1 mb q0 q1 q2
        unfold errQ
        go_wp2_with fail
        refine (HA.out _ _ (MlR.one w1 m)).mono ?_
        rintro e w2 ⟨rfl, hb2⟩
        have b2 : Below w1.heap.size w1 w2 := (below_alloc _ _).trans (hb2.mono (by simp))
        have B2 : Hid (Below W0.heap.size W0 w2) := B1.out.trans (b2.mono hs1)
        have hs2 := B2.out.size
        have L2 : Hid (LmR w2 (.slice fa f.length fc) f) := HL.out.below b2 (Nat.le_refl _)
        have Q2 : Hid (QX w2 w.heap.size (.int .i64 n) (.slice a lo.length cap) (.slice c rs.length cap2)) := Q1.out.below B2.out (by omega)
        have T2 : Hid (QX w2 (w.heap.size + 2) (.int .i64 0) (.slice none 0 0) (.slice none 0 0)) := T1.out.below B2.out (by omega)
        have M2 : Hid (w2.heap[w.heap.size + 1]? = some (.cells #[.int .i64 m.1, .int .i64 m.2] 27 (0, 0))) := (B2.out.block _ (by omega)).trans M1.out
        clear hb2 b2 HL mc0 mc1 Q1 T1 M1 B1
        obtain ⟨q0, q1, q2⟩ := Q2.out.cells
        go_wp2_with fail
        go_quiet ((go_at_call 27; exact Calls.quiet_of_same (HC.out _ _ L2.out)))
        have b3 := below_drewN (Below.refl w2.heap.size w2) nq
        have B3 : Hid (Below W0.heap.size W0 (w2.drewN nq)) := B2.out.trans (b3.mono hs2)
        have Q3 : Hid (QX (w2.drewN nq) w.heap.size (.int .i64 n) (.slice a lo.length cap) (.slice c rs.length cap2)) := Q2.out.below b3 Q2.out.lt
        have T3 : Hid (QX (w2.drewN nq) (w.heap.size + 2) (.int .i64 0) (.slice none 0 0) (.slice none 0 0)) := T2.out.below b3 T2.out.lt
        have M3 : Hid ((w2.drewN nq).heap[w.heap.size + 1]? = some (.cells #[.int .i64 m.1, .int .i64 m.2] 27 (0, 0))) := M2.out
        clear b3 q0 q1 q2 Q2 T2 M2 B2 L2
        generalize w2.drewN nq = w3 at *
        have hs3 := B3.out.size
        obtain ⟨q0, q1, q2⟩ := Q3.out.cells
        go_wp2_with fail
        refine (clone_any n _ _ lo rs _ ((HR.out.below BH.out (Nat.le_refl _)).below B3.out (Nat.le_refl _)) HBd.out).mono ?_
        rintro e w4 ⟨xl, xr, rfl, hol, hor, hb4⟩
        obtain ⟨xa, xc, rfl⟩ := (MlR.ownd hol).shape
        obtain ⟨ya, yc, rfl, _⟩ := id hor.reads
        have L5 : Hid ((w4.alloc (.cells #[.int .i64 n, .slice xa lo.length xc, .slice ya rs.length yc] 25)).ownsRow w3.heap.size 27 2 (.slice xa lo.length xc) lo.length (lo.flatMap encM)) := hol.alloc _
        have O5 : Hid (OwnBs (w4.alloc (.cells #[.int .i64 n, .slice xa lo.length xc, .slice ya rs.length yc] 25)) w3.heap.size (.slice ya rs.length yc) rs) := hor.kept (Kept.of (S := fun _ => False) (below_alloc _ _)) (fun _ _ h => h)
        have b5 : Below w3.heap.size w3 (w4.alloc (.cells #[.int .i64 n, .slice xa lo.length xc, .slice ya rs.length yc] 25)) := hb4.alloc hb4.size _
        have X5 : Hid (QX (w4.alloc (.cells #[.int .i64 n, .slice xa lo.length xc, .slice ya rs.length yc] 25)) w4.heap.size (.int .i64 n) (.slice xa lo.length xc) (.slice ya rs.length yc)) := QX.new _ _ _ _
        have hnb := hb4.size
        clear hol hor hb4 q0 q1 q2 Q3
        go_upto_region 9 with fail
        generalize w4.alloc (.cells #[.int .i64 n, .slice xa lo.length xc, .slice ya rs.length yc] 25) = W5 at *
        generalize w4.heap.size = nb at *
        have B5 : Hid (Below w3.heap.size w3 W5) := b5
        have hs5 := b5.size
        have mb : W5.heap[w.heap.size + 1]? = some (.cells #[.int .i64 m.1, .int .i64 m.2] 27 (0, 0)) := (b5.block _ (by omega)).trans M3.out
        have mc0 : W5.cell? ⟨w.heap.size + 1, 0, none⟩ = some (.int .i64 m.1) := boxQ_cells mb 0
        have mc1 : W5.cell? ⟨w.heap.size + 1, 1, none⟩ = some (.int .i64 m.2) := boxQ_cells mb 1
        obtain ⟨x0, x1, x2, x3, x4, x5⟩ := X5.out.all
        have A5 : Hid (QX (W5.alloc (.cells #[.int .i64 m.1, .int .i64 m.2] 27)) nb (.int .i64 n) (.slice xa lo.length xc) (.slice ya rs.length yc)) := X5.out.below (below_alloc _ _) X5.out.lt
        have D5 : Hid (OwnBs (W5.alloc (.cells #[.int .i64 m.1, .int .i64 m.2] 27)) w3.heap.size (.slice ya rs.length yc) rs) := O5.out.kept (Kept.of (S := fun _ => False) (below_alloc _ _)) (fun _ _ h => h)
        have C5 : Hid (Below w3.heap.size w3 (W5.alloc (.cells #[.int .i64 m.1, .int .i64 m.2] 27))) := b5.alloc hs5 _
        clear b5 mb M3
        go_wp2_with (at_builtin; refine wpList_append_newK kM rfl _ _ rfl w3.heap.size _ lo rfl (L5.out.alloc _) W5.heap.size m rfl #[.int .i64 m.1, .int .i64 m.2] rfl (0, 0) (heap_alloc_new _ _) (by simp [kM]; omega) (by unfold maxLen; omega) (by simp; omega) ?_)
        intro g gc w6 hol6 hb6 hg6
        have L6 : Hid (w6.ownsRow w3.heap.size 27 2 (.slice (some ⟨g, 0, none⟩) (lo.length + 1) gc) (lo ++ [m]).length ((lo ++ [m]).flatMap encM)) := by show World.ownsRow _ _ _ _ _ _ _; simpa [kM] using hol6
        have X6 : Hid (QX w6 nb (.int .i64 n) (.slice xa lo.length xc) (.slice ya rs.length yc)) := A5.out.grown (L5.out.alloc _) (by decide) hg6
        have O6 : Hid (OwnBs w6 w3.heap.size (.slice ya rs.length yc) rs) := D5.out.past (L5.out.alloc _) (by decide) (by decide) hg6
        have B6 : Hid (Below w3.heap.size w3 w6) := C5.out.trans hb6
        obtain ⟨y0, y1, y2, y3, y4, y5⟩ := X6.out.all
        have X7 : Hid (QX (w6.setCell ⟨nb, 1, none⟩ (.slice (some ⟨g, 0, none⟩) (lo.length + 1) gc)) nb (.int .i64 n) (.slice (some ⟨g, 0, none⟩) (lo.length + 1) gc) (.slice ya rs.length yc)) := X6.out.set1 _
        have L7 : Hid ((w6.setCell ⟨nb, 1, none⟩ (.slice (some ⟨g, 0, none⟩) (lo.length + 1) gc)).ownsRow w3.heap.size 27 2 (.slice (some ⟨g, 0, none⟩) (lo.length + 1) gc) (lo ++ [m]).length ((lo ++ [m]).flatMap encM)) := X6.out.own L6.out (by decide)
        have O7 : Hid (OwnBs (w6.setCell ⟨nb, 1, none⟩ (.slice (some ⟨g, 0, none⟩) (lo.length + 1) gc)) w3.heap.size (.slice ya rs.length yc) rs) := O6.out.boxQ X6.out
        have B7 : Hid (Below w3.heap.size w3 (w6.setCell ⟨nb, 1, none⟩ (.slice (some ⟨g, 0, none⟩) (lo.length + 1) gc))) := B6.out.setCell hnb _
        clear hol6 hb6 hg6 X5 L5 O5 A5 D5 C5 x0 x1 x2 x3 x4 x5 mc0 mc1 L6 O6 B6 B5
        go_upto_region 10 with fail
        clear y0 y1 y2 y3 y4 y5 X6
        generalize w6.setCell ⟨nb, 1, none⟩ (.slice (some ⟨g, 0, none⟩) (lo.length + 1) gc) = W7 at *
        have T7 : Hid (QX W7 (w.heap.size + 2) (.int .i64 0) (.slice none 0 0) (.slice none 0 0)) := T3.out.below B7.out (by omega)
        have Z7 : Hid (Below w.heap.size w W7) := (BH.out.trans (B3.out.mono (by omega))).trans (B7.out.mono (by omega))
        have hl7 : lo.length + 1 ≤ 1000 := by omega
        obtain ⟨x0, x1, x2, x3, x4, x5⟩ := X7.out.all
        obtain ⟨t0, t1, t2, t3, t4, t5⟩ := T7.out.all
        have hs7 := B7.out.size
        by_cases hbud : (lo.length : Int) + 1 = n
        · have ep : ∀ args w, (callFunc 29 args).run Try.prog w = .ok (.enter 29 args) w := enters_of Try.func29 (by kernel_rfl) rfl
          have heq : (((lo.length + 1 : Nat) : Int) == n) = true := by rw [beq_iff_eq]; omega
          have hlen : (lo ++ [m]).length ≤ 1000 := by simp; omega
          have MR : Hid (MlR W7 (.slice (some ⟨g, 0, none⟩) (lo.length + 1) gc) (lo ++ [m])) := MlR.ownd L7.out
          have EL : Hid (looF n lo m = []) := if_pos hbud
          have ER : Hid (rnsF n lo rs m = rs ++ [runB (sortM (lo ++ [m]))]) := if_pos hbud
          have KEEP : Hid (∀ V, Below W7.heap.size W7 V → V.cell? ⟨nb, 2, none⟩ = some (.slice ya rs.length yc) ∧ V.cell? ⟨nb, 1, none⟩ = some (.slice (some ⟨g, 0, none⟩) (lo.length + 1) gc)) := fun V hV => ⟨(hV.cell (p := ⟨nb, 2, none⟩) X7.out.lt).trans x2, (hV.cell (p := ⟨nb, 1, none⟩) X7.out.lt).trans x1⟩
          have HSD : Hid (_ ∧ _) := KEEP.out W7.drew (Below.refl _ _).drew
          have hrs5 : rs.length ≤ 5000 := h4
          generalize lo.length + 1 = t9 at *
          clear L7 hl7
          go_upto_region 11 with fail
          refine region_lastF (S := fun V => V.cell? ⟨nb, 2, none⟩ = some (.slice ya rs.length yc) ∧ V.cell? ⟨nb, 1, none⟩ = some (.slice (some ⟨g, 0, none⟩) t9 gc)) (by kernel_rfl) rfl (by kernel_rfl) (by kernel_rfl) ?_
          simp only [List.pop_toArray, List.dropLast_cons_cons, List.dropLast_singleton, List.size_toArray, List.length_cons, List.length_nil, Nat.reduceAdd]
          refine takeH (i := 0) (v := .pointer (some ⟨nb, 2, none⟩)) (d := 47) rfl rfl (by kernel_rfl) (by kernel_rfl) (by kernel_rfl) (fun _ _ _ h => h) (by rfl) (fun V hV => by obtain ⟨v1, v2⟩ := hV; go_simp) HSD.out ?_
          simp only [Act.put, List.setIfInBounds_toArray, List.set_cons_zero, List.set_cons_succ]
          refine takeH (i := 1) (v := .slice ya rs.length yc) (d := 48) rfl rfl (by kernel_rfl) (by kernel_rfl) (by kernel_rfl) (fun _ _ _ h => h) (by rfl) (fun V hV => by obtain ⟨v1, v2⟩ := hV; go_simp) HSD.out ?_
          simp only [Act.put, List.setIfInBounds_toArray, List.set_cons_zero, List.set_cons_succ]
          refine takeH (i := 2) (v := .pointer (some ⟨nb, 1, none⟩)) (d := 49) rfl rfl (by kernel_rfl) (by kernel_rfl) (by kernel_rfl) (fun _ _ _ h => h) (by rfl) (fun V hV => by obtain ⟨v1, v2⟩ := hV; go_simp) HSD.out ?_
          simp only [Act.put, List.setIfInBounds_toArray, List.set_cons_zero, List.set_cons_succ]
          refine takeH (i := 3) (v := .slice (some ⟨g, 0, none⟩) t9 gc) (d := 50) rfl rfl (by kernel_rfl) (by kernel_rfl) (by kernel_rfl) (fun _ _ _ h => h) (by rfl) (fun V hV => by obtain ⟨v1, v2⟩ := hV; go_simp) HSD.out ?_
          simp only [Act.put, List.setIfInBounds_toArray, List.set_cons_zero, List.set_cons_succ]
          refine oneH (i := 4) rfl (by kernel_rfl) rfl (call_gets (d := 51) (f := 29) (xs := #[.tmp 50]) (ats := #[22]) rfl rfl ep (vs := #[.slice (some ⟨g, 0, none⟩) t9 gc]) (by simp [Act.eval]) (pack_any _ (lo ++ [m]) _ (MR.out.below (Below.refl _ _).drew (Nat.le_refl _)) HMA.out hlen) ?_)
          intro v8 w8 h8
          obtain ⟨ho8, hb8⟩ := h8
          have C8 : Below W7.heap.size W7 w8 := below_undrew hb8
          have HS8 : Hid (_ ∧ _) := KEEP.out w8 C8
          refine ⟨HS8.out, ?_⟩
          simp only [Act.put, List.setIfInBounds_toArray, List.set_cons_zero, List.set_cons_succ]
          generalize runB (sortM (lo ++ [m])) = rb at *
          have A8 : Below W7.heap.size W7 (w8.alloc (.cells #[v8] 50)) := C8.alloc C8.size _
          have HS9 : Hid (_ ∧ _) := KEEP.out (w8.alloc (.cells #[v8] 50)) A8
          obtain ⟨za, zc, rfl⟩ : ∃ za zc, v8 = .slice za rb.length zc := by obtain ⟨x, y, e, _⟩ := reads_own ho8; exact ⟨x, y, e⟩
          refine oneH (i := 5) rfl (by kernel_rfl) rfl (op_run (d := 52) (v' := .slice (some ⟨w8.heap.size, 0, none⟩) 1 1) (w' := w8.alloc (.cells #[.slice za rb.length zc] 50)) rfl (by go_simp) ⟨HS9.out, ?_⟩)
          simp only [Act.put, List.setIfInBounds_toArray, List.set_cons_zero, List.set_cons_succ]
          have OB : OwnBs (w8.alloc (.cells #[.slice za rb.length zc] 50)) w3.heap.size (.slice ya rs.length yc) rs := O7.out.kept (Kept.of (S := fun _ => False) A8) (fun _ _ h => h)
          obtain ⟨gg, ggc, w9, hrun, hob, hgr, _⟩ := run_append_bs 23 w3.heap.size (.slice ya rs.length yc) rs OB w8.heap.size (.slice za rb.length zc) rb (0, 0) (heap_alloc_new _ _) ((own_lower ho8 (by simp; omega)).alloc _) (by omega) (by have := A8.size; omega)
          obtain ⟨us, hus⟩ := OB.row
          have X9 : Hid (QX w9 nb (.int .i64 n) (.slice (some ⟨g, 0, none⟩) t9 gc) (.slice ya rs.length yc)) := (X7.out.below A8 X7.out.lt).grown hus (by decide) hgr
          refine oneH (i := 6) rfl (by kernel_rfl) rfl (call_append (d := 53) (s := .tmp 48) (x := .tmp 52) (t := 23) rfl rfl (v := .slice ya rs.length yc) (v2 := .slice (some ⟨w8.heap.size, 0, none⟩) 1 1) (by simp [Act.eval]) (by simp [Act.eval]) hrun ⟨⟨X9.out.cells.2.2, X9.out.cells.2.1⟩, ?_⟩)
          simp only [Act.put, List.setIfInBounds_toArray, List.set_cons_zero, List.set_cons_succ]
          refine takeH (i := 7) (v := .pointer (some ⟨nb, 2, none⟩)) (d := 54) rfl rfl (by kernel_rfl) (by kernel_rfl) (by kernel_rfl) (fun _ _ _ h => h) (by rfl) (fun V hV => by obtain ⟨v1, v2⟩ := hV; go_simp) ⟨X9.out.cells.2.2, X9.out.cells.2.1⟩ ?_
          simp only [Act.put, List.setIfInBounds_toArray, List.set_cons_zero, List.set_cons_succ]
          refine wpAnyH_done (by kernel_rfl) ?_ _
          have K9 : Kept (fun q => (Value.slice ya rs.length yc).ownBlock = some q) W7 w9 := (Kept.of (S := fun q => (Value.slice ya rs.length yc).ownBlock = some q) A8).grown hgr (fun q hq => .inl hq)
          have B9 : Hid (Below w3.heap.size w3 w9) := B7.out.trans (K9.below hs7 (fun q hq => (own_geB hus hq).1))
          have T9 : Hid (QX w9 (w.heap.size + 2) (.int .i64 0) (.slice none 0 0) (.slice none 0 0)) := T3.out.below B9.out (by omega)
          have Z9 : Hid (Below w.heap.size w w9) := (BH.out.trans (B3.out.mono (by omega))).trans (B9.out.mono (by omega))
          have O9 : Hid (OwnBs w9 w3.heap.size (.slice (some ⟨gg, 0, none⟩) (rs.length + 1) ggc) (rs ++ [rb])) := hob
          have hnt : nb ≠ w.heap.size + 2 := by omega
          have T10 : Hid (QX ((w9.setCell ⟨nb, 2, none⟩ (.slice (some ⟨gg, 0, none⟩) (rs.length + 1) ggc)).setCell ⟨nb, 1, none⟩ (.slice none 0 0)) (w.heap.size + 2) (.int .i64 0) (.slice none 0 0) (.slice none 0 0)) := (T9.out.other hnt.symm).other hnt.symm
          have X10 : Hid (QX ((w9.setCell ⟨nb, 2, none⟩ (.slice (some ⟨gg, 0, none⟩) (rs.length + 1) ggc)).setCell ⟨nb, 1, none⟩ (.slice none 0 0)) nb (.int .i64 n) (.slice none 0 0) (.slice (some ⟨gg, 0, none⟩) (rs.length + 1) ggc)) := (X9.out.set2 _).set1 _
          have O10 : Hid (OwnBs ((w9.setCell ⟨nb, 2, none⟩ (.slice (some ⟨gg, 0, none⟩) (rs.length + 1) ggc)).setCell ⟨nb, 1, none⟩ (.slice none 0 0)) w3.heap.size (.slice (some ⟨gg, 0, none⟩) (rs.length + 1) ggc) (rs ++ [rb])) := (O9.out.boxQ X9.out).boxQ (X9.out.set2 _)
          have Z10 : Hid (Below w.heap.size w ((w9.setCell ⟨nb, 2, none⟩ (.slice (some ⟨gg, 0, none⟩) (rs.length + 1) ggc)).setCell ⟨nb, 1, none⟩ (.slice none 0 0))) := (Z9.out.setCell (show w.heap.size ≤ nb by omega) _).setCell (show w.heap.size ≤ nb by omega) _
          obtain ⟨y0, y1, y2, y3, y4, y5⟩ := X9.out.all
          have hrn : ∃ rn, rs.length + 1 = rn := ⟨_, rfl⟩
          clear hob hgr hrun hus K9 OB HS8 HS9 ho8 hb8 C8 A8 HSD KEEP B9 O9 x0 x1 x2 x3 x4 x5 t0 t1 t2 t3 t4 t5 MR hrn
          generalize rs.length + 1 = rn at *
          show Oper.wp _ _ _ _ _ _
          go_upto_region 13 with fail
          clear y0 y1 y2 y3 y4 y5 X9 T9 Z9
          generalize (w9.setCell ⟨nb, 2, none⟩ (.slice (some ⟨gg, 0, none⟩) rn ggc)).setCell ⟨nb, 1, none⟩ (.slice none 0 0) = WX at *
          obtain ⟨x0, x1, x2, x3, x4, x5⟩ := X10.out.all
          obtain ⟨t0, t1, t2, t3, t4, t5⟩ := T10.out.all
          have HX : Hid (P (.returned (.tuple #[.agg #[.int .i64 n, .slice none 0 0, .slice (some ⟨gg, 0, none⟩) rn ggc], .int .i64 0])) (putQ WX (w.heap.size + 2) (.int .i64 n) (.slice none 0 0) (.slice (some ⟨gg, 0, none⟩) rn ggc))) := HE.out _ _ _ (by rw [EL.out]; exact World.ownsRow_nil _ _ _ _) (by rw [ER.out]; exact (OwnBs.putQ T10.out O10.out).lower (by omega)) (below_putQ Z10.out (by omega) _ _ _)
          go_wp2_with fail
          have r := (T10.out.put (.int .i64 n) (.slice none 0 0) (.slice (some ⟨gg, 0, none⟩) rn ggc)).cells
          unfold putQ at r
          obtain ⟨r0, r1, r2⟩ := r
          exact bodyPost_ret (v := .tuple #[.agg #[.int .i64 n, .slice none 0 0, .slice (some ⟨gg, 0, none⟩) rn ggc], .int .i64 0]) (by simp [results, Try.results10, go_sem, r0, r1, r2]) rfl HX.out
        · have heq : (((lo.length + 1 : Nat) : Int) == n) = false := by rw [beq_eq_false_iff_ne]; omega
          have HX : Hid (P (.returned (.tuple #[.agg #[.int .i64 n, .slice (some ⟨g, 0, none⟩) (lo.length + 1) gc, .slice ya rs.length yc], .int .i64 0])) (putQ W7 (w.heap.size + 2) (.int .i64 n) (.slice (some ⟨g, 0, none⟩) (lo.length + 1) gc) (.slice ya rs.length yc))) := HE.out _ _ _ (by rw [show looF n lo m = lo ++ [m] from if_neg hbud]; exact own_lower (T7.out.ownPut L7.out (by decide)) (by omega)) (by rw [show rnsF n lo rs m = rs from if_neg hbud]; exact (OwnBs.putQ T7.out O7.out).lower (by omega)) (below_putQ Z7.out (by omega) _ _ _)
          generalize lo.length + 1 = t9 at *
          go_wp2_with fail
          have r := (T7.out.put (.int .i64 n) (.slice (some ⟨g, 0, none⟩) t9 gc) (.slice ya rs.length yc)).cells
          unfold putQ at r
          obtain ⟨r0, r1, r2⟩ := r
          exact bodyPost_ret (v := .tuple #[.agg #[.int .i64 n, .slice (some ⟨g, 0, none⟩) t9 gc, .slice ya rs.length yc], .int .i64 0]) (by simp [results, Try.results10, go_sem, r0, r1, r2]) rfl HX.out
end Go.Proofs.Ytihghhmhgakkaaa
