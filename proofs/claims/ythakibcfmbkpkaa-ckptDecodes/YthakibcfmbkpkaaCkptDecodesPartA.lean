/-
  The box of what is saved, written as a whole; the bytes of P14.2 are bytes.
  Rows, where a box of another type is written.
  Rows of values.
  A region that draws its order, whose last operation waits for all others: the others in whatever order, then that one. (So the last one may store into what the others have read.)
  Calls in a region that draws its order: one whose result is told by a relation, one that gives up by a panic.
  Contract of ckpt.parse: what is made of a payload.
  An append of bytes, as it runs.
  Rows of the call's own that lie in other blocks.
  Contract of the closure that writes numbers in ckpt.Encode.
  Contract of ckpt.Encode: what P14.2 says.
  Contract of frame.Unwrap: payload, count of bytes and error are those of P2.3; nothing that was there is written.
  Contract of ckpt.Decode: P14.3.
  P14.3 as the document reads it: numbers all, then what they say.
  While the document's SavedOf makes what is saved: its box, and the rows behind it.
  Contract of the document's own In.
  Contracts of queue.anyBarred (its closure, slices.IndexFunc and ContainsFunc over it) and of the document's own MailMay.
  Contracts of the document's own MailAhead and IsOrdered; an insertion in plain mathematics.
  Contracts of the document's own ValueMay (at Dist) and SavedMay.
  Contracts of frame.Sum and of the document's own sum, told bit by bit: both answer P2.1.
  Contract of pacelineref.Packed: it returns the bytes of P1.1 in memory of its own; nothing else is written.
  Contract of the document's own frame: that of P2.2 in memory of its own, or the error; nothing else is written.
  Rows of numbers of the call's own: a number in them, a store into them.
  Contract of the document's own SavedBytes: what P14.2 says.
  Contract of pacelineref.Unpacked: it returns what P1.2 says of the bytes that the slice reads as, and the world is as it was.
  Contract of the document's own Unwrapped: payload, count of bytes and error are those of P2.3; nothing that was there is written.
  Contract of the document's own small.
-/
import Derived.Test.YthakibcfmbkpkaaSavedMayP
import Derived.Test.YthakibcfmbkpkaaSavedMath
import Derived.Test.YthakibcfmbkpkaaBoxMem
import Derived.Test.YthakibcfmbkpkaaRowNew
import Derived.Test.YthakibcfmbkpkaaTwoMem
import Derived.Test.YthakibcfmbkpkaaRowBase
import Derived.Deep.RegionHeld3
import Derived.Test.YthakibcfmbkpkaaSavedNum
import Derived.Test.YthakibcfmbkpkaaMailMem
import Derived.Shelf.Abstract
import Derived.Deep.CutRange
import Derived.Test.YthakibcfmbkpkaaBase
import Derived.Laws.AppendOwnNone
import Derived.Test.YthakibcfmbkpkaaKeptMem
import Derived.Test.YthakibcfmbkpkaaPutWalk
import Derived.Test.YthakibcfmbkpkaaUnwrapWalk
import Derived.Test.YthakibcfmbkpkaaOwnSlice
import Derived.Test.YthakibcfmbkpkaaBytesLib
import Derived.Test.YthakibcfmbkpkaaSavedParse
import Derived.Test.YthakibcfmbkpkaaMayBar
import Derived.Test.YthakibcfmbkpkaaMailMath
import Derived.Deep.QuietTactic
import Derived.BigQuiet
import Derived.Lib.QuietBelow
import Derived.Test.YthakibcfmbkpkaaSumWalk
import Derived.Test.YthakibcfmbkpkaaWrapWalk
import Derived.Test.YthakibcfmbkpkaaGetWalk
import Derived.Test.YthakibcfmbkpkaaNumMath
import Derived.Test.YthakibcfmbkpkaaCutBytes

namespace Go.Proofs.Ythakibcfmbkpkaa
set_option maxRecDepth 100000
open Go.ChangeShapes Go.WideShapes Go.ChangeAt Go.RowKit

def putS (w : World) (q : Nat) (a b c d e : Value) : World := ((((w.setCell ⟨q, 0, none⟩ a).setCell ⟨q, 1, none⟩ b).setCell ⟨q, 2, none⟩ c).setCell ⟨q, 3, none⟩ d).setCell ⟨q, 4, none⟩ e
theorem BX.putS {t : TypeId} {w : World} {q : Nat} {a b c d e x1 x2 x3 x4 x5 : Value} (h : BX t w q #[a, b, c, d, e]) : BX t (putS w q x1 x2 x3 x4 x5) q #[x1, x2, x3, x4, x5] := ((((h.set 0 x1).set 1 x2).set 2 x3).set 3 x4).set 4 x5
theorem kept_putS (w : World) (q : Nat) (a b c d e : Value) : Kept (fun k => k = q) w (Go.Proofs.Ythakibcfmbkpkaa.putS w q a b c d e) := ((((Kept.box _ _ _ _).trans (Kept.box _ _ _ _)).trans (Kept.box _ _ _ _)).trans (Kept.box _ _ _ _)).trans (Kept.box _ _ _ _)
theorem BX.all5f {t : TypeId} {w : World} {q : Nat} {a b c d e : Value} (h : BX t w q #[a, b, c, d, e]) : w.frozen? ⟨q, 0, none⟩ = false ∧ w.frozen? ⟨q, 1, none⟩ = false ∧ w.frozen? ⟨q, 2, none⟩ = false ∧ w.frozen? ⟨q, 3, none⟩ = false ∧ w.frozen? ⟨q, 4, none⟩ = false := ⟨h.frozen 0, h.frozen 1, h.frozen 2, h.frozen 3, h.frozen 4⟩
theorem encS_bd (s : SvS) : ∀ x ∈ (encS s).1, 0 ≤ x ∧ x ≤ 255 := by
  cases h : svMay s with
  | false => rw [encS_no h]; intro x hx; cases hx
  | true =>
    by_cases h2 : (bytN (numsS s)).length ≤ 20000
    · rw [encS_yes h h2]
      exact wrap_bytes (bytN_bytes fun n hn => ⟨(numsS_in h n hn).1, by have := (numsS_in h n hn).2; omega⟩) h2
    · rw [encS_big h h2]; intro x hx; cases hx
end Go.Proofs.Ythakibcfmbkpkaa

namespace Go.Proofs.Ythakibcfmbkpkaa
set_option maxRecDepth 100000
open Go.ChangeShapes Go.WideShapes Go.ChangeAt Go.RowKit

theorem own_off {t : TypeId} {w w' : World} {q base n size : Nat} {el : TypeId} {v : Value} {xs : List Value} {cs : Array Value} (ho : w.ownsRow base el size v n xs) (hq : BX t w q cs) (hne : el ≠ t) (hk : Kept (fun k => k = q) w w') : w'.ownsRow base el size v n xs := hk.own ho fun _ hg => own_block ho hg hq hne
end Go.Proofs.Ythakibcfmbkpkaa

namespace Go.Proofs.Ythakibcfmbkpkaa
set_option maxRecDepth 100000
open Go.ChangeShapes Go.WideShapes Go.ChangeAt Go.RowKit

theorem Try.infoV : (Try.prog.info? 43).map (fun i => (i.zero, i.size, i.bytes)) = some (some (.agg #[.int .i64 0, .int .i64 0]), 2, 16) := by kernel_rfl
def kV : ElK Ml := ⟨encM, 2, 24, 43, 16, .agg #[.int .i64 0, .int .i64 0], Try.underlying24, Try.infoV, rfl, by decide, encM_len, encM_one⟩
end Go.Proofs.Ythakibcfmbkpkaa

namespace Go.Proofs.Ythakibcfmbkpkaa
set_option maxRecDepth 100000
open Go.RowKit

/-- What the others must come to. -/
def postLast (P : Program) (o : Oper) (Q : Exit → Act → World → Prop) : Exit → Act → World → Prop
  | .normal, a, w => o.wp P a w (fun a' w' => Q .normal a' w') Q
  | e, a, w => Q e a w

/-- Each of the others waits for earlier ones alone; the last one waits for all. -/
def lastOK (md : Region.Mode) (ops : Array Oper) (o : Oper) : Bool :=
  o.guard.isNone && (List.range ops.size).all fun i =>
    (match ops[i]? with
      | some x => x.guard.isNone && x.after.toList.all (fun e => !Region.binds md e || decide (e.on < i))
      | none => false) && o.after.toList.any (fun e => Region.binds md e && e.on == i)
def lastIn (md : Region.Mode) (n : Nat) (o : Oper) : Bool := o.after.toList.all fun e => !Region.binds md e || decide (e.on < n)

section
variable {P : Program} {md : Region.Mode} {ops : Array Oper} {o : Oper} {Q : Exit → Act → World → Prop}

theorem wp_postLast {x : Oper} {a : Act} {w : World} {K : Act → World → Prop} (h : x.wp P a w K (postLast P o Q)) : x.wp P a w K Q := by
  unfold Oper.wp at *
  generalize (execOp a.eval x).run P w = r at *
  cases r with
  | ok n w' => cases n <;> exact h
  | halt e w' => cases e <;> exact h
theorem letsOut_postLast (h : LetsOut (postLast P o Q)) : LetsOut Q := h

theorem lastOK_guard (h : lastOK md ops o = true) : o.guard = none := by
  unfold lastOK at h
  rw [Bool.and_eq_true] at h
  simpa using h.1
theorem lastOK_at (h : lastOK md ops o = true) {i : Nat} {x : Oper} (hx : ops[i]? = some x) : x.guard = none ∧ (∀ e ∈ x.after, Region.binds md e = true → e.on < i) ∧ ∃ e ∈ o.after, Region.binds md e = true ∧ e.on = i := by
  unfold lastOK at h
  rw [Bool.and_eq_true] at h
  have hi : i < ops.size := (Array.getElem?_eq_some_iff.1 hx).1
  have := List.all_eq_true.1 h.2 i (List.mem_range.2 hi)
  rw [hx] at this
  simp only [Bool.and_eq_true] at this
  obtain ⟨⟨h1, h2⟩, h3⟩ := this
  refine ⟨by simpa using h1, fun e he hb => ?_, ?_⟩
  · have := List.all_eq_true.1 h2 e (Array.mem_toList_iff.2 he)
    rw [hb] at this
    simpa using this
  · obtain ⟨e, he, hb⟩ := List.any_eq_true.1 h3
    simp only [Bool.and_eq_true, beq_iff_eq] at hb
    exact ⟨e, Array.mem_toList_iff.1 he, hb.1, hb.2⟩

theorem getD_push_lt {l : Array Bool} {b d : Bool} {j : Nat} (h : j < l.size) : (l.push b).getD j d = l.getD j d := by
  simp [Array.getD, Array.getElem_push_lt h, h, Nat.lt_succ_of_lt h]
theorem getD_push_eq {l : Array Bool} {b d : Bool} : (l.push b).getD l.size d = b := by simp [Array.getD]
theorem getD_dflt {l : Array Bool} {j : Nat} (h : j < l.size) (d d' : Bool) : l.getD j d = l.getD j d' := by simp [Array.getD, h]

theorem ready_push {l : Array Bool} {b : Bool} (hs : l.size = ops.size) (h : lastOK md ops o = true) {j : Nat} (hj : j < ops.size) : j ∈ Region.ready md (ops.push o) (l.push b) ↔ j ∈ Region.ready md ops l := by
  rw [mem_ready, mem_ready, getD_push_lt (by omega)]
  have e : (ops.push o)[j]? = ops[j]? := by simp [Array.getElem?_push, Nat.ne_of_lt hj]
  rw [e]
  refine and_congr_right fun _ => ⟨?_, ?_⟩
  · rintro ⟨x, hx, ha⟩
    refine ⟨x, hx, fun e he hb => ?_⟩
    have := (lastOK_at h hx).2.1 e he hb
    have h2 := ha e he hb
    rwa [getD_push_lt (by omega)] at h2
  · rintro ⟨x, hx, ha⟩
    refine ⟨x, hx, fun e he hb => ?_⟩
    have := (lastOK_at h hx).2.1 e he hb
    rw [getD_push_lt (by omega)]
    exact ha e he hb
/-- Where nothing may come up, all have. -/
theorem ready_all {l : Array Bool} (hs : l.size = ops.size) (h : lastOK md ops o = true) (h0 : Region.ready md ops l = []) : ∀ j, j < ops.size → l.getD j false = true := by
  intro j
  induction j using Nat.strongRecOn with
  | _ j ih =>
    intro hj
    cases hl : l.getD j false
    · exfalso
      have : j ∈ Region.ready md ops l := by
        rw [mem_ready]
        refine ⟨by rw [getD_dflt (by omega) true false]; exact hl, ops[j], by simp [hj], fun e he hb => ?_⟩
        have := (lastOK_at h (Array.getElem?_eq_getElem hj)).2.1 e he hb
        exact ih e.on this (by omega)
      rw [h0] at this
      cases this
    · rfl
theorem ready_last {l : Array Bool} (hs : l.size = ops.size) (hin : lastIn md ops.size o = true) (hall : ∀ j, j < ops.size → l.getD j false = true) : ops.size ∈ Region.ready md (ops.push o) (l.push false) := by
  rw [mem_ready]
  refine ⟨by rw [← hs]; exact getD_push_eq, o, by simp, fun e he hb => ?_⟩
  have := List.all_eq_true.1 hin e (Array.mem_toList_iff.2 he)
  rw [hb] at this
  have hlt : e.on < ops.size := by simpa using this
  rw [getD_push_lt (by omega)]
  exact hall e.on hlt
theorem last_ready {l : Array Bool} (hs : l.size = ops.size) (h : lastOK md ops o = true) (hr : ops.size ∈ Region.ready md (ops.push o) (l.push false)) : Region.ready md ops l = [] := by
  rw [mem_ready] at hr
  obtain ⟨_, x, hx, ha⟩ := hr
  have ex : x = o := by simpa using hx.symm
  subst ex
  refine List.eq_nil_iff_forall_not_mem.2 fun j hj => ?_
  rw [mem_ready] at hj
  obtain ⟨h1, y, hy, _⟩ := hj
  have hjn : j < ops.size := (Array.getElem?_eq_some_iff.1 hy).1
  obtain ⟨_, _, e, he, hb, hon⟩ := lastOK_at h hy
  have := ha e he hb
  rw [hon, getD_push_lt (by omega), getD_dflt (by omega) false true, h1] at this
  cases this
theorem ready_done {l : Array Bool} (hs : l.size = ops.size) (h : lastOK md ops o = true) (h0 : Region.ready md ops l = []) : Region.ready md (ops.push o) (l.push true) = [] := by
  refine List.eq_nil_iff_forall_not_mem.2 fun j hj => ?_
  rcases Nat.lt_or_ge j ops.size with hlt | hge
  · rw [ready_push hs h hlt, h0] at hj; cases hj
  · rw [mem_ready] at hj
    obtain ⟨h1, y, hy, _⟩ := hj
    have hjn := (Array.getElem?_eq_some_iff.1 hy).1
    have ej : j = l.size := by simp at hjn; omega
    rw [ej, getD_push_eq] at h1
    cases h1

theorem wpAny_end {l : Array Bool} {a : Act} {w : World} (h0 : Region.ready md ops l = []) (h : Q .normal a w) : ∀ fuel, wpAny P md ops Q fuel l a w
  | 0 => ⟨h0, h⟩
  | _ + 1 => ⟨fun _ => h, by rw [h0]; simp⟩

theorem wpOp_last {l : Array Bool} {a : Act} {w : World} (hs : l.size = ops.size) (h : lastOK md ops o = true) (h0 : Region.ready md ops l = []) (hq : postLast P o Q .normal a w) (fuel : Nat) :
    wpOp P (ops.push o) Q ops.size (wpAny P md (ops.push o) Q fuel ((l.push false).setIfInBounds ops.size true)) a w := by
  unfold wpOp
  have e : (ops.push o)[ops.size]? = some o := by simp
  simp only [e]
  have hw : Region.wanted o (yielded (ops.push o) a.tmps) = true := by simp [Region.wanted, lastOK_guard h]
  rw [if_pos hw]
  refine .inl (Oper.wp_mono (fun a' w' h' => ?_) hq)
  have e2 : (l.push false).setIfInBounds ops.size true = l.push true := by
    rw [← hs]
    refine Array.ext_getElem? fun i => ?_
    rw [Array.getElem?_setIfInBounds, Array.getElem?_push, Array.getElem?_push]
    by_cases hi : l.size = i
    · subst hi; simp
    · simp [hi, Ne.symm hi]
  rw [e2]
  exact wpAny_end (ready_done hs h h0) h' _

theorem wpAny_last (h : lastOK md ops o = true) (hin : lastIn md ops.size o = true) : ∀ (fuel : Nat) (l : Array Bool) (a : Act) (w : World), l.size = ops.size →
    wpAny P md ops (postLast P o Q) fuel l a w → wpAny P md (ops.push o) Q (fuel + 1) (l.push false) a w := by
  intro fuel
  induction fuel with
  | zero =>
    intro l a w hs hp
    obtain ⟨h0, hq⟩ := hp
    refine ⟨fun h1 => ?_, fun i hi => ?_⟩
    · have := ready_last hs hin (ready_all hs h h0)
      rw [h1] at this; cases this
    · rcases Nat.lt_or_ge i ops.size with hlt | hge
      · rw [ready_push hs h hlt, h0] at hi; cases hi
      · have ei : i = ops.size := by
          obtain ⟨_, y, hy, _⟩ := mem_ready.1 hi
          have := (Array.getElem?_eq_some_iff.1 hy).1
          simp at this; omega
        subst ei
        exact wpOp_last hs h h0 hq _
  | succ fuel ih =>
    intro l a w hs hp
    obtain ⟨hq, hop⟩ := hp
    refine ⟨fun h1 => ?_, fun i hi => ?_⟩
    · have h0 : Region.ready md ops l = [] := List.eq_nil_iff_forall_not_mem.2 fun j hj => by
        have hjn : j < ops.size := by
          obtain ⟨_, y, hy, _⟩ := mem_ready.1 hj
          exact (Array.getElem?_eq_some_iff.1 hy).1
        have := (ready_push (b := false) hs h hjn).2 hj
        rw [h1] at this; cases this
      have := ready_last hs hin (ready_all hs h h0)
      rw [h1] at this; cases this
    · rcases Nat.lt_or_ge i ops.size with hlt | hge
      · have hi0 := (ready_push hs h hlt).1 hi
        have h1 := hop i hi0
        unfold wpOp at h1 ⊢
        have e : (ops.push o)[i]? = some ops[i] := by simp [Array.getElem?_push, Nat.ne_of_lt hlt, hlt]
        have e0 : ops[i]? = some ops[i] := by simp [hlt]
        simp only [e]
        simp only [e0] at h1
        have hg := (lastOK_at h e0).1
        have hw : ∀ t, Region.wanted ops[i] t = true := fun t => by simp [Region.wanted, hg]
        rw [if_pos (hw _)] at h1 ⊢
        have e2 : (l.push false).setIfInBounds i true = (l.setIfInBounds i true).push false := by
          refine Array.ext_getElem? fun j => ?_
          rw [Array.getElem?_setIfInBounds, Array.getElem?_push, Array.getElem?_push, Array.getElem?_setIfInBounds, Array.size_setIfInBounds, Array.size_push]
          by_cases hj : i = j
          · subst hj
            have h1 : i < l.size := by omega
            have h2 : i < l.size + 1 := by omega
            have h3 : ¬ i = l.size := by omega
            simp [h1, h2, h3]
          · simp [hj]
        rw [e2]
        rcases h1 with h1 | ⟨h1, h2⟩
        · exact .inl (wp_postLast (Oper.wp_mono (fun a' w' h' => ih _ a' w' (by simpa using hs) h') h1))
        · exact .inr ⟨h1, letsOut_postLast h2⟩
      · have ei : i = ops.size := by
          obtain ⟨_, y, hy, _⟩ := mem_ready.1 hi
          have := (Array.getElem?_eq_some_iff.1 hy).1
          simp at this; omega
        subst ei
        have h0 := last_ready hs h hi
        exact wpOp_last hs h h0 (hq h0) _

/-- The law. -/
theorem region_last {id : Nat} {a : Act} {w : World} {S : World → Prop} (hm : P.follows .mixedOrders = true) (h : lastOK .any ops o = true) (hin : lastIn .any ops.size o = true)
    (hp : wpAnyH P .any ops (postLast P o Q) S ops.size (Array.replicate ops.size false) a w.drew) : (Code.region id (ops.push o) true).wp P Q a w := by
  refine wp_region_any hm ?_
  have e1 : (ops.push o).size = ops.size + 1 := by simp
  have e2 : Array.replicate (ops.size + 1) false = (Array.replicate ops.size false).push false := Array.replicate_succ
  rw [e1, e2]
  exact wpAny_last h hin _ _ _ _ (by simp) (wpAny_of_held _ _ _ _ hp)
/-- An operation is taken first; its slot is named. -/
theorem takeH {S : World → Prop} {i : Nat} {oi : Oper} {v : Value} {d : Tmp} {fuel : Nat} {listed : Array Bool} {a : Act} {w : World} (hi : ops[i]? = some oi) (hd : oi.dst = some d)
    (hs : Region.noSelect ops = true) (hf : Region.free md ops listed i = true) (hr : (Region.ready md ops listed).contains i = true)
    (hQ : ∀ c a w, Q (.panic c) (a.put (some d) v) w → Q (.panic c) a w) (hw : Region.wanted oi (yielded ops a.tmps) = true) (hy : ∀ w, S w → (execOp a.eval oi).run P w = .ok (.value v) w) (hS : S w)
    (h : wpAnyH P md ops Q S fuel (listed.setIfInBounds i true) (a.put (some d) v) w) : wpAnyH P md ops Q S (fuel + 1) listed a w :=
  wpAnyH_take hi hs hf hr (by rw [hd]; exact hQ) (.inl ⟨hw, hy⟩) hS (by rw [hd]; exact h)
/-- Just one operation may come up, and is carried out; S is had again behind it. -/
theorem oneH {S : World → Prop} {i : Nat} {oi : Oper} {fuel : Nat} {listed : Array Bool} {a : Act} {w : World} (hi : ops[i]? = some oi) (hr : Region.ready md ops listed = [i]) (hg : oi.guard = none)
    (h : oi.wp P a w (fun a' w' => S w' ∧ wpAnyH P md ops Q S fuel (listed.setIfInBounds i true) a' w') Q) : wpAnyH P md ops Q S (fuel + 1) listed a w := by
  refine wpAnyH_all hr (by simp) fun j hj => ?_
  obtain rfl : j = i := by simpa using hj
  unfold wpOp
  simp only [hi]
  rw [if_pos (by simp [Region.wanted, hg])]
  exact .inl h
/-- A call that leaves the world as it was. -/
theorem call_same {oi : Oper} {a : Act} {w : World} {K : Act → World → Prop} {d : Tmp} {f : FuncId} {xs : Array Operand} {ats : Array TypeId} (hd : oi.dst = some d) (hop : oi.op = Op.call { callee := Callee.value (.func f), args := xs, argTypes := ats })
    (he : ∀ args w, (callFunc f args).run P w = .ok (.enter f args) w) {vs : Array Value} (hxs : xs.map a.eval = vs) {v : Value} (hc : Calls P f vs w fun e w' => e = .returned v ∧ w' = w) (hK : K (a.put (some d) v) w) : oi.wp P a w K Q := by
  unfold Oper.wp
  have hr : (execOp a.eval oi).run P w = .ok (.enter f vs) w := by
    have h2 : xs.map a.eval = vs := hxs
    simp [execOp, hop, resolve, invoke, Act.eval, Deferred.ofValue]
    have h3 := he (xs.map a.eval) w
    rw [h2] at h3
    rw [← h2] at h3 ⊢
    exact h3
  rw [hr, Oper.upon_enter]
  exact hc.mono (by rintro e w' ⟨rfl, rfl⟩; rw [hd]; exact hK)
/-- An append whose run is known. -/
theorem call_append {oi : Oper} {a : Act} {w w' : World} {K : Act → World → Prop} {d : Tmp} {s x : Operand} {t : TypeId} (hd : oi.dst = some d) (hop : oi.op = Op.call { callee := Callee.builtin Builtin.append, args := #[s, x], argTypes := #[t, t] })
    {v v2 v' : Value} (hs : a.eval s = v) (hx : a.eval x = v2) (hrun : (Builtin.append_ #[t, t] oi.type #[v, v2]).run P w = .ok v' w') (hK : K (a.put (some d) v') w') : oi.wp P a w K Q := by
  unfold Oper.wp
  simp [execOp, hop, resolve, invoke, builtin, hs, hx, hrun, Result.andThen]
  rw [Oper.upon_value, hd]
  exact hK
/-- An operation whose run is known. -/
theorem op_run {oi : Oper} {a : Act} {w w' : World} {K : Act → World → Prop} {d : Tmp} {v' : Value} (hd : oi.dst = some d) (hrun : (execOp a.eval oi).run P w = .ok (.value v') w') (hK : K (a.put (some d) v') w') : oi.wp P a w K Q := by
  unfold Oper.wp
  rw [hrun, Oper.upon_value, hd]
  exact hK
/-- The same for a region that is written out. -/
theorem region_lastF {id : Nat} {a : Act} {w : World} {S : World → Prop} (hm : P.follows .mixedOrders = true) (hf : ops.pop.push ops.back! = ops) (h : lastOK .any ops.pop ops.back! = true) (hin : lastIn .any ops.pop.size ops.back! = true)
    (hp : wpAnyH P .any ops.pop (postLast P ops.back! Q) S ops.pop.size (Array.replicate ops.pop.size false) a w.drew) : (Code.region id ops true).wp P Q a w := by
  have := region_last (id := id) hm h hin hp
  rwa [hf] at this
end
end Go.Proofs.Ythakibcfmbkpkaa

namespace Go.Proofs.Ythakibcfmbkpkaa
set_option maxRecDepth 100000
open Go.RowKit

section
variable {P : Program} {Q : Exit → Act → World → Prop}
/-- A call, its result and its world taken up. -/
theorem call_gets {oi : Oper} {a : Act} {w : World} {K : Act → World → Prop} {d : Tmp} {f : FuncId} {xs : Array Operand} {ats : Array TypeId} (hd : oi.dst = some d) (hop : oi.op = Op.call { callee := Callee.value (.func f), args := xs, argTypes := ats })
    (he : ∀ args w, (callFunc f args).run P w = .ok (.enter f args) w) {vs : Array Value} (hxs : xs.map a.eval = vs) {R : Value → World → Prop} (hc : Calls P f vs w fun e w' => ∃ v, e = .returned v ∧ R v w') (hK : ∀ v w', R v w' → K (a.put (some d) v) w') : oi.wp P a w K Q := by
  unfold Oper.wp
  have hr : (execOp a.eval oi).run P w = .ok (.enter f vs) w := by
    have h2 : xs.map a.eval = vs := hxs
    simp [execOp, hop, resolve, invoke, Act.eval, Deferred.ofValue]
    have h3 := he (xs.map a.eval) w
    rw [h2] at h3
    rw [← h2] at h3 ⊢
    exact h3
  rw [hr, Oper.upon_enter]
  exact hc.mono (by rintro e w' ⟨v, rfl, h⟩; rw [hd]; exact hK _ _ h)
/-- A call that gives up. -/
theorem call_up {oi : Oper} {a : Act} {w : World} {K : Act → World → Prop} {f : FuncId} {xs : Array Operand} {ats : Array TypeId} (hop : oi.op = Op.call { callee := Callee.value (.func f), args := xs, argTypes := ats })
    (he : ∀ args w, (callFunc f args).run P w = .ok (.enter f args) w) {vs : Array Value} (hxs : xs.map a.eval = vs) {R : World → Prop} {c : List PanicEntry} (hc : Calls P f vs w fun e w' => e = .panicked c ∧ R w') (hQ : ∀ w', R w' → Q (.panic c) a w') : oi.wp P a w K Q := by
  unfold Oper.wp
  have hr : (execOp a.eval oi).run P w = .ok (.enter f vs) w := by
    have h2 : xs.map a.eval = vs := hxs
    simp [execOp, hop, resolve, invoke, Act.eval, Deferred.ofValue]
    have h3 := he (xs.map a.eval) w
    rw [h2] at h3
    rw [← h2] at h3 ⊢
    exact h3
  rw [hr, Oper.upon_enter]
  exact hc.mono (by rintro e w' ⟨rfl, h⟩; exact hQ _ h)
/-- A store whose run is known. -/
theorem op_skip {oi : Oper} {a : Act} {w w' : World} {K : Act → World → Prop} (hd : oi.dst = none) (hrun : (execOp a.eval oi).run P w = .ok .skip w') (hK : K a w') : oi.wp P a w K Q := by
  unfold Oper.wp
  rw [hrun, Oper.upon_skip, hd]
  exact hK
/-- Just two operations may come up. -/
theorem twoH {ops : Array Oper} {md : Region.Mode} {S : World → Prop} {i j : Nat} {oi oj : Oper} {fuel : Nat} {listed : Array Bool} {a : Act} {w : World} (hi : ops[i]? = some oi) (hj : ops[j]? = some oj) (hr : Region.ready md ops listed = [i, j]) (gi : oi.guard = none) (gj : oj.guard = none)
    (h1 : oi.wp P a w (fun a' w' => S w' ∧ wpAnyH P md ops Q S fuel (listed.setIfInBounds i true) a' w') Q) (h2 : oj.wp P a w (fun a' w' => S w' ∧ wpAnyH P md ops Q S fuel (listed.setIfInBounds j true) a' w') Q) : wpAnyH P md ops Q S (fuel + 1) listed a w := by
  refine wpAnyH_all hr (by simp) fun k hk => ?_
  rcases (by simpa using hk : k = i ∨ k = j) with rfl | rfl
  · unfold wpOp
    simp only [hi]
    rw [if_pos (by simp [Region.wanted, gi])]
    exact .inl h1
  · unfold wpOp
    simp only [hj]
    rw [if_pos (by simp [Region.wanted, gj])]
    exact .inl h2
end
end Go.Proofs.Ythakibcfmbkpkaa

namespace Go.Proofs.Ythakibcfmbkpkaa
set_option maxRecDepth 100000
open Go.ChangeShapes Go.WideShapes Go.ChangeAt Go.RowKit

theorem wrap_numC (l : List Int) : IntKind.i64.wrap ((numC l).1 - 0) = (numC l).1 := by
  show IntKind.i64.wrap (IntKind.i64.wrap (get l).1 - 0) = IntKind.i64.wrap (get l).1
  rw [IntKind.wrap_i64, IntKind.wrap_i64]
  omega
theorem pairsK_zero (k : Nat) (l : List Int) : pairsK 0 (k + 1) l = ((pairsK 0 k l).1 ++ [((numC (pairsK 0 k l).2).1, (numC (numC (pairsK 0 k l).2).2).1)], (numC (numC (pairsK 0 k l).2).2).2) := by
  show ((pairsK 0 k l).1 ++ [(IntKind.i64.wrap ((numC (pairsK 0 k l).2).1 - 0), IntKind.i64.wrap ((numC (numC (pairsK 0 k l).2).2).1 - 0))], (numC (numC (pairsK 0 k l).2).2).2) = _
  rw [wrap_numC, wrap_numC]
/-- While a payload is gone through: the reader in the block B + 1, what is made in B + 2, its rows behind. -/
structure PsI (w X : World) (B : Nat) (l : List Int) (a b : Int) (c : Bool) (vv vm : Value) (vs ms : List Ml) : Prop where
  rd : RdC X (B + 1) l
  box : BX 27 X (B + 2) #[.int .i64 a, .int .i64 b, .bool c, vv, vm]
  vals : X.ownsRow (B + 3) 43 2 vv vs.length (vs.flatMap encM)
  mail : X.ownsRow (B + 3) 45 2 vm ms.length (ms.flatMap encM)
  low : Below B w X
  zero : BX 27 X B #[.int .i64 0, .int .i64 0, .bool false, .slice none 0 0, .slice none 0 0]
  size : B + 3 ≤ X.heap.size
section
variable {w X X' : World} {B : Nat} {l l' : List Int} {a b : Int} {c : Bool} {vv vm v' : Value} {vs ms l2 : List Ml}
theorem PsI.drew (h : PsI w X B l a b c vv vm vs ms) : PsI w X.drew B l a b c vv vm vs ms := ⟨h.rd.kept (Kept.refl (fun _ => False) X).drew (fun _ _ h => h), h.box, h.vals, h.mail, h.low.drew, h.zero, h.size⟩
theorem PsI.num (h : PsI w X B l a b c vv vm vs ms) (hr : RdC X' (B + 1) l') (hk : Kept (fun k => k = B + 1) X X') (hs : X'.heap.size = X.heap.size) : PsI w X' B l' a b c vv vm vs ms :=
  ⟨hr, h.box.kept hk (by omega), hk.own h.vals fun g hg e => by have := (h.vals.lt g hg).1; omega, hk.own h.mail fun g hg e => by have := (h.mail.lt g hg).1; omega, h.low.trans (hk.below (by have := h.size; omega) fun k e => by omega), h.zero.kept hk (by omega), by have := h.size; omega⟩
theorem PsI.alloc (h : PsI w X B l a b c vv vm vs ms) (ob : Obj) : PsI w (X.alloc ob) B l a b c vv vm vs ms :=
  ⟨h.rd.kept ((Kept.refl (fun _ => False) X).alloc ob) (fun _ _ h => h), h.box.below (below_alloc _ _) h.box.lt, h.vals.alloc _, h.mail.alloc _, h.low.alloc (by have := h.size; omega) _, h.zero.below (below_alloc _ _) h.zero.lt, by have := h.size; simp; omega⟩
theorem PsI.setV (h : PsI w X B l a b c vv vm vs ms) (hg : X.grownBy X' vv.ownBlock) (ho : X'.ownsRow (B + 3) 43 2 v' l2.length (l2.flatMap encM)) : BX 27 X' (B + 2) #[.int .i64 a, .int .i64 b, .bool c, vv, vm] ∧ PsI w (X'.setCell ⟨B + 2, 3, none⟩ v') B l a b c v' vm l2 ms := by
  have hk : Kept (fun k => B + 3 ≤ k) X X' := (Kept.refl _ X).grown hg fun k e => .inl (h.vals.lt k e).1
  have hs := h.size
  have hb := h.box.kept hk (by omega)
  have hm := h.mail.kept hg (own_apart h.mail h.vals (by decide))
  have hl := h.low.trans (hk.below (B := B) (by omega) fun k e => by omega)
  exact ⟨hb, (h.rd.kept hk (fun k h1 h2 => by omega)).kept (Kept.box X' (B + 2) 3 v') (fun k h1 h2 => by omega), hb.set 3 v', hb.own ho (by decide), hb.own hm (by decide), hl.setCell (by simp) _, (h.zero.kept hk (by omega)).other (by omega), by have := hk.size; simp; omega⟩
theorem PsI.setM (h : PsI w X B l a b c vv vm vs ms) (hg : X.grownBy X' vm.ownBlock) (ho : X'.ownsRow (B + 3) 45 2 v' l2.length (l2.flatMap encM)) : BX 27 X' (B + 2) #[.int .i64 a, .int .i64 b, .bool c, vv, vm] ∧ PsI w (X'.setCell ⟨B + 2, 4, none⟩ v') B l a b c vv v' vs l2 := by
  have hk : Kept (fun k => B + 3 ≤ k) X X' := (Kept.refl _ X).grown hg fun k e => .inl (h.mail.lt k e).1
  have hs := h.size
  have hb := h.box.kept hk (by omega)
  have hm := h.vals.kept hg (own_apart h.vals h.mail (by decide))
  have hl := h.low.trans (hk.below (B := B) (by omega) fun k e => by omega)
  exact ⟨hb, (h.rd.kept hk (fun k h1 h2 => by omega)).kept (Kept.box X' (B + 2) 4 v') (fun k h1 h2 => by omega), hb.set 4 v', hb.own hm (by decide), hb.own ho (by decide), hl.setCell (by simp) _, (h.zero.kept hk (by omega)).other (by omega), by have := hk.size; simp; omega⟩
end

set_option maxHeartbeats 4000000 in
set_option maxRecDepth 100000 in
theorem parse_any (v : Value) (l : List Int) (w : World) (hr : Reads .u8 w v l) (hb : ∀ a n c, v = .slice (some a) n c → a.block < w.heap.size) (hx : ∀ x ∈ l, 0 ≤ x ∧ x ≤ 255) (hl : l.length ≤ 1000000) :
    Calls Try.prog 10 #[v] w fun e w' => ∃ v1 v2, e = .returned (.agg #[.int .i64 (parseC l).step, .int .i64 (parseC l).phase, .bool (parseC l).fresh, v1, v2]) ∧ w'.ownsRow w.heap.size 43 2 v1 (parseC l).vals.length ((parseC l).vals.flatMap encM) ∧ w'.ownsRow w.heap.size 45 2 v2 (parseC l).mail.length ((parseC l).mail.flatMap encM) ∧ Below w.heap.size w w' := by
  obtain ⟨va, vc, rfl⟩ : ∃ a c, v = .slice a l.length c := by obtain ⟨a, c, e, _⟩ := hr; exact ⟨a, c, e⟩
  have HN : Hid (∀ X l, RdC X (w.heap.size + 1) l → Calls Try.prog 20 #[.pointer (some ⟨w.heap.size + 1, 0, none⟩)] X fun e w' => ∃ v, e = .returned v ∧ (v = .int .i64 (numC l).1 ∧ RdC w' (w.heap.size + 1) (numC l).2 ∧ Kept (fun k => k = w.heap.size + 1) X w' ∧ w'.heap.size = X.heap.size)) := fun X l hX => (cNumber_any _ l X hX).mono fun e w' h => ⟨_, h.1, rfl, h.2⟩
  have HC : Hid (∀ X l, RdC X (w.heap.size + 1) l → Calls Try.prog 21 #[.pointer (some ⟨w.heap.size + 1, 0, none⟩)] X fun e w' => e = .returned (.int .i64 (cntC l).1) ∧ RdC w' (w.heap.size + 1) (cntC l).2 ∧ Kept (fun k => k = w.heap.size + 1) X w' ∧ w'.heap.size = X.heap.size) := fun X l hX => cCount_any _ l X hX
  have en : ∀ args w, (callFunc 20 args).run Try.prog w = .ok (.enter 20 args) w := enters_of Try.func20 (by kernel_rfl) rfl
  obtain ⟨W0, hW0⟩ : ∃ W0, W0 = (w.alloc (.cells #[.int .i64 0, .int .i64 0, .bool false, .slice none 0 0, .slice none 0 0] 27)).alloc (.cells #[.slice va l.length vc] 51) := ⟨_, rfl⟩
  obtain ⟨Z0, Q0, B0, s1, s2⟩ := boxes2 w #[.int .i64 0, .int .i64 0, .bool false, .slice none 0 0, .slice none 0 0] #[.slice va l.length vc] 27 51 W0 hW0
  have R0 : Hid (RdC W0 (w.heap.size + 1) l) := ⟨_, Q0, hr.below B0 (Nat.le_refl _), fun a n c e => by have := hb a n c e; omega, hx⟩
  have ZH : Hid (BX 27 W0 w.heap.size #[.int .i64 0, .int .i64 0, .bool false, .slice none 0 0, .slice none 0 0]) := Z0
  have BH : Hid (Below w.heap.size w W0) := B0
  have LL : Hid (l.length ≤ 1000000) := hl
  obtain ⟨R, hR⟩ : ∃ R, R = parseC l := ⟨_, rfl⟩
  have HP : Hid (R = ⟨(numC l).1, (numC (numC l).2).1, (numC (numC (numC l).2).2).1 == 1, (pairsK 1 (cntC (numC (numC (numC l).2).2).2).1.toNat (cntC (numC (numC (numC l).2).2).2).2).1, (pairsK 0 (cntC (pairsK 1 (cntC (numC (numC (numC l).2).2).2).1.toNat (cntC (numC (numC (numC l).2).2).2).2).2).1.toNat (cntC (pairsK 1 (cntC (numC (numC (numC l).2).2).2).1.toNat (cntC (numC (numC (numC l).2).2).2).2).2).2).1⟩) := hR
  rw [← hR]
  clear hR
  have L1 := numC_len l
  have L2 := numC_len (numC l).2
  have L3 := numC_len (numC (numC l).2).2
  clear Z0 Q0 B0 hr hb hx hl
  go_enter Try.func10, Try.ntmps10
  go_upto_region 2 with fail
  rw [← hW0]
  clear hW0
  have N1 : Hid (∀ X, RdC X (w.heap.size + 1) l → Calls Try.prog 20 #[.pointer (some ⟨w.heap.size + 1, 0, none⟩)] X fun e w' => e = .returned (.int .i64 (numC l).1) ∧ RdC w' (w.heap.size + 1) (numC l).2 ∧ Kept (fun k => k = w.heap.size + 1) X w' ∧ w'.heap.size = X.heap.size) := fun X hX => cNumber_any _ _ X hX
  have N2 : Hid (∀ X, RdC X (w.heap.size + 1) (numC l).2 → Calls Try.prog 20 #[.pointer (some ⟨w.heap.size + 1, 0, none⟩)] X fun e w' => e = .returned (.int .i64 (numC (numC l).2).1) ∧ RdC w' (w.heap.size + 1) (numC (numC l).2).2 ∧ Kept (fun k => k = w.heap.size + 1) X w' ∧ w'.heap.size = X.heap.size) := fun X hX => cNumber_any _ _ X hX
  have N3 : Hid (∀ X, RdC X (w.heap.size + 1) (numC (numC l).2).2 → Calls Try.prog 20 #[.pointer (some ⟨w.heap.size + 1, 0, none⟩)] X fun e w' => e = .returned (.int .i64 (numC (numC (numC l).2).2).1) ∧ RdC w' (w.heap.size + 1) (numC (numC (numC l).2).2).2 ∧ Kept (fun k => k = w.heap.size + 1) X w' ∧ w'.heap.size = X.heap.size) := fun X hX => cNumber_any _ _ X hX
  have C1 : Hid (∀ X, RdC X (w.heap.size + 1) (numC (numC (numC l).2).2).2 → Calls Try.prog 21 #[.pointer (some ⟨w.heap.size + 1, 0, none⟩)] X fun e w' => e = .returned (.int .i64 (cntC (numC (numC (numC l).2).2).2).1) ∧ RdC w' (w.heap.size + 1) (cntC (numC (numC (numC l).2).2).2).2 ∧ Kept (fun k => k = w.heap.size + 1) X w' ∧ w'.heap.size = X.heap.size) := fun X hX => cCount_any _ _ X hX
  have LC : (cntC (numC (numC (numC l).2).2).2).1.toNat ≤ 1000000 ∧ (cntC (numC (numC (numC l).2).2).2).2.length ≤ 1000000 := by
    have h1 := LL.out
    have h4 := numC_len (numC (numC (numC l).2).2).2
    refine ⟨?_, ?_⟩
    · show (min (numC (numC (numC (numC l).2).2).2).1 _).toNat ≤ _
      omega
    · show (numC (numC (numC (numC l).2).2).2).2.length ≤ _
      omega
  generalize numC l = n1 at *
  generalize numC n1.2 = n2 at *
  generalize numC n2.2 = n3 at *
  generalize cntC n3.2 = q1 at *
  obtain ⟨na, r1⟩ := n1
  obtain ⟨nb, r2⟩ := n2
  obtain ⟨nc, r3⟩ := n3
  obtain ⟨c1, l4⟩ := q1
  simp only at LC
  obtain ⟨LC1, LC2⟩ := LC
  clear L1 L2 L3
  go_wp2_with fail
  refine (N1.out _ R0.out).mono ?_
  rintro e w1 ⟨rfl, x1, k1, z1⟩
  have X1 : Hid (RdC w1 (w.heap.size + 1) r1) := x1
  have K1 : Hid (Kept (fun k => k = w.heap.size + 1) W0 w1) := k1
  have S1 : Hid (w1.heap.size = W0.heap.size) := z1
  clear x1 k1 z1
  go_wp2_with fail
  refine (N2.out _ X1.out).mono ?_
  rintro e w2 ⟨rfl, x1, k1, z1⟩
  have X2 : Hid (RdC w2 (w.heap.size + 1) r2) := x1
  have K2 : Hid (Kept (fun k => k = w.heap.size + 1) W0 w2) := K1.out.trans k1
  have S2 : Hid (w2.heap.size = W0.heap.size) := z1.trans S1.out
  clear x1 k1 z1
  go_wp2_with fail
  refine (N3.out _ X2.out).mono ?_
  rintro e w3 ⟨rfl, x1, k1, z1⟩
  have X3 : Hid (RdC w3 (w.heap.size + 1) r3) := x1
  have K3 : Kept (fun k => k = w.heap.size + 1) W0 w3 := K2.out.trans k1
  have z3 : w3.heap.size = w.heap.size + 2 := by have := S2.out; omega
  have S3 : Hid (w3.heap.size = w.heap.size + 2) := z3
  have B3 : Below w.heap.size w w3 := BH.out.trans (K3.below (by omega) fun k e => by omega)
  have I4 : Hid (PsI w (w3.alloc (.cells #[.int .i64 na, .int .i64 nb, .bool (nc == 1), .slice none 0 0, .slice none 0 0] 27)) w.heap.size r3 na nb (nc == 1) (.slice none 0 0) (.slice none 0 0) [] []) :=
    ⟨X3.out.kept ((Kept.refl (fun _ => False) w3).alloc _) (fun _ _ h => h), by have := BX.new 27 w3 #[.int .i64 na, .int .i64 nb, .bool (nc == 1), .slice none 0 0, .slice none 0 0]; rwa [z3] at this, World.ownsRow_nil _ _ _ _, World.ownsRow_nil _ _ _ _, B3.alloc (by omega) _, (ZH.out.kept K3 (by omega)).below (below_alloc _ _) (by omega), by simp; omega⟩
  clear x1 k1 z1 z3 B3 K3
  go_upto_region 3 with fail
  rw [S3.out]
  generalize w3.alloc (.cells #[.int .i64 na, .int .i64 nb, .bool (nc == 1), .slice none 0 0, .slice none 0 0] 27) = w4 at *
  generalize (nc == 1) = fc at *
  clear X1 X2 X3 K1 K2 S1 S2 S3 N1 N2 N3 ZH BH R0
  go_wp2_with fail
  refine (C1.out _ I4.out.rd).mono ?_
  rintro e w5 ⟨rfl, x1, k1, z1⟩
  have I5 : Hid (PsI w w5 w.heap.size l4 na nb fc (.slice none 0 0) (.slice none 0 0) [] []) := I4.out.num x1 k1 z1
  clear x1 k1 z1 I4 C1
  go_wp2_with fail
  go_loopw [13] (fun i wr => ∃ (k : Nat) (vv : Value), k ≤ c1.toNat ∧ i = .int .i64 k ∧ PsI w wr w.heap.size (pairsK 1 k l4).2 na nb fc vv (.slice none 0 0) (pairsK 1 k l4).1 []) (fun i _ => c1.toNat - (intOf i).toNat)
  case atStart => exact ⟨0, _, by omega, rfl, I5.out⟩

  case round =>
    obtain ⟨k, vx, hk, rfl, hi⟩ := hrel
    have PI0 : Hid (PsI w wr w.heap.size (pairsK 1 k l4).2 na nb fc vx (.slice none 0 0) (pairsK 1 k l4).1 []) := hi
    clear hi
    by_cases hlt : k < c1.toNat
    · have hlt' : (k : Int) < c1 := by omega
      have HS : Hid (pairsK 1 (k + 1) l4 = ((pairsK 1 k l4).1 ++ [(IntKind.i64.wrap ((numC (pairsK 1 k l4).2).1 - 1), IntKind.i64.wrap ((numC (numC (pairsK 1 k l4).2).2).1 - 1))], (numC (numC (pairsK 1 k l4).2).2).2)) := rfl
      have hG0 : (pairsK 1 k l4).1.length ≤ k ∧ k ≤ (pairsK 1 k l4).1.length := by have := pairsK_count 1 l4 k; omega
      have HN1 : Hid (∀ X, RdC X (w.heap.size + 1) (pairsK 1 k l4).2 → Calls Try.prog 20 #[.pointer (some ⟨w.heap.size + 1, 0, none⟩)] X fun e w' => ∃ v, e = .returned v ∧ (v = .int .i64 (numC (pairsK 1 k l4).2).1 ∧ RdC w' (w.heap.size + 1) (numC (pairsK 1 k l4).2).2 ∧ Kept (fun k => k = w.heap.size + 1) X w' ∧ w'.heap.size = X.heap.size)) := fun X hX => HN.out X _ hX
      have HN2 : Hid (∀ X, RdC X (w.heap.size + 1) (numC (pairsK 1 k l4).2).2 → Calls Try.prog 20 #[.pointer (some ⟨w.heap.size + 1, 0, none⟩)] X fun e w' => ∃ v, e = .returned v ∧ (v = .int .i64 (numC (numC (pairsK 1 k l4).2).2).1 ∧ RdC w' (w.heap.size + 1) (numC (numC (pairsK 1 k l4).2).2).2 ∧ Kept (fun k => k = w.heap.size + 1) X w' ∧ w'.heap.size = X.heap.size)) := fun X hX => HN.out X _ hX
      generalize pairsK 1 k l4 = G at *
      obtain ⟨g1, g2⟩ := G
      simp only at hG0
      generalize numC g2 = m1 at *
      obtain ⟨m1, t1⟩ := m1
      generalize numC t1 = m2 at *
      obtain ⟨m2, t2⟩ := m2
      obtain ⟨xa, xc, rfl⟩ := (RowK.own encM_len PI0.out.vals : MlR wr vx g1).shape
      have PD : Hid (PsI w wr.drew w.heap.size g2 na nb fc (.slice xa g1.length xc) (.slice none 0 0) g1 []) := PI0.out.drew
      clear PI0
      go_upto_region 5 with fail
      refine region_lastF (S := fun V => V.cell? ⟨w.heap.size + 2, 3, none⟩ = some (.slice xa g1.length xc)) (by kernel_rfl) (by kernel_rfl) (by kernel_rfl) (by kernel_rfl) ?_
      simp only [List.pop_toArray, List.dropLast_cons_cons, List.dropLast_singleton, List.size_toArray, List.length_cons, List.length_nil, Nat.reduceAdd]
      refine takeH (i := 0) (v := .pointer (some ⟨w.heap.size + 2, 3, none⟩)) (d := 15) rfl rfl (by kernel_rfl) (by kernel_rfl) (by kernel_rfl) (fun _ _ _ h => h) (by rfl) (fun V hV => by have v1 := hV; go_simp) PD.out.box.all5.2.2.2.1 ?_
      simp only [Act.put, List.setIfInBounds_toArray, List.set_cons_zero, List.set_cons_succ]
      refine takeH (i := 1) (v := .slice xa g1.length xc) (d := 16) rfl rfl (by kernel_rfl) (by kernel_rfl) (by kernel_rfl) (fun _ _ _ h => h) (by rfl) (fun V hV => by have v1 := hV; go_simp) PD.out.box.all5.2.2.2.1 ?_
      simp only [Act.put, List.setIfInBounds_toArray, List.set_cons_zero, List.set_cons_succ]
      refine oneH (i := 2) rfl (by kernel_rfl) rfl (call_gets (d := 17) (f := 20) (xs := #[.tmp 3]) (ats := #[51]) rfl rfl en (vs := #[.pointer (some ⟨w.heap.size + 1, 0, none⟩)]) (by simp [Act.eval]) (HN1.out wr.drew PD.out.rd) ?_)
      rintro _ wa ⟨rfl, x1, k1, z1⟩
      have PA : Hid (PsI w wa w.heap.size t1 na nb fc (.slice xa g1.length xc) (.slice none 0 0) g1 []) := PD.out.num x1 k1 z1
      clear x1 k1 z1
      refine ⟨PA.out.box.all5.2.2.2.1, ?_⟩
      simp only [Act.put, List.setIfInBounds_toArray, List.set_cons_zero, List.set_cons_succ]
      refine takeH (i := 3) (v := .int .i64 (IntKind.i64.wrap (m1 - 1))) (d := 18) rfl rfl (by kernel_rfl) (by kernel_rfl) (by kernel_rfl) (fun _ _ _ h => h) (by rfl) (fun V hV => by have v1 := hV; go_simp) PA.out.box.all5.2.2.2.1 ?_
      simp only [Act.put, List.setIfInBounds_toArray, List.set_cons_zero, List.set_cons_succ]
      refine oneH (i := 4) rfl (by kernel_rfl) rfl (call_gets (d := 19) (f := 20) (xs := #[.tmp 3]) (ats := #[51]) rfl rfl en (vs := #[.pointer (some ⟨w.heap.size + 1, 0, none⟩)]) (by simp [Act.eval]) (HN2.out wa PA.out.rd) ?_)
      rintro _ wb ⟨rfl, x1, k1, z1⟩
      have PB : Hid (PsI w wb w.heap.size t2 na nb fc (.slice xa g1.length xc) (.slice none 0 0) g1 []) := PA.out.num x1 k1 z1
      clear x1 k1 z1
      refine ⟨PB.out.box.all5.2.2.2.1, ?_⟩
      simp only [Act.put, List.setIfInBounds_toArray, List.set_cons_zero, List.set_cons_succ]
      refine takeH (i := 5) (v := .int .i64 (IntKind.i64.wrap (m2 - 1))) (d := 20) rfl rfl (by kernel_rfl) (by kernel_rfl) (by kernel_rfl) (fun _ _ _ h => h) (by rfl) (fun V hV => by have v1 := hV; go_simp) PB.out.box.all5.2.2.2.1 ?_
      simp only [Act.put, List.setIfInBounds_toArray, List.set_cons_zero, List.set_cons_succ]
      refine takeH (i := 6) (v := .agg #[.int .i64 (IntKind.i64.wrap (m1 - 1)), .int .i64 (IntKind.i64.wrap (m2 - 1))]) (d := 21) rfl rfl (by kernel_rfl) (by kernel_rfl) (by kernel_rfl) (fun _ _ _ h => h) (by rfl) (fun V hV => by have v1 := hV; go_simp) PB.out.box.all5.2.2.2.1 ?_
      simp only [Act.put, List.setIfInBounds_toArray, List.set_cons_zero, List.set_cons_succ]
      have PC : Hid (PsI w (wb.alloc (.cells #[.int .i64 (IntKind.i64.wrap (m1 - 1)), .int .i64 (IntKind.i64.wrap (m2 - 1))] 43)) w.heap.size t2 na nb fc (.slice xa g1.length xc) (.slice none 0 0) g1 []) := PB.out.alloc _
      obtain ⟨g, gc, wd, hrun, hown, hgr⟩ := run_append_newK kV (w := wb.alloc (.cells #[.int .i64 (IntKind.i64.wrap (m1 - 1)), .int .i64 (IntKind.i64.wrap (m2 - 1))] 43)) 24 (w.heap.size + 3) (.slice xa g1.length xc) g1 PC.out.vals wb.heap.size (IntKind.i64.wrap (m1 - 1), IntKind.i64.wrap (m2 - 1)) #[.int .i64 (IntKind.i64.wrap (m1 - 1)), .int .i64 (IntKind.i64.wrap (m2 - 1))] rfl (0, 0) (heap_alloc_new _ _) (by simp only [kV]; omega) (by unfold maxLen; omega) PC.out.size
      obtain ⟨bd, PF0⟩ := PC.out.setV hgr hown
      have PF : Hid (PsI w (wd.setCell ⟨w.heap.size + 2, 3, none⟩ (.slice (some ⟨g, 0, none⟩) (g1.length + 1) gc)) w.heap.size t2 na nb fc (.slice (some ⟨g, 0, none⟩) (g1.length + 1) gc) (.slice none 0 0) (g1 ++ [(IntKind.i64.wrap (m1 - 1), IntKind.i64.wrap (m2 - 1))]) []) := PF0
      have cd := bd.all5.2.2.2.1
      have fd := bd.frozen 3
      clear hgr hown bd PF0
      refine oneH (i := 7) rfl (by kernel_rfl) rfl (op_run (d := 22) (v' := .slice (some ⟨wb.heap.size, 0, none⟩) 1 1) (w' := wb.alloc (.cells #[.int .i64 (IntKind.i64.wrap (m1 - 1)), .int .i64 (IntKind.i64.wrap (m2 - 1))] 43)) rfl (by go_simp) ⟨PC.out.box.all5.2.2.2.1, ?_⟩)
      simp only [Act.put, List.setIfInBounds_toArray, List.set_cons_zero, List.set_cons_succ]
      refine oneH (i := 8) rfl (by kernel_rfl) rfl (call_append (d := 23) (s := .tmp 16) (x := .tmp 22) (t := 24) rfl rfl (v := .slice xa g1.length xc) (v2 := .slice (some ⟨wb.heap.size, 0, none⟩) 1 1) (by simp [Act.eval]) (by simp [Act.eval]) hrun ⟨cd, ?_⟩)
      simp only [Act.put, List.setIfInBounds_toArray, List.set_cons_zero, List.set_cons_succ]
      refine takeH (i := 9) (v := .pointer (some ⟨w.heap.size + 2, 3, none⟩)) (d := 24) rfl rfl (by kernel_rfl) (by kernel_rfl) (by kernel_rfl) (fun _ _ _ h => h) (by rfl) (fun V hV => by have v1 := hV; go_simp) cd ?_
      simp only [Act.put, List.setIfInBounds_toArray, List.set_cons_zero, List.set_cons_succ]
      refine wpAnyH_done (by kernel_rfl) ?_ _
      clear hrun PA PB PC PD HN1 HN2
      show Oper.wp _ _ _ _ _ _
      go_wp2_with fail
      go_roundw
      case rel => exact ⟨k + 1, _, by omega, by go_num, by rw [HS.out]; exact PF.out⟩
      case measure => simp [intOf]; omega
    · have hlt' : ¬ (k : Int) < c1 := by omega
      have e0 : k = c1.toNat := by omega
      have PE0 : Hid (PsI w wr w.heap.size (pairsK 1 c1.toNat l4).2 na nb fc vx (.slice none 0 0) (pairsK 1 c1.toNat l4).1 []) := by rw [← e0]; exact PI0.out
      have C2 : Hid (∀ X, RdC X (w.heap.size + 1) (pairsK 1 c1.toNat l4).2 → Calls Try.prog 21 #[.pointer (some ⟨w.heap.size + 1, 0, none⟩)] X fun e w' => e = .returned (.int .i64 (cntC (pairsK 1 c1.toNat l4).2).1) ∧ RdC w' (w.heap.size + 1) (cntC (pairsK 1 c1.toNat l4).2).2 ∧ Kept (fun k => k = w.heap.size + 1) X w' ∧ w'.heap.size = X.heap.size) := fun X hX => cCount_any _ _ X hX
      have LD : (cntC (pairsK 1 c1.toNat l4).2).1.toNat ≤ 1000000 := by
        have h4 := numC_len (pairsK 1 c1.toNat l4).2
        have h5 := pairsK_len 1 l4 c1.toNat
        show (min (numC (pairsK 1 c1.toNat l4).2).1 _).toNat ≤ _
        omega
      clear PI0 e0 hk hlt
      go_upto_region 7 with fail
      clear hlt'
      generalize pairsK 1 c1.toNat l4 = G at *
      obtain ⟨V, l5⟩ := G
      simp only at LD
      generalize cntC l5 = q2 at *
      obtain ⟨c2, l6⟩ := q2
      simp only at LD
      obtain ⟨ua, uc, rfl⟩ := (RowK.own encM_len PE0.out.vals : MlR wr vx V).shape
      go_wp2_with fail
      refine (C2.out _ PE0.out.rd).mono ?_
      rintro e w7 ⟨rfl, x1, k1, z1⟩
      have I7 : Hid (PsI w w7 w.heap.size l6 na nb fc (.slice ua V.length uc) (.slice none 0 0) V []) := PE0.out.num x1 k1 z1
      clear x1 k1 z1 PE0 C2 I5
      go_wp2_with fail
      go_loopw [27] (fun i wr => ∃ (k : Nat) (vx : Value), k ≤ c2.toNat ∧ i = .int .i64 k ∧ PsI w wr w.heap.size (pairsK 0 k l6).2 na nb fc (.slice ua V.length uc) vx V (pairsK 0 k l6).1) (fun i _ => c2.toNat - (intOf i).toNat)
      case atStart => exact ⟨0, _, by omega, rfl, I7.out⟩
      case round =>
        obtain ⟨k, vx, hk, rfl, hi⟩ := hrel
        have PI0 : Hid (PsI w wr w.heap.size (pairsK 0 k l6).2 na nb fc (.slice ua V.length uc) vx V (pairsK 0 k l6).1) := hi
        clear hi
        by_cases hlt : k < c2.toNat
        · have hlt' : (k : Int) < c2 := by omega
          have HS : Hid (pairsK 0 (k + 1) l6 = ((pairsK 0 k l6).1 ++ [((numC (pairsK 0 k l6).2).1, (numC (numC (pairsK 0 k l6).2).2).1)], (numC (numC (pairsK 0 k l6).2).2).2)) := pairsK_zero k l6
          have hG0 : (pairsK 0 k l6).1.length ≤ k ∧ k ≤ (pairsK 0 k l6).1.length := by have := pairsK_count 0 l6 k; omega
          have HN1 : Hid (∀ X, RdC X (w.heap.size + 1) (pairsK 0 k l6).2 → Calls Try.prog 20 #[.pointer (some ⟨w.heap.size + 1, 0, none⟩)] X fun e w' => ∃ v, e = .returned v ∧ (v = .int .i64 (numC (pairsK 0 k l6).2).1 ∧ RdC w' (w.heap.size + 1) (numC (pairsK 0 k l6).2).2 ∧ Kept (fun k => k = w.heap.size + 1) X w' ∧ w'.heap.size = X.heap.size)) := fun X hX => HN.out X _ hX
          have HN2 : Hid (∀ X, RdC X (w.heap.size + 1) (numC (pairsK 0 k l6).2).2 → Calls Try.prog 20 #[.pointer (some ⟨w.heap.size + 1, 0, none⟩)] X fun e w' => ∃ v, e = .returned v ∧ (v = .int .i64 (numC (numC (pairsK 0 k l6).2).2).1 ∧ RdC w' (w.heap.size + 1) (numC (numC (pairsK 0 k l6).2).2).2 ∧ Kept (fun k => k = w.heap.size + 1) X w' ∧ w'.heap.size = X.heap.size)) := fun X hX => HN.out X _ hX
          generalize pairsK 0 k l6 = G at *
          obtain ⟨g1, g2⟩ := G
          simp only at hG0
          generalize numC g2 = m1 at *
          obtain ⟨m1, t1⟩ := m1
          generalize numC t1 = m2 at *
          obtain ⟨m2, t2⟩ := m2
          obtain ⟨xa, xc, rfl⟩ := (RowK.own encM_len PI0.out.mail : MlR wr vx g1).shape
          have PD : Hid (PsI w wr.drew w.heap.size g2 na nb fc (.slice ua V.length uc) (.slice xa g1.length xc) V g1) := PI0.out.drew
          clear PI0
          go_upto_region 9 with fail
          refine region_lastF (S := fun V => V.cell? ⟨w.heap.size + 2, 4, none⟩ = some (.slice xa g1.length xc)) (by kernel_rfl) (by kernel_rfl) (by kernel_rfl) (by kernel_rfl) ?_
          simp only [List.pop_toArray, List.dropLast_cons_cons, List.dropLast_singleton, List.size_toArray, List.length_cons, List.length_nil, Nat.reduceAdd]
          refine takeH (i := 0) (v := .pointer (some ⟨w.heap.size + 2, 4, none⟩)) (d := 29) rfl rfl (by kernel_rfl) (by kernel_rfl) (by kernel_rfl) (fun _ _ _ h => h) (by rfl) (fun V hV => by have v1 := hV; go_simp) PD.out.box.all5.2.2.2.2 ?_
          simp only [Act.put, List.setIfInBounds_toArray, List.set_cons_zero, List.set_cons_succ]
          refine takeH (i := 1) (v := .slice xa g1.length xc) (d := 30) rfl rfl (by kernel_rfl) (by kernel_rfl) (by kernel_rfl) (fun _ _ _ h => h) (by rfl) (fun V hV => by have v1 := hV; go_simp) PD.out.box.all5.2.2.2.2 ?_
          simp only [Act.put, List.setIfInBounds_toArray, List.set_cons_zero, List.set_cons_succ]
          refine oneH (i := 2) rfl (by kernel_rfl) rfl (call_gets (d := 31) (f := 20) (xs := #[.tmp 3]) (ats := #[51]) rfl rfl en (vs := #[.pointer (some ⟨w.heap.size + 1, 0, none⟩)]) (by simp [Act.eval]) (HN1.out wr.drew PD.out.rd) ?_)
          rintro _ wa ⟨rfl, x1, k1, z1⟩
          have PA : Hid (PsI w wa w.heap.size t1 na nb fc (.slice ua V.length uc) (.slice xa g1.length xc) V g1) := PD.out.num x1 k1 z1
          clear x1 k1 z1
          refine ⟨PA.out.box.all5.2.2.2.2, ?_⟩
          simp only [Act.put, List.setIfInBounds_toArray, List.set_cons_zero, List.set_cons_succ]
          refine oneH (i := 3) rfl (by kernel_rfl) rfl (call_gets (d := 32) (f := 20) (xs := #[.tmp 3]) (ats := #[51]) rfl rfl en (vs := #[.pointer (some ⟨w.heap.size + 1, 0, none⟩)]) (by simp [Act.eval]) (HN2.out wa PA.out.rd) ?_)
          rintro _ wb ⟨rfl, x1, k1, z1⟩
          have PB : Hid (PsI w wb w.heap.size t2 na nb fc (.slice ua V.length uc) (.slice xa g1.length xc) V g1) := PA.out.num x1 k1 z1
          clear x1 k1 z1
          refine ⟨PB.out.box.all5.2.2.2.2, ?_⟩
          simp only [Act.put, List.setIfInBounds_toArray, List.set_cons_zero, List.set_cons_succ]
          refine takeH (i := 4) (v := .agg #[.int .i64 (m1), .int .i64 (m2)]) (d := 33) rfl rfl (by kernel_rfl) (by kernel_rfl) (by kernel_rfl) (fun _ _ _ h => h) (by rfl) (fun V hV => by have v1 := hV; go_simp) PB.out.box.all5.2.2.2.2 ?_
          simp only [Act.put, List.setIfInBounds_toArray, List.set_cons_zero, List.set_cons_succ]
          have PC : Hid (PsI w (wb.alloc (.cells #[.int .i64 (m1), .int .i64 (m2)] 45)) w.heap.size t2 na nb fc (.slice ua V.length uc) (.slice xa g1.length xc) V g1) := PB.out.alloc _
          obtain ⟨g, gc, wd, hrun, hown, hgr⟩ := run_append_newK kM (w := wb.alloc (.cells #[.int .i64 (m1), .int .i64 (m2)] 45)) 25 (w.heap.size + 3) (.slice xa g1.length xc) g1 PC.out.mail wb.heap.size (m1, m2) #[.int .i64 (m1), .int .i64 (m2)] rfl (0, 0) (heap_alloc_new _ _) (by simp only [kM]; omega) (by unfold maxLen; omega) PC.out.size
          obtain ⟨bd, PF0⟩ := PC.out.setM hgr hown
          have PF : Hid (PsI w (wd.setCell ⟨w.heap.size + 2, 4, none⟩ (.slice (some ⟨g, 0, none⟩) (g1.length + 1) gc)) w.heap.size t2 na nb fc (.slice ua V.length uc) (.slice (some ⟨g, 0, none⟩) (g1.length + 1) gc) V (g1 ++ [(m1, m2)])) := PF0
          have cd := bd.all5.2.2.2.2
          have fd := bd.frozen 4
          clear hgr hown bd PF0
          refine oneH (i := 5) rfl (by kernel_rfl) rfl (op_run (d := 34) (v' := .slice (some ⟨wb.heap.size, 0, none⟩) 1 1) (w' := wb.alloc (.cells #[.int .i64 (m1), .int .i64 (m2)] 45)) rfl (by go_simp) ⟨PC.out.box.all5.2.2.2.2, ?_⟩)
          simp only [Act.put, List.setIfInBounds_toArray, List.set_cons_zero, List.set_cons_succ]
          refine oneH (i := 6) rfl (by kernel_rfl) rfl (call_append (d := 35) (s := .tmp 30) (x := .tmp 34) (t := 25) rfl rfl (v := .slice xa g1.length xc) (v2 := .slice (some ⟨wb.heap.size, 0, none⟩) 1 1) (by simp [Act.eval]) (by simp [Act.eval]) hrun ⟨cd, ?_⟩)
          simp only [Act.put, List.setIfInBounds_toArray, List.set_cons_zero, List.set_cons_succ]
          refine takeH (i := 7) (v := .pointer (some ⟨w.heap.size + 2, 4, none⟩)) (d := 36) rfl rfl (by kernel_rfl) (by kernel_rfl) (by kernel_rfl) (fun _ _ _ h => h) (by rfl) (fun V hV => by have v1 := hV; go_simp) cd ?_
          simp only [Act.put, List.setIfInBounds_toArray, List.set_cons_zero, List.set_cons_succ]
          refine wpAnyH_done (by kernel_rfl) ?_ _
          clear hrun PA PB PC PD HN1 HN2
          show Oper.wp _ _ _ _ _ _
          go_wp2_with fail
          go_roundw
          case rel => exact ⟨k + 1, _, by omega, by go_num, by rw [HS.out]; exact PF.out⟩
          case measure => simp [intOf]; omega
        · have hlt' : ¬ (k : Int) < c2 := by omega
          have e0 : k = c2.toNat := by omega
          have PE : Hid (PsI w wr w.heap.size (pairsK 0 c2.toNat l6).2 na nb fc (.slice ua V.length uc) vx V (pairsK 0 c2.toNat l6).1) := by rw [← e0]; exact PI0.out
          clear PI0 e0 hk hlt
          go_upto_region 11 with fail
          clear hlt'
          generalize pairsK 0 c2.toNat l6 = G at *
          obtain ⟨M, l7⟩ := G
          obtain ⟨ya, yc, rfl⟩ := (RowK.own encM_len PE.out.mail : MlR wr vx M).shape
          have RX : Hid (BX 27 (putS wr w.heap.size (.int .i64 na) (.int .i64 nb) (.bool fc) (.slice ua V.length uc) (.slice ya M.length yc)) w.heap.size #[.int .i64 na, .int .i64 nb, .bool fc, .slice ua V.length uc, .slice ya M.length yc]) := PE.out.zero.putS
          have VE : Hid ((putS wr w.heap.size (.int .i64 na) (.int .i64 nb) (.bool fc) (.slice ua V.length uc) (.slice ya M.length yc)).ownsRow w.heap.size 43 2 (.slice ua V.length uc) V.length (V.flatMap encM)) := own_lower (own_off PE.out.vals PE.out.zero (by decide) (kept_putS wr w.heap.size _ _ _ _ _)) (by omega)
          have ME : Hid ((putS wr w.heap.size (.int .i64 na) (.int .i64 nb) (.bool fc) (.slice ua V.length uc) (.slice ya M.length yc)).ownsRow w.heap.size 45 2 (.slice ya M.length yc) M.length (M.flatMap encM)) := own_lower (own_off PE.out.mail PE.out.zero (by decide) (kept_putS wr w.heap.size _ _ _ _ _)) (by omega)
          have BE : Hid (Below w.heap.size w (putS wr w.heap.size (.int .i64 na) (.int .i64 nb) (.bool fc) (.slice ua V.length uc) (.slice ya M.length yc))) := ((((PE.out.low.setCell (by simp) _).setCell (by simp) _).setCell (by simp) _).setCell (by simp) _).setCell (by simp) _
          obtain ⟨d0, d1, d2, d3, d4⟩ := PE.out.box.all5
          obtain ⟨e0, e1, e2, e3, e4⟩ := PE.out.zero.all5
          obtain ⟨f0, f1, f2, f3, f4⟩ := PE.out.zero.all5f
          go_wp2_with fail
          obtain ⟨r0, r1, r2, r3, r4⟩ := RX.out.all5
          unfold putS at r0 r1 r2 r3 r4
          refine bodyPost_ret (v := .agg #[.int .i64 na, .int .i64 nb, .bool fc, .slice ua V.length uc, .slice ya M.length yc]) (by simp [results, Try.results10, go_sem, r0, r1, r2, r3, r4]) rfl ?_
          rw [HP.out]
          exact ⟨_, _, rfl, VE.out, ME.out, BE.out⟩
end Go.Proofs.Ythakibcfmbkpkaa

namespace Go.Proofs.Ythakibcfmbkpkaa
set_option maxRecDepth 100000
open Go.ChangeShapes Go.WideShapes Go.ChangeAt Go.RowKit

/-- What an append of bytes that read comes to. -/
theorem run_append_byt {w : World} (ty : TypeId) (base : Nat) (v : Value) (xs : List Int) (hown : w.ownsRow base 5 1 v xs.length (xs.map (Value.int .u8)))
    (v2 : Value) (ys : List Int) (hr : Reads .u8 w v2 ys) (hlen : xs.length + ys.length ≤ 140737488355328) (hbase : base ≤ w.heap.size) :
    ∃ v' w', (Builtin.append_ #[22, 22] ty #[v, v2]).run Try.prog w = .ok v' w' ∧ w'.ownsRow base 5 1 v' (xs ++ ys).length ((xs ++ ys).map (Value.int .u8)) ∧ w.grownBy w' v.ownBlock := by
  obtain ⟨i0, hi, hz0, hz1, hz2⟩ := info_parts Try.info5
  obtain ⟨ad, cap, rfl, hc, hm, ha, hcell⟩ := hr
  cases ad with
  | none =>
    have hcap := ha rfl
    have : ys = [] := List.eq_nil_of_length_eq_zero (by omega)
    subst this
    subst hcap
    have h := run_append_owned_none (P := Try.prog) (w := w) base 22 ty 5 i0 1 Try.underlying22 hi v _ _ hown
    exact ⟨v, w, h, by simpa using hown, World.grownBy.refl _ _⟩
  | some p =>
    obtain ⟨v', w', h1, h2, h3, _⟩ := run_append_own w base 22 ty 5 i0 (.int .u8 0) 1 1 Try.underlying22 hi hz0 hz1 hz2 rfl (by decide) v _ _ hown p ys.length cap (ys.map (Value.int .u8)) (by simp)
      (fun j u hj => by
        obtain ⟨hj1, rfl⟩ := getD_map hj
        exact hcell p rfl j hj1) (bytes_oneCell _) (by unfold maxLen; omega) (by omega) hbase
    exact ⟨v', w', h1, by simpa using h2, h3⟩
end Go.Proofs.Ythakibcfmbkpkaa

namespace Go.Proofs.Ythakibcfmbkpkaa
set_option maxRecDepth 100000
open Go.ChangeShapes Go.WideShapes Go.ChangeAt Go.RowKit

theorem own_ge {w : World} {base n size g : Nat} {e : TypeId} {v : Value} {xs : List Value} (h : w.ownsRow base e size v n xs) (hg : v.ownBlock = some g) : base ≤ g ∧ g < w.heap.size := h.lt g hg
/-- Two slices lie in other blocks. -/
def Apt (v u : Value) : Prop := ∀ g, v.ownBlock = some g → u.ownBlock = some g → False
theorem Apt.symm {v u : Value} (h : Apt v u) : Apt u v := fun g h1 h2 => h g h2 h1
theorem Apt.or {v u : Value} (h : Apt v u) : v.ownBlock = none ∨ v.ownBlock ≠ u.ownBlock := by
  cases hv : v.ownBlock with
  | none => exact .inl rfl
  | some g => exact .inr fun e => h g hv e.symm
theorem Apt.nil (u : Value) : Apt (.slice none 0 0) u := fun g h _ => by cases h
/-- A row that lay apart from one that has grown. -/
theorem Apt.grown {w : World} {v u : Value} {g n c : Nat} {base : Nat} {e : TypeId} {size m : Nat} {xs : List Value} (h : Apt v u) (hl : v.ownBlock = some g ∨ g = w.heap.size) (hu : w.ownsRow base e size u m xs) : Apt (.slice (some ⟨g, 0, none⟩) n c) u := by
  intro q h1 h2
  injection h1 with h1
  have h1' : g = q := h1
  subst h1'
  rcases hl with h3 | h3
  · exact h g h3 h2
  · have := (own_ge hu h2).2
    omega
end Go.Proofs.Ythakibcfmbkpkaa

namespace Go.Proofs.Ythakibcfmbkpkaa
set_option maxRecDepth 100000
open Go.ChangeShapes Go.WideShapes Go.ChangeAt Go.RowKit

/-- The payload in its box. -/
structure PyI (q : Nat) (L : List Int) (pv : Value) (w : World) : Prop where
  x : BX 22 w q #[pv]
  o : w.ownsRow q 5 1 pv L.length (L.map (Value.int .u8))
theorem PyI.shape {q : Nat} {L : List Int} {pv : Value} {w : World} (h : PyI q L pv w) : ∃ a n c, pv = .slice a n c := by
  rcases h.o.2 with ⟨hv, h0⟩ | ⟨g, cap, cur, hv, _⟩
  · exact ⟨none, 0, 0, hv⟩
  · exact ⟨_, _, _, hv⟩
theorem PyI.below {q : Nat} {L : List Int} {pv : Value} {w w' : World} (h : PyI q L pv w) (hb : Below w.heap.size w w') : PyI q L pv w' := ⟨h.x.below hb h.x.lt, own_below h.o hb (Nat.le_refl _)⟩
theorem putLen_le (n : Int) : (put n).length ≤ 10 := by have := put_len n; omega

set_option maxHeartbeats 2000000 in
set_option maxRecDepth 100000 in
theorem sPut_any (q : Nat) (pv : Value) (L : List Int) (av : Value) (ns : List Int) (w : World) (h : PyI q L pv w) (ha : w.ownsRow q 3 1 av ns.length (ns.flatMap encI)) (hn : ∀ n ∈ ns, 0 ≤ n ∧ n ≤ 9223372036854775807) (hl : L.length + 10 * ns.length ≤ 1000000) :
    Calls Try.prog 23 #[av, .pointer (some ⟨q, 0, none⟩)] w fun e w' => e = .returned (.tuple #[]) ∧ (∃ pv', PyI q (L ++ bytN ns) pv' w') ∧ Below q w w' := by
  have H0 : Hid (PyI q L pv w) := h
  have HA : Hid (w.ownsRow q 3 1 av ns.length (ns.flatMap encI)) := ha
  have HN : Hid (∀ n ∈ ns, 0 ≤ n ∧ n ≤ 9223372036854775807) := hn
  have HZ : Hid (L ++ bytN (ns.take 0) = L) := by show _ = _; simp [bytN]
  obtain ⟨aa, ac, rfl⟩ := (RowK.own encI_len ha : InR w av ns).shape
  have hq := h.x.lt
  clear h ha hn
  go_enter Try.func23, Try.ntmps23
  go_wp2_with fail
  go_loopw [7] (fun i wr => ∃ (k : Nat) (pv : Value), k ≤ ns.length ∧ i = .int .i64 k ∧ PyI q (L ++ bytN (ns.take k)) pv wr ∧ wr.ownsRow q 3 1 (.slice aa ns.length ac) ns.length (ns.flatMap encI) ∧ Below q w wr) (fun i _ => ns.length - (intOf i).toNat)
  case atStart => exact ⟨0, pv, by omega, rfl, by rw [HZ.out]; exact H0.out, HA.out, Below.refl _ _⟩
  case round =>
    clear H0 HA HZ
    obtain ⟨k, pv, hk, rfl, hpy, hoa, hbel⟩ := hrel
    have PY : Hid (PyI q (L ++ bytN (ns.take k)) pv wr) := hpy
    have OA : Hid (wr.ownsRow q 3 1 (.slice aa ns.length ac) ns.length (ns.flatMap encI)) := hoa
    have AB : Hid (Below q w wr) := hbel
    obtain ⟨pa, pn, pc, rfl⟩ := hpy.shape
    have hsr := hbel.size
    have hqr := hpy.x.lt
    clear hpy hoa hbel
    by_cases hlt : k < ns.length
    · obtain ⟨b, off, cap', e1, _, _, lt, hv⟩ := InR.at (RowK.own encI_len OA.out : InR wr (.slice aa ns.length ac) ns) (by omega)
      injection e1 with e1 _ e3
      subst e1 e3
      obtain ⟨x, hx⟩ := getX hlt
      have c1 := hv k x hx
      obtain ⟨hx0, hx1⟩ := HN.out x (List.mem_of_getElem? hx)
      have HT : Hid (L ++ bytN (ns.take (k + 1)) = (L ++ bytN (ns.take k)) ++ put x) := by show _ = _; rw [take_snoc hx, bytN_app, bytN_one, List.append_assoc]
      have hll : (L ++ bytN (ns.take k)).length ≤ 1000000 := by
        have h1 := bytN_len (ns.take k)
        have h2 : (ns.take k).length ≤ ns.length := by rw [List.length_take]; omega
        rw [List.length_append]
        omega
      have hpl := putLen_le x
      have p0 : (0 : Int) ≤ (k : Int) := by omega
      have p1 : (k : Int) < (ns.length : Int) := by omega
      have wx : IntKind.u64.wrap x = x := by rw [IntKind.wrap_u64]; omega
      have CP : Hid (∀ X, Calls Try.prog 24 #[.int .u64 x] X fun e w' => ∃ v, e = .returned v ∧ (w'.ownsRow X.heap.size 5 1 v (put x).length ((put x).map (Value.int .u8)) ∧ Below X.heap.size X w')) := fun X => put_any x X hx0 (by omega)
      have ep : ∀ args w, (callFunc 24 args).run Try.prog w = .ok (.enter 24 args) w := enters_of Try.func24 (by kernel_rfl) rfl
      have HS : Hid (∀ V, Below wr.heap.size wr V → (V.cell? ⟨q, 0, none⟩ = some (.slice pa pn pc))) := fun V hV => ((PY.out.below hV).x).cell 0
      generalize L ++ bytN (ns.take k) = M at *
      clear hv hx
      go_upto_region 3 with fail
      clear c1
      have bd : Below wr.heap.size wr wr.drew := (Below.refl _ _).drew
      have HS0 : Hid (wr.drew.cell? ⟨q, 0, none⟩ = some (.slice pa pn pc)) := HS.out _ bd
      refine region_lastF (S := fun V => (V.cell? ⟨q, 0, none⟩ = some (.slice pa pn pc))) (by kernel_rfl) rfl (by kernel_rfl) (by kernel_rfl) ?_
      simp only [List.pop_toArray, List.dropLast_cons_cons, List.dropLast_singleton, List.size_toArray, List.length_cons, List.length_nil, Nat.reduceAdd]
      refine takeH (i := 0) (v := .slice pa pn pc) (d := 11) rfl rfl (by kernel_rfl) (by kernel_rfl) (by kernel_rfl) (fun _ _ _ h => h) (by rfl) (fun V hV => by have v1 := hV; go_simp) HS0.out ?_
      simp only [Act.put, List.setIfInBounds_toArray, List.set_cons_zero, List.set_cons_succ]
      refine takeH (i := 1) (v := .int .i64 x) (d := 12) rfl rfl (by kernel_rfl) (by kernel_rfl) (by kernel_rfl) (fun _ _ _ h => h) (by rfl) (fun V hV => by have v1 := hV; go_simp) HS0.out ?_
      simp only [Act.put, List.setIfInBounds_toArray, List.set_cons_zero, List.set_cons_succ]
      refine takeH (i := 2) (v := .int .u64 x) (d := 13) rfl rfl (by kernel_rfl) (by kernel_rfl) (by kernel_rfl) (fun _ _ _ h => h) (by rfl) (fun V hV => by have v1 := hV; go_simp) HS0.out ?_
      simp only [Act.put, List.setIfInBounds_toArray, List.set_cons_zero, List.set_cons_succ]
      refine oneH (i := 3) rfl (by kernel_rfl) rfl (call_gets (d := 14) (f := 24) (xs := #[.tmp 13]) (ats := #[55]) rfl rfl ep (vs := #[.int .u64 x]) (by simp [Act.eval]) (CP.out _) ?_)
      rintro vr w3 ⟨ho3, hb3⟩
      have b3 : Below wr.heap.size wr w3 := bd.trans hb3
      have HS3 : Hid (w3.cell? ⟨q, 0, none⟩ = some (.slice pa pn pc)) := HS.out _ b3
      refine ⟨HS3.out, ?_⟩
      simp only [Act.put, List.setIfInBounds_toArray, List.set_cons_zero, List.set_cons_succ]
      have py3 := PY.out.below b3
      obtain ⟨v4, w4, hrun4, hown4, hg4⟩ := run_append_byt (w := w3) 22 q (.slice pa pn pc) M py3.o vr (put x) (reads_own ho3) (by omega) (by have := b3.size; omega)
      have x4 := py3.x.grown py3.o (by decide) hg4
      have HS4 : Hid (w4.cell? ⟨q, 0, none⟩ = some (.slice pa pn pc)) := x4.cell 0
      refine oneH (i := 4) rfl (by kernel_rfl) rfl (call_append (d := 15) (s := .tmp 11) (x := .tmp 14) (t := 22) rfl rfl rfl rfl hrun4 ⟨HS4.out, ?_⟩)
      simp only [Act.put, List.setIfInBounds_toArray, List.set_cons_zero, List.set_cons_succ]
      obtain ⟨ya, yn, yc, rfl⟩ : ∃ a n c, v4 = .slice a n c := by
        rcases hown4.2 with ⟨hv, h0⟩ | ⟨g, cap, cur, hv, _⟩
        · exact ⟨none, 0, 0, hv⟩
        · exact ⟨_, _, _, hv⟩
      have kp : Kept (fun k => k = q) w4 (w4.setCell ⟨q, 0, none⟩ (.slice ya yn yc)) := Kept.box _ _ _ _
      have oa4 : w4.ownsRow q 3 1 (.slice (some ⟨b, off, none⟩) ns.length ac) ns.length (ns.flatMap encI) := (own_below OA.out b3 (Nat.le_refl _)).kept hg4 (own_apart (own_below OA.out b3 (Nat.le_refl _)) py3.o (by decide))
      have b4 : Below q w w4 := AB.out.trans ((b3.mono (by omega)).grown hg4 (by have := b3.size; omega) (fun g hg => (own_ge py3.o hg).1))
      have NW : Hid (PyI q (M ++ put x) (.slice ya yn yc) (w4.setCell ⟨q, 0, none⟩ (.slice ya yn yc)) ∧ (w4.setCell ⟨q, 0, none⟩ (.slice ya yn yc)).ownsRow q 3 1 (.slice (some ⟨b, off, none⟩) ns.length ac) ns.length (ns.flatMap encI) ∧ Below q w (w4.setCell ⟨q, 0, none⟩ (.slice ya yn yc))) := ⟨⟨x4.set 0 _, own_off hown4 x4 (by decide) kp⟩, own_off oa4 x4 (by decide) kp, b4.trans (kp.below (by have := b4.size; omega) (fun g hg => by omega))⟩
      have f4 := x4.frozen 0
      have c4 := x4.cell 0
      refine wpAnyH_done (by kernel_rfl) ?_ _
      show Oper.wp _ _ _ _ _ _
      refine op_skip (w' := w4.setCell ⟨q, 0, none⟩ (.slice ya yn yc)) rfl (by go_simp) ?_
      clear HS0 HS3 HS4 HS f4 c4 b4 oa4 kp x4 hrun4 hown4 hg4 py3 ho3 hb3 b3 bd PY OA AB
      generalize w4.setCell ⟨q, 0, none⟩ (.slice ya yn yc) = w5 at *
      go_wp2_with fail
      go_roundw
      case rel => exact ⟨k + 1, _, by omega, by go_num, by rw [HT.out]; exact NW.out.1, NW.out.2.1, NW.out.2.2⟩
      case measure => simp [intOf]; omega
    · have ek : ns.take k = ns := List.take_of_length_le (by omega)
      rw [ek] at PY
      have HP : Hid ((∃ pv', PyI q (L ++ bytN ns) pv' wr) ∧ Below q w wr) := ⟨⟨_, PY.out⟩, AB.out⟩
      clear PY AB OA ek
      go_wp2_with fail
      go_end0
      exact ⟨rfl, HP.out⟩
end Go.Proofs.Ythakibcfmbkpkaa

namespace Go.Proofs.Ythakibcfmbkpkaa
set_option maxRecDepth 100000
open Go.ChangeShapes Go.WideShapes Go.ChangeAt Go.RowKit

theorem own_lit1 (w : World) (base : Nat) (hb : base ≤ w.heap.size) (x : Int) : (w.alloc (.cells #[.int .i64 x] 3)).ownsRow base 3 1 (.slice (some ⟨w.heap.size, 0, none⟩) 1 1) ([x] : List Int).length (([x] : List Int).flatMap encI) :=
  ⟨by simp [encI], .inr ⟨w.heap.size, 1, #[.int .i64 x], rfl, hb, heap_alloc_new w _, by simp, by simp [maxLen], by simp, by simp [encI]⟩⟩
theorem own_lit2 (w : World) (base : Nat) (hb : base ≤ w.heap.size) (x y : Int) : (w.alloc (.cells #[.int .i64 x, .int .i64 y] 3)).ownsRow base 3 1 (.slice (some ⟨w.heap.size, 0, none⟩) 2 2) ([x, y] : List Int).length (([x, y] : List Int).flatMap encI) :=
  ⟨by simp [encI], .inr ⟨w.heap.size, 2, #[.int .i64 x, .int .i64 y], rfl, hb, heap_alloc_new w _, by simp, by simp [maxLen], by simp, by simp [encI]⟩⟩
theorem own_lit4 (w : World) (base : Nat) (hb : base ≤ w.heap.size) (x y z u : Int) : (w.alloc (.cells #[.int .i64 x, .int .i64 y, .int .i64 z, .int .i64 u] 3)).ownsRow base 3 1 (.slice (some ⟨w.heap.size, 0, none⟩) 4 4) ([x, y, z, u] : List Int).length (([x, y, z, u] : List Int).flatMap encI) :=
  ⟨by simp [encI], .inr ⟨w.heap.size, 4, #[.int .i64 x, .int .i64 y, .int .i64 z, .int .i64 u], rfl, hb, heap_alloc_new w _, by simp, by simp [maxLen], by simp, by simp [encI]⟩⟩
theorem own_lenB {w : World} {base : Nat} {a : Option Addr} {n c : Nat} {l : List Int} (h : w.ownsRow base 5 1 (.slice a n c) l.length (l.map (Value.int .u8))) : n = l.length := by
  rcases h.2 with ⟨hv, h0⟩ | ⟨g, cap, cur, hv, _⟩
  · injection hv with _ h1 _; omega
  · injection hv with _ h1 _
/-- What Encode answers. -/
def BytP2 (w : World) (r : List Int × Int) (e : Ending) (w' : World) : Prop := ∃ v', e = .returned (.tuple #[v', .int .i64 r.2]) ∧ w'.ownsRow w.heap.size 5 1 v' r.1.length (r.1.map (Value.int .u8)) ∧ Below w.heap.size w w'
theorem BytP2.no {w w' : World} {f : Int} (hb : Below w.heap.size w w') : BytP2 w ([], f) (.returned (.tuple #[.slice none 0 0, .int .i64 f])) w' := ⟨_, rfl, World.ownsRow_nil _ _ _ _, hb⟩

set_option maxHeartbeats 8000000 in
set_option maxRecDepth 100000 in
theorem sEnc_any (s : SvS) (vv vm : Value) (w : World) (hv : MlR w vv s.vals) (hm : MlR w vm s.mail) (hB : ∀ x ∈ s.mail, mlB x) :
    Calls Try.prog 11 #[.agg #[.int .i64 s.step, .int .i64 s.phase, .bool s.fresh, vv, vm]] w (BytP2 w (encS s)) := by
  have HV : Hid (MlR w vv s.vals) := hv
  have HM : Hid (MlR w vm s.mail) := hm
  have CM : Hid (∀ X, MlR X vv s.vals → MlR X vm s.mail → Calls Try.prog 22 #[.agg #[.int .i64 s.step, .int .i64 s.phase, .bool s.fresh, vv, vm]] X fun e w' => e = .returned (.bool (svMay s)) ∧ Below X.heap.size X w') := fun X h1 h2 => sMayBe_any s vv vm X h1 h2 hB
  obtain ⟨va, vc, rfl, hvc, hvm, _, _⟩ := hv
  obtain ⟨ma, mc, rfl, hmc, hmm, _, _⟩ := hm
  unfold maxLen at hvm hmm
  have EN : Hid (svMay s = false → encS s = ([], 9)) := encS_no
  have EB : Hid (svMay s = true → ¬ (bytN (numsS s)).length ≤ 20000 → encS s = ([], 1)) := encS_big
  have EY : Hid (svMay s = true → (bytN (numsS s)).length ≤ 20000 → encS s = (wrap (bytN (numsS s)), 0)) := encS_yes
  have NI : Hid (svMay s = true → ∀ n ∈ numsS s, 0 ≤ n ∧ n ≤ 4398046511105) := numsS_in
  have NB : Hid (svMay s = true → (0 ≤ s.step ∧ s.step ≤ 100000) ∧ (s.phase = 0 ∨ s.phase = 1) ∧ s.vals.length ≤ 200 ∧ s.mail.length ≤ 5000 ∧ (∀ x ∈ s.vals, -1 ≤ x.1 ∧ x.1 ≤ 4398046511104 ∧ -1 ≤ x.2 ∧ x.2 < 200) ∧ (∀ x ∈ s.mail, 0 ≤ x.1 ∧ x.1 < 200 ∧ 0 ≤ x.2 ∧ x.2 ≤ 4398046511104)) := fun h => by
    obtain ⟨⟨h1, h2, h3⟩, h4, h5, h6, _, h7⟩ := svMay_iff.1 h
    exact ⟨⟨h1, h2⟩, h3, h4, h6, fun x hx => valS_iff.1 (valA_iff.1 h5 x hx), fun x hx => mayM_iff.1 (mayA_iff.1 h7 x hx)⟩
  have NE : Hid (bytN (numsS s) = (((bytN [s.step, s.phase, if s.fresh then 1 else 0, (s.vals.length : Int)]) ++ bytN (pairN 1 s.vals)) ++ bytN [(s.mail.length : Int)]) ++ bytN (pairN 0 s.mail)) := by
    show _ = _
    unfold numsS
    rw [bytN_app, bytN_app, bytN_app, List.append_assoc, List.append_assoc]
  have NL : Hid ((bytN (numsS s)).length ≤ 10 * (5 + 2 * s.vals.length + 2 * s.mail.length)) := by
    have := bytN_len (numsS s)
    rw [numsS_len] at this
    exact this
  have BY : Hid (svMay s = true → ∀ x ∈ bytN (numsS s), 0 ≤ x ∧ x ≤ 255) := fun h => bytN_bytes (fun n hn => ⟨(numsS_in h n hn).1, by have := (numsS_in h n hn).2; omega⟩)
  generalize encS s = R at *
  generalize svMay s = r at *
  generalize hNN : bytN (numsS s) = NN at *
  generalize numsS s = nums at *
  clear hNN
  obtain ⟨st, ph, fr, vs, ms⟩ := s
  simp only at HV HM CM hvc hvm hmc hmm NB NE NL ⊢
  clear hB
  have X0 : BX 27 (w.alloc (.cells #[.int .i64 st, .int .i64 ph, .bool fr, .slice va vs.length vc, .slice ma ms.length mc] 27)) w.heap.size #[.int .i64 st, .int .i64 ph, .bool fr, .slice va vs.length vc, .slice ma ms.length mc] := BX.new _ _ _
  have B0 : Below w.heap.size w (w.alloc (.cells #[.int .i64 st, .int .i64 ph, .bool fr, .slice va vs.length vc, .slice ma ms.length mc] 27)) := below_alloc _ _
  go_enter Try.func11, Try.ntmps11
  go_upto_region 1 with fail
  generalize w.alloc (.cells #[.int .i64 st, .int .i64 ph, .bool fr, .slice va vs.length vc, .slice ma ms.length mc] 27) = W0 at *
  have HK0 : Hid (∀ X, Below W0.heap.size W0 X → BX 27 X w.heap.size #[.int .i64 st, .int .i64 ph, .bool fr, .slice va vs.length vc, .slice ma ms.length mc] ∧ Below w.heap.size w X ∧ MlR X (.slice va vs.length vc) vs ∧ MlR X (.slice ma ms.length mc) ms) := fun X hX => ⟨X0.below hX X0.lt, B0.trans (hX.mono B0.size), HV.out.below (B0.trans (hX.mono B0.size)) (Nat.le_refl _), HM.out.below (B0.trans (hX.mono B0.size)) (Nat.le_refl _)⟩
  have A0 : Hid (Below W0.heap.size W0 W0) := Below.refl _ _
  obtain ⟨c0, c1, c2, c3, c4⟩ := X0.all5
  clear X0 B0 HV HM
  go_wp2_with fail
  refine (CM.out _ (HK0.out _ A0.out).2.2.1 (HK0.out _ A0.out).2.2.2).mono ?_
  rintro e W1 ⟨rfl, hb1⟩
  have A1 : Hid (Below W0.heap.size W0 W1) := hb1
  obtain ⟨Q1, bw1, _, _⟩ := HK0.out _ hb1
  have BW1 : Hid (Below w.heap.size w W1) := bw1
  clear c0 c1 c2 c3 c4 hb1 bw1 CM
  obtain ⟨c0, c1, c2, c3, c4⟩ := Q1.all5
  clear Q1
  cases r
  · have e := EN.out rfl
    subst e
    have HP : Hid (BytP2 w ([], 9) (.returned (.tuple #[.slice none 0 0, .int .i64 9])) W1) := BytP2.no BW1.out
    clear EN EB EY NI NB NE NL BY
    generalize BytP2 w ([], 9) = P at *
    go_wp2_with fail
    exact HP.out
  · obtain ⟨⟨hs0, hs1⟩, hph, hvl, hml, hvb, hmb⟩ := NB.out rfl
    have HVB : Hid (∀ x ∈ vs, -1 ≤ x.1 ∧ x.1 ≤ 4398046511104 ∧ -1 ≤ x.2 ∧ x.2 < 200) := hvb
    have HMB : Hid (∀ x ∈ ms, 0 ≤ x.1 ∧ x.1 < 200 ∧ 0 ≤ x.2 ∧ x.2 ≤ 4398046511104) := hmb
    have EB2 : Hid (¬ NN.length ≤ 20000 → R = ([], 1)) := EB.out rfl
    have EY2 : Hid (NN.length ≤ 20000 → R = (wrap NN, 0)) := EY.out rfl
    have hnl := NL.out
    have HNB : Hid (∀ x ∈ NN, 0 ≤ x ∧ x ≤ 255) := BY.out rfl
    have hphb : 0 ≤ ph ∧ ph ≤ 1 := by omega
    clear hph hvb hmb EN EB EY NI NB NL BY
    have W2 : Hid (PyI W1.heap.size [] (.slice none 0 0) (W1.alloc (.cells #[.slice none 0 0] 22)) ∧ Below W1.heap.size W1 (W1.alloc (.cells #[.slice none 0 0] 22))) := ⟨⟨BX.new _ _ _, World.ownsRow_nil _ _ _ _⟩, below_alloc _ _⟩
    go_upto_region 4 with fail
    generalize W1.alloc (.cells #[.slice none 0 0] 22) = W3 at *
    have HK : Hid (∀ X, Below W1.heap.size W1 X → BX 27 X w.heap.size #[.int .i64 st, .int .i64 ph, .bool fr, .slice va vs.length vc, .slice ma ms.length mc] ∧ Below w.heap.size w X ∧ MlR X (.slice va vs.length vc) vs ∧ MlR X (.slice ma ms.length mc) ms) := fun X hX => HK0.out X (A1.out.trans (hX.mono A1.out.size))
    have hqw := BW1.out.size
    clear HK0 A0 A1 BW1
    generalize hqe : W1.heap.size = q at *
    obtain ⟨py3, b3⟩ := W2.out
    have PY3 : Hid (PyI q [] (.slice none 0 0) W3) := py3
    have A3 : Hid (Below q W1 W3) := b3
    have HS1 : Hid (W1.heap.size = q) := hqe
    obtain ⟨Q3, _, _, _⟩ := HK.out _ b3
    clear c0 c1 c2 c3 c4 py3 b3 W2 hqe
    obtain ⟨c0, c1, c2, c3, c4⟩ := Q3.all5
    clear Q3
    go_upto_if 16 with fail
    obtain ⟨fz, hfz⟩ : ∃ z : Int, (if fr then (1 : Int) else 0) = z := ⟨_, rfl⟩
    have HFZ : Hid ((if fr then (1 : Int) else 0) = fz) := hfz
    have hfb : 0 ≤ fz ∧ fz ≤ 1 := by rw [← hfz]; cases fr <;> decide
    rw [hfz] at NE
    clear hfz
    go_cut [6] from 16 to 16 (fun t wx => t = .int .i64 fz ∧ W3 = wx)
    case first =>
      cases fr
      · have e : Hid (Value.int .i64 0 = .int .i64 fz) := by show _ = _; rw [← HFZ.out]; rfl
        clear HFZ
        go_wp2_with fail
        go_meet
        case rel => exact ⟨e.out, rfl⟩
      · have e : Hid (Value.int .i64 1 = .int .i64 fz) := by show _ = _; rw [← HFZ.out]; rfl
        clear HFZ
        go_wp2_with fail
        go_meet
        case rel => exact ⟨e.out, rfl⟩
    case rest =>
    obtain ⟨rfl, rfl⟩ := hcut
    clear HFZ
    have W4 : Hid (PyI q [] (.slice none 0 0) (W3.alloc (.cells #[.int .i64 st, .int .i64 ph, .int .i64 fz, .int .i64 (vs.length : Int)] 3)) ∧ (W3.alloc (.cells #[.int .i64 st, .int .i64 ph, .int .i64 fz, .int .i64 (vs.length : Int)] 3)).ownsRow q 3 1 (.slice (some ⟨W3.heap.size, 0, none⟩) 4 4) ([st, ph, fz, (vs.length : Int)] : List Int).length (([st, ph, fz, (vs.length : Int)] : List Int).flatMap encI) ∧ Below q W1 (W3.alloc (.cells #[.int .i64 st, .int .i64 ph, .int .i64 fz, .int .i64 (vs.length : Int)] 3))) := ⟨PY3.out.below (below_alloc _ _), own_lit4 W3 q (Nat.le_of_lt PY3.out.x.lt) _ _ _ _, A3.out.alloc (Nat.le_of_lt PY3.out.x.lt) _⟩
    go_wp2_with fail
    generalize W3.alloc (.cells #[.int .i64 st, .int .i64 ph, .int .i64 fz, .int .i64 (vs.length : Int)] 3) = W5 at *
    refine (sPut_any q _ [] _ [st, ph, fz, (vs.length : Int)] W5 W4.out.1 W4.out.2.1 (fun n hn => by simp only [List.mem_cons, List.not_mem_nil, or_false] at hn; omega) (by simp)).mono ?_
    rintro e W6 ⟨rfl, ⟨pv6, hpy6⟩, hb6⟩
    have PY6 : Hid (PyI q (bytN [st, ph, fz, (vs.length : Int)]) pv6 W6) := hpy6
    have A6 : Hid (Below q W1 W6) := W4.out.2.2.trans hb6
    have HL0 : Hid ((bytN [st, ph, fz, (vs.length : Int)]).length ≤ 40) := bytN_len _
    clear hpy6 hb6 W4 PY3 A3 c0 c1 c2 c3 c4
    obtain ⟨Q6, _, _, _⟩ := HK.out _ A6.out
    obtain ⟨c0, c1, c2, c3, c4⟩ := Q6.all5
    clear Q6
    generalize bytN [st, ph, fz, (vs.length : Int)] = N0 at *
    go_wp2_with fail
    have HZ0 : Hid (N0 ++ bytN (pairN 1 (vs.take 0)) = N0) := by show _ = _; simp [pairN, bytN]
    have HLV : Hid (∀ k, k ≤ vs.length → (N0 ++ bytN (pairN 1 (vs.take k))).length ≤ 40 + 20 * vs.length) := fun k hk => by
      have h1 := bytN_len (pairN 1 (vs.take k))
      have h2 := HL0.out
      rw [pairN_len, List.length_take] at h1
      rw [List.length_append]
      omega
    go_loopw [31] (fun i wr => ∃ (k : Nat) (pv : Value), k ≤ vs.length ∧ i = .int .i64 k ∧ PyI q (N0 ++ bytN (pairN 1 (vs.take k))) pv wr ∧ Below q W1 wr) (fun i _ => vs.length - (intOf i).toNat)
    case atStart => exact ⟨0, pv6, by omega, rfl, by rw [HZ0.out]; exact PY6.out, A6.out⟩
    case round =>
      clear PY6 A6 HZ0 c0 c1 c2 c3 c4
      obtain ⟨k, pv, hk, rfl, hpy, hbel⟩ := hrel
      have PY : Hid (PyI q (N0 ++ bytN (pairN 1 (vs.take k))) pv wr) := hpy
      have AB : Hid (Below q W1 wr) := hbel
      have hqr := hpy.x.lt
      have hll := HLV.out k hk
      obtain ⟨Q7, _, MV, _⟩ := HK.out _ hbel
      clear hpy hbel
      by_cases hlt : k < vs.length
      · obtain ⟨bv, ov, cv', e5, _, _, ltv, hvv⟩ := MlR.at MV (by omega)
        injection e5 with e5 _ e6
        subst e5 e6
        obtain ⟨x, hx⟩ := getX hlt
        obtain ⟨y0, y1⟩ := hvv k x hx
        obtain ⟨g1, g2, g3, g4⟩ := HVB.out x (List.mem_of_getElem? hx)
        have HT : Hid (N0 ++ bytN (pairN 1 (vs.take (k + 1))) = (N0 ++ bytN (pairN 1 (vs.take k))) ++ bytN [x.1 + 1, x.2 + 1]) := by show _ = _; rw [take_snoc hx, pairN_app, pairN_one, bytN_app, List.append_assoc]
        have p0 : (0 : Int) ≤ (k : Int) := by omega
        have p1 : (k : Int) < (vs.length : Int) := by omega
        have w1 : IntKind.i64.wrap (x.1 + 1) = x.1 + 1 := wrap_id64 (by omega) (by omega)
        have w2 : IntKind.i64.wrap (x.2 + 1) = x.2 + 1 := wrap_id64 (by omega) (by omega)
        obtain ⟨x1, x2⟩ := x
        simp only at y0 y1 g1 g2 g3 g4 HT w1 w2
        generalize N0 ++ bytN (pairN 1 (vs.take k)) = M at *
        have xb : BX 43 (wr.alloc (.cells #[.int .i64 x1, .int .i64 x2] 43)) wr.heap.size #[.int .i64 x1, .int .i64 x2] := BX.new _ _ _
        have W8 : Hid (PyI q M pv (wr.alloc (.cells #[.int .i64 x1, .int .i64 x2] 43)) ∧ Below q W1 (wr.alloc (.cells #[.int .i64 x1, .int .i64 x2] 43))) := ⟨PY.out.below (below_alloc _ _), AB.out.alloc (Nat.le_of_lt hqr) _⟩
        clear hvv hx Q7 MV PY AB
        go_upto_region 12 with fail
        obtain ⟨m0, m1, _⟩ := xb.all2
        generalize wr.alloc (.cells #[.int .i64 x1, .int .i64 x2] 43) = W9 at *
        generalize wr.heap.size = bx at *
        obtain ⟨py9, b9⟩ := W8.out
        have W10 : Hid (PyI q M pv (W9.alloc (.cells #[.int .i64 (x1 + 1), .int .i64 (x2 + 1)] 3)) ∧ (W9.alloc (.cells #[.int .i64 (x1 + 1), .int .i64 (x2 + 1)] 3)).ownsRow q 3 1 (.slice (some ⟨W9.heap.size, 0, none⟩) 2 2) ([x1 + 1, x2 + 1] : List Int).length (([x1 + 1, x2 + 1] : List Int).flatMap encI) ∧ Below q W1 (W9.alloc (.cells #[.int .i64 (x1 + 1), .int .i64 (x2 + 1)] 3))) := ⟨py9.below (below_alloc _ _), own_lit2 W9 q (Nat.le_of_lt py9.x.lt) _ _, b9.alloc (Nat.le_of_lt py9.x.lt) _⟩
        clear xb y0 y1 py9 b9 W8
        go_wp2_with fail
        generalize W9.alloc (.cells #[.int .i64 (x1 + 1), .int .i64 (x2 + 1)] 3) = W11 at *
        refine (sPut_any q _ M _ [x1 + 1, x2 + 1] W11 W10.out.1 W10.out.2.1 (fun n hn => by simp only [List.mem_cons, List.not_mem_nil, or_false] at hn; omega) (by simp only [List.length_cons, List.length_nil]; omega)).mono ?_
        rintro e W12 ⟨rfl, ⟨pv12, hpy12⟩, hb12⟩
        have PYN : Hid (PyI q (M ++ bytN [x1 + 1, x2 + 1]) pv12 W12) := hpy12
        have AN : Hid (Below q W1 W12) := W10.out.2.2.trans hb12
        clear hpy12 hb12 W10 m0 m1
        go_wp2_with fail
        go_roundw
        case rel => exact ⟨k + 1, pv12, by omega, by go_num, by rw [HT.out]; exact PYN.out, AN.out⟩
        case measure => simp [intOf]; omega
      · have ek : vs.take k = vs := List.take_of_length_le (by omega)
        rw [ek] at PY hll
        obtain ⟨V7, rfl⟩ : ∃ V, V = wr := ⟨wr, rfl⟩
        obtain ⟨c0, c1, c2, c3, c4⟩ := Q7.all5
        generalize N0 ++ bytN (pairN 1 vs) = N1 at *
        have W13 : Hid (PyI q N1 pv (V7.alloc (.cells #[.int .i64 (ms.length : Int)] 3)) ∧ (V7.alloc (.cells #[.int .i64 (ms.length : Int)] 3)).ownsRow q 3 1 (.slice (some ⟨V7.heap.size, 0, none⟩) 1 1) ([(ms.length : Int)] : List Int).length (([(ms.length : Int)] : List Int).flatMap encI) ∧ Below q W1 (V7.alloc (.cells #[.int .i64 (ms.length : Int)] 3))) := ⟨PY.out.below (below_alloc _ _), own_lit1 V7 q (Nat.le_of_lt hqr) _, AB.out.alloc (Nat.le_of_lt hqr) _⟩
        clear ek Q7 MV PY AB HLV HVB
        go_wp2_with fail
        generalize V7.alloc (.cells #[.int .i64 (ms.length : Int)] 3) = W14 at *
        refine (sPut_any q _ N1 _ [(ms.length : Int)] W14 W13.out.1 W13.out.2.1 (fun n hn => by simp only [List.mem_cons, List.not_mem_nil, or_false] at hn; omega) (by simp only [List.length_cons, List.length_nil]; omega)).mono ?_
        rintro e W15 ⟨rfl, ⟨pv15, hpy15⟩, hb15⟩
        have PY15 : Hid (PyI q (N1 ++ bytN [(ms.length : Int)]) pv15 W15) := hpy15
        have A15 : Hid (Below q W1 W15) := W13.out.2.2.trans hb15
        have HL1 : Hid ((N1 ++ bytN [(ms.length : Int)]).length ≤ 50 + 20 * vs.length) := by
          have h1 := bytN_len [(ms.length : Int)]
          show _ ≤ _
          rw [List.length_append]
          simp only [List.length_cons, List.length_nil] at h1
          omega
        clear hpy15 hb15 W13 c0 c1 c2 c3 c4
        obtain ⟨Q15, _, _, _⟩ := HK.out _ A15.out
        obtain ⟨c0, c1, c2, c3, c4⟩ := Q15.all5
        clear Q15
        generalize N1 ++ bytN [(ms.length : Int)] = N2 at *
        go_wp2_with fail
        have HZ2 : Hid (N2 ++ bytN (pairN 0 (ms.take 0)) = N2) := by show _ = _; simp [pairN, bytN]
        have HLM : Hid (∀ k, k ≤ ms.length → (N2 ++ bytN (pairN 0 (ms.take k))).length ≤ 50 + 20 * vs.length + 20 * ms.length) := fun k hk => by
          have h1 := bytN_len (pairN 0 (ms.take k))
          have h2 := HL1.out
          rw [pairN_len, List.length_take] at h1
          rw [List.length_append]
          omega
        go_loopw [54] (fun i wr => ∃ (k : Nat) (pv : Value), k ≤ ms.length ∧ i = .int .i64 k ∧ PyI q (N2 ++ bytN (pairN 0 (ms.take k))) pv wr ∧ Below q W1 wr) (fun i _ => ms.length - (intOf i).toNat)
        case atStart => exact ⟨0, pv15, by omega, rfl, by rw [HZ2.out]; exact PY15.out, A15.out⟩
        case round =>
          clear PY15 A15 HZ2 c0 c1 c2 c3 c4
          obtain ⟨k, pv, hk, rfl, hpy, hbel⟩ := hrel
          have PY : Hid (PyI q (N2 ++ bytN (pairN 0 (ms.take k))) pv wr) := hpy
          have AB : Hid (Below q W1 wr) := hbel
          have hqr := hpy.x.lt
          have hll2 := HLM.out k hk
          obtain ⟨Q7, BW7, _, MM⟩ := HK.out _ hbel
          have hpv := hpy.shape
          clear hpy hbel
          by_cases hlt : k < ms.length
          · obtain ⟨bv, ov, cv', e5, _, _, ltv, hvv⟩ := MlR.at MM (by omega)
            injection e5 with e5 _ e6
            subst e5 e6
            obtain ⟨x, hx⟩ := getX hlt
            obtain ⟨y0, y1⟩ := hvv k x hx
            obtain ⟨g1, g2, g3, g4⟩ := HMB.out x (List.mem_of_getElem? hx)
            have HT : Hid (N2 ++ bytN (pairN 0 (ms.take (k + 1))) = (N2 ++ bytN (pairN 0 (ms.take k))) ++ bytN [x.1, x.2]) := by show _ = _; rw [take_snoc hx, pairN_app, pairN_one, bytN_app, List.append_assoc, Int.add_zero, Int.add_zero]
            have p0 : (0 : Int) ≤ (k : Int) := by omega
            have p1 : (k : Int) < (ms.length : Int) := by omega
            obtain ⟨x1, x2⟩ := x
            simp only at y0 y1 g1 g2 g3 g4 HT
            generalize N2 ++ bytN (pairN 0 (ms.take k)) = M at *
            have xb : BX 45 (wr.alloc (.cells #[.int .i64 x1, .int .i64 x2] 45)) wr.heap.size #[.int .i64 x1, .int .i64 x2] := BX.new _ _ _
            have W8 : Hid (PyI q M pv (wr.alloc (.cells #[.int .i64 x1, .int .i64 x2] 45)) ∧ Below q W1 (wr.alloc (.cells #[.int .i64 x1, .int .i64 x2] 45))) := ⟨PY.out.below (below_alloc _ _), AB.out.alloc (Nat.le_of_lt hqr) _⟩
            clear hvv hx Q7 MM PY AB BW7 hpv
            go_upto_region 18 with fail
            obtain ⟨m0, m1, _⟩ := xb.all2
            generalize wr.alloc (.cells #[.int .i64 x1, .int .i64 x2] 45) = W9 at *
            generalize wr.heap.size = bx at *
            obtain ⟨py9, b9⟩ := W8.out
            have W10 : Hid (PyI q M pv (W9.alloc (.cells #[.int .i64 x1, .int .i64 x2] 3)) ∧ (W9.alloc (.cells #[.int .i64 x1, .int .i64 x2] 3)).ownsRow q 3 1 (.slice (some ⟨W9.heap.size, 0, none⟩) 2 2) ([x1, x2] : List Int).length (([x1, x2] : List Int).flatMap encI) ∧ Below q W1 (W9.alloc (.cells #[.int .i64 x1, .int .i64 x2] 3))) := ⟨py9.below (below_alloc _ _), own_lit2 W9 q (Nat.le_of_lt py9.x.lt) _ _, b9.alloc (Nat.le_of_lt py9.x.lt) _⟩
            clear xb y0 y1 py9 b9 W8
            go_wp2_with fail
            generalize W9.alloc (.cells #[.int .i64 x1, .int .i64 x2] 3) = W11 at *
            refine (sPut_any q _ M _ [x1, x2] W11 W10.out.1 W10.out.2.1 (fun n hn => by simp only [List.mem_cons, List.not_mem_nil, or_false] at hn; omega) (by simp only [List.length_cons, List.length_nil]; omega)).mono ?_
            rintro e W12 ⟨rfl, ⟨pv12, hpy12⟩, hb12⟩
            have PYN : Hid (PyI q (M ++ bytN [x1, x2]) pv12 W12) := hpy12
            have AN : Hid (Below q W1 W12) := W10.out.2.2.trans hb12
            clear hpy12 hb12 W10 m0 m1
            go_wp2_with fail
            go_roundw
            case rel => exact ⟨k + 1, pv12, by omega, by go_num, by rw [HT.out]; exact PYN.out, AN.out⟩
            case measure => simp [intOf]; omega
          · have ek : ms.take k = ms := List.take_of_length_le (by omega)
            rw [ek] at PY
            rw [← NE.out] at PY
            obtain ⟨pa, pn, pc, rfl⟩ := hpv
            have pq := PY.out.x.cell 0
            have hpn : pn = NN.length := own_lenB PY.out.o
            have HB7 : Hid (Below w.heap.size w wr) := BW7
            have RN : Hid (Reads .u8 wr (.slice pa pn pc) NN) := reads_own PY.out.o
            subst hpn
            clear ek Q7 MM AB NE HLM HMB
            by_cases hsz : NN.length ≤ 20000
            · have HRE : Hid (R = (wrap NN, 0)) := EY2.out hsz
              have CW : Hid (∀ X, X = wr → _) := fun X (_ : X = wr) => wrap_any (.slice pa NN.length pc) NN wr RN.out HNB.out hsz
              clear EB2 EY2
              go_wp2_with fail
              refine (CW.out _ rfl).mono ?_
              rintro e W9 ⟨v9, rfl, ho9, hb9⟩
              have HP : Hid (BytP2 w R (.returned (.tuple #[v9, .int .i64 0])) W9) := by
                show BytP2 _ _ _ _
                rw [HRE.out]
                exact ⟨_, rfl, own_lower ho9 HB7.out.size, HB7.out.trans (hb9.mono HB7.out.size)⟩
              clear ho9 hb9 CW
              generalize BytP2 w R = P at *
              go_wp2_with fail
              exact HP.out
            · have HRE : Hid (R = ([], 1)) := EB2.out hsz
              have CW : Hid (∀ X, X = wr → _) := fun X (_ : X = wr) => wrap_over pa NN.length pc wr (by omega)
              clear EB2 EY2
              go_wp2_with fail
              refine (CW.out _ rfl).mono ?_
              rintro e W9 ⟨rfl, rfl⟩
              have HP : Hid (BytP2 w R (.returned (.tuple #[.slice none 0 0, .int .i64 1])) W9) := by
                show BytP2 _ _ _ _
                rw [HRE.out]
                exact BytP2.no HB7.out
              clear CW
              generalize BytP2 w R = P at *
              go_wp2_with fail
              exact HP.out
end Go.Proofs.Ythakibcfmbkpkaa

namespace Go.Proofs.Ythakibcfmbkpkaa
set_option maxRecDepth 100000
open Go.ChangeShapes Go.WideShapes Go.ChangeAt Go.RowKit

theorem unwrap_any (v : Value) (xs : List Int) (w : World) (h : Reads .u8 w v xs) (hx : ∀ x ∈ xs, 0 ≤ x ∧ x ≤ 255) :
    Calls Try.prog 9 #[v] w fun e w' =>
      ∃ v', e = .returned (.tuple #[v', .int .i64 (unwrapF xs).2.1, .int .i64 (unwrapF xs).2.2]) ∧ w'.ownsRow w.heap.size 5 1 v' (unwrapF xs).1.length ((unwrapF xs).1.map (Value.int .u8)) ∧ Below w.heap.size w w' := by
  have HR : Hid (Reads .u8 w v xs) := h
  have HX : Hid (∀ x ∈ xs, 0 ≤ x ∧ x ≤ 255) := hx
  clear h hx
  generalize hu : unwrapF xs = q at *
  have HU : Hid (unwrapF xs = q) := hu
  clear hu
  obtain ⟨q1, q2, q3⟩ := q
  go_enter Try.func9, Try.ntmps9
  go_wp2_with fail
  refine (newTable_any _).mono ?_
  rintro e w1 ⟨rfl, hT, hbel, _⟩
  have HT : Hid (Tab w1 w.heap.size) := hT
  have hs := hbel.size
  clear hT
  go_wp2_with fail
  refine (unwrap_tab _ _ xs _ HT.out (HR.out.below hbel (Nat.le_refl _)) HX.out).mono ?_
  rintro e w2 ⟨v2, rfl, hown2, hbel2⟩
  rw [HU.out] at hown2 ⊢
  have O2 : Hid (w2.ownsRow w.heap.size 5 1 v2 q1.length (q1.map (Value.int .u8))) := own_lower hown2 hs
  have B2 : Hid (Below w.heap.size w w2) := hbel.trans (hbel2.mono hs)
  clear hown2 hbel2 hbel
  go_wp2
  go_ret3
  exact ⟨v2, rfl, O2.out, B2.out⟩
end Go.Proofs.Ythakibcfmbkpkaa

namespace Go.Proofs.Ythakibcfmbkpkaa
set_option maxRecDepth 100000
open Go.ChangeShapes Go.WideShapes Go.ChangeAt Go.RowKit

theorem unwrap_len (xs : List Int) : (unwrapF xs).1.length ≤ 20000 := by
  unfold unwrapF
  split
  · simp
  · split
    · simp
    · split
      · simp
      · split
        · simp only [List.length_take]; omega
        · simp
theorem wrap_i64B (x : Int) : i64B (IntKind.i64.wrap x) := by rw [IntKind.wrap_i64]; unfold i64B; omega
theorem pairsK_mlB (d : Int) (l : List Int) : ∀ k, ∀ x ∈ (pairsK d k l).1, mlB x
  | 0, x, hx => by cases hx
  | k + 1, x, hx => by
    rcases List.mem_append.1 hx with h | h
    · exact pairsK_mlB d l k x h
    · rw [List.mem_singleton.1 h]; exact ⟨wrap_i64B _, wrap_i64B _⟩
theorem parse_mlB (l : List Int) : ∀ x ∈ (parseC l).mail, mlB x := pairsK_mlB 0 _ _
/-- Something saved that is answered, and an error. -/
def SvdP (w : World) (r : SvS × Int) (e : Ending) (w' : World) : Prop :=
  ∃ v1 v2, e = .returned (.tuple #[.agg #[.int .i64 r.1.step, .int .i64 r.1.phase, .bool r.1.fresh, v1, v2], .int .i64 r.2]) ∧ w'.ownsRow w.heap.size 43 2 v1 r.1.vals.length (r.1.vals.flatMap encM) ∧ w'.ownsRow w.heap.size 45 2 v2 r.1.mail.length (r.1.mail.flatMap encM) ∧ Below w.heap.size w w'
theorem SvdP.no {w w' : World} {f : Int} (hb : Below w.heap.size w w') : SvdP w (sv0, f) (.returned (.tuple #[.agg #[.int .i64 0, .int .i64 0, .bool false, .slice none 0 0, .slice none 0 0], .int .i64 f])) w' :=
  ⟨_, _, rfl, World.ownsRow_nil _ _ _ _, World.ownsRow_nil _ _ _ _, hb⟩
theorem below_putS {B : Nat} {w0 w : World} {q : Nat} (h : Below B w0 w) (hq : B ≤ q) (a b c d e : Value) : Below B w0 (putS w q a b c d e) := ((((h.setCell (p := ⟨q, 0, none⟩) hq a).setCell (p := ⟨q, 1, none⟩) hq b).setCell (p := ⟨q, 2, none⟩) hq c).setCell (p := ⟨q, 3, none⟩) hq d).setCell (p := ⟨q, 4, none⟩) hq e

set_option maxHeartbeats 4000000 in
set_option maxRecDepth 100000 in
theorem ckDecode_any (v : Value) (b : List Int) (w : World) (hr : Reads .u8 w v b) (hx : ∀ x ∈ b, 0 ≤ x ∧ x ≤ 255) :
    Calls Try.prog 5 #[v] w (SvdP w (decS b)) := by
  have HR : Hid (Reads .u8 w v b) := hr
  have HX : Hid (∀ x ∈ b, 0 ≤ x ∧ x ≤ 255) := hx
  obtain ⟨va, vc, rfl⟩ : ∃ a c, v = .slice a b.length c := by obtain ⟨a, c, e, _⟩ := hr; exact ⟨a, c, e⟩
  obtain ⟨W0, hW0⟩ : ∃ W0, W0 = w.alloc (.cells #[.int .i64 0, .int .i64 0, .bool false, .slice none 0 0, .slice none 0 0] 27) := ⟨_, rfl⟩
  have Q0 : BX 27 W0 w.heap.size #[.int .i64 0, .int .i64 0, .bool false, .slice none 0 0, .slice none 0 0] := by rw [hW0]; exact BX.new _ _ _
  have s1 : w.heap.size + 1 ≤ W0.heap.size := by rw [hW0]; simp
  have B0 : Hid (Below w.heap.size w W0) := by show Below _ _ _; rw [hW0]; exact below_alloc _ _
  have ZX : Hid (∀ X, Below W0.heap.size W0 X → BX 27 X w.heap.size #[.int .i64 0, .int .i64 0, .bool false, .slice none 0 0, .slice none 0 0] ∧ Below w.heap.size w X) := fun X hX => ⟨Q0.below hX (by omega), B0.out.trans (hX.mono (by omega))⟩
  have DE : Hid (¬ (unwrapF b).2.2 = 0 → decS b = (sv0, (unwrapF b).2.2)) := decS_err
  have DI : Hid ((unwrapF b).2.2 = 0 → decS b = if encS (parseC (unwrapF b).1) = (b, 0) then (parseC (unwrapF b).1, 0) else (sv0, 3)) := fun h => by unfold decS; rw [if_pos h]
  have UL := unwrap_len b
  have UB : Hid (∀ x ∈ (unwrapF b).1, 0 ≤ x ∧ x ≤ 255) := unwrapF_bytes hx
  have CU : Hid (∀ X, Reads .u8 X (.slice va b.length vc) b → Calls Try.prog 9 #[.slice va b.length vc] X fun e w' => ∃ v', e = .returned (.tuple #[v', .int .i64 (unwrapF b).2.1, .int .i64 (unwrapF b).2.2]) ∧ w'.ownsRow X.heap.size 5 1 v' (unwrapF b).1.length ((unwrapF b).1.map (Value.int .u8)) ∧ Below X.heap.size X w') := fun X hX => unwrap_any _ b X hX HX.out
  have R0 : Hid (Reads .u8 W0 (.slice va b.length vc) b) := HR.out.below B0.out (Nat.le_refl _)
  clear Q0 hr hx HR
  generalize unwrapF b = U at *
  obtain ⟨pl, us, ue⟩ := U
  simp only at UL
  have PM : Hid (∀ x ∈ (parseC pl).mail, mlB x) := parse_mlB pl
  have CP : Hid (∀ X u, Reads .u8 X u pl → (∀ a n c, u = .slice (some a) n c → a.block < X.heap.size) → Calls Try.prog 10 #[u] X _) := fun X u h1 h2 => parse_any u pl X h1 h2 UB.out (by omega)
  have EB : Hid (∀ x ∈ (encS (parseC pl)).1, 0 ≤ x ∧ x ≤ 255) := encS_bd _
  generalize parseC pl = p at *
  generalize decS b = D at *
  have CE : Hid (∀ X v1 v2, MlR X v1 p.vals → MlR X v2 p.mail → Calls Try.prog 11 #[.agg #[.int .i64 p.step, .int .i64 p.phase, .bool p.fresh, v1, v2]] X (BytP2 X (encS p))) := fun X v1 v2 h1 h2 => sEnc_any p v1 v2 X h1 h2 PM.out
  generalize encS p = E at *
  obtain ⟨eb, ee⟩ := E
  go_enter Try.func5, Try.ntmps5
  go_upto_region 1 with fail
  rw [← hW0]
  clear hW0
  go_wp2_with fail
  refine (CU.out _ R0.out).mono ?_
  rintro e w1 ⟨v1, rfl, ho1, hb1⟩
  have A1 : Hid (Below W0.heap.size W0 w1) := hb1
  have hs1 := hb1.size
  obtain ⟨pa, pc, rfl⟩ := own_slice ho1
  have R1 : Hid (Reads .u8 w1 (.slice pa pl.length pc) pl) := reads_own ho1
  have LT1 : Hid (∀ a n c, (.slice pa pl.length pc : Value) = .slice (some a) n c → a.block < w1.heap.size) := fun a n c e => by
    injection e with e
    subst e
    rcases own_shapeK ho1 with ⟨e, _⟩ | ⟨g', c', e, _, h2, _⟩
    · injection e with e; cases e
    · injection e with e; injection e with e; subst e; exact h2
  clear ho1 hb1
  by_cases hu : ue = 0
  case neg =>
    have hd := DE.out hu
    have tz : (ue != 0) = true := by simp [hu]
    obtain ⟨zz, zb⟩ := ZX.out _ A1.out
    have ZR : Hid (BX 27 (putS w1 w.heap.size (.int .i64 0) (.int .i64 0) (.bool false) (.slice none 0 0) (.slice none 0 0)) w.heap.size #[.int .i64 0, .int .i64 0, .bool false, .slice none 0 0, .slice none 0 0] ∧ Below w.heap.size w (putS w1 w.heap.size (.int .i64 0) (.int .i64 0) (.bool false) (.slice none 0 0) (.slice none 0 0))) := ⟨zz.putS, below_putS zb (Nat.le_refl _) _ _ _ _ _⟩
    obtain ⟨e0, e1, e2, e3, e4⟩ := zz.all5
    obtain ⟨f0, f1, f2, f3, f4⟩ := zz.all5f
    have HDD : Hid (D = (sv0, ue)) := hd
    clear hd zz zb
    go_wp2_with fail
    obtain ⟨r0, r1, r2, r3, r4⟩ := ZR.out.1.all5
    unfold putS at r0 r1 r2 r3 r4
    refine bodyPost_ret (v := .tuple #[.agg #[.int .i64 0, .int .i64 0, .bool false, .slice none 0 0, .slice none 0 0], .int .i64 ue]) (by simp [results, Try.results5, go_sem, r0, r1, r2, r3, r4]) rfl ?_
    rw [HDD.out]
    exact SvdP.no ZR.out.2
  case pos =>
    subst hu
    have HDI : Hid (D = if (eb, ee) = (b, 0) then (p, 0) else (sv0, 3)) := DI.out rfl
    clear DE DI
    go_upto_region 4 with fail
    go_wp2_with fail
    refine (CP.out _ _ R1.out LT1.out).mono ?_
    rintro e w2 ⟨u1, u2, rfl, hu1, hu2, hb2⟩
    have V2 : MlR w2 u1 p.vals := RowK.own encM_len hu1
    have M2 : MlR w2 u2 p.mail := RowK.own encM_len hu2
    obtain ⟨vb, vd, rfl⟩ := V2.shape
    obtain ⟨mb, md, rfl⟩ := M2.shape
    have A2 : Below W0.heap.size W0 w2 := A1.out.trans (hb2.mono hs1)
    have N3 : Hid (Below W0.heap.size W0 (w2.alloc (.cells #[.int .i64 p.step, .int .i64 p.phase, .bool p.fresh, .slice vb p.vals.length vd, .slice mb p.mail.length md] 27)) ∧ BX 27 (w2.alloc (.cells #[.int .i64 p.step, .int .i64 p.phase, .bool p.fresh, .slice vb p.vals.length vd, .slice mb p.mail.length md] 27)) w2.heap.size #[.int .i64 p.step, .int .i64 p.phase, .bool p.fresh, .slice vb p.vals.length vd, .slice mb p.mail.length md] ∧ (w2.alloc (.cells #[.int .i64 p.step, .int .i64 p.phase, .bool p.fresh, .slice vb p.vals.length vd, .slice mb p.mail.length md] 27)).ownsRow W0.heap.size 43 2 (.slice vb p.vals.length vd) p.vals.length (p.vals.flatMap encM) ∧ (w2.alloc (.cells #[.int .i64 p.step, .int .i64 p.phase, .bool p.fresh, .slice vb p.vals.length vd, .slice mb p.mail.length md] 27)).ownsRow W0.heap.size 45 2 (.slice mb p.mail.length md) p.mail.length (p.mail.flatMap encM)) := ⟨A2.alloc A2.size _, BX.new _ _ _, own_lower (hu1.alloc _) hs1, own_lower (hu2.alloc _) hs1⟩
    clear hu1 hu2 hb2 V2 M2 A2 CP
    go_upto_region 5 with fail
    generalize (w2.alloc (.cells #[.int .i64 p.step, .int .i64 p.phase, .bool p.fresh, .slice vb p.vals.length vd, .slice mb p.mail.length md] 27)) = w3 at *
    generalize w2.heap.size = b3 at *
    obtain ⟨A3', X3', V3', M3'⟩ := N3.out
    have A3 : Hid (Below W0.heap.size W0 w3) := A3'
    have X3 : Hid (BX 27 w3 b3 #[.int .i64 p.step, .int .i64 p.phase, .bool p.fresh, .slice vb p.vals.length vd, .slice mb p.mail.length md]) := X3'
    have V3 : Hid (w3.ownsRow W0.heap.size 43 2 (.slice vb p.vals.length vd) p.vals.length (p.vals.flatMap encM)) := V3'
    have M3 : Hid (w3.ownsRow W0.heap.size 45 2 (.slice mb p.mail.length md) p.mail.length (p.mail.flatMap encM)) := M3'
    have hs3 := A3'.size
    obtain ⟨c0, c1, c2, c3, c4⟩ := X3'.all5
    clear A3' X3' V3' M3' N3
    go_wp2_with fail
    refine (CE.out _ _ _ (RowK.own encM_len V3.out) (RowK.own encM_len M3.out)).mono ?_
    rintro e w4 ⟨ve, rfl, ho4, hb4⟩
    obtain ⟨ea, ec, rfl⟩ := own_slice ho4
    have R4 : Hid (Reads .u8 w4 (.slice ea eb.length ec) eb) := reads_own ho4
    have A4 : Hid (Below W0.heap.size W0 w4) := A3.out.trans (hb4.mono hs3)
    have X4 : Hid (BX 27 w4 b3 #[.int .i64 p.step, .int .i64 p.phase, .bool p.fresh, .slice vb p.vals.length vd, .slice mb p.mail.length md]) := X3.out.below hb4 X3.out.lt
    have V4 : Hid (w4.ownsRow W0.heap.size 43 2 (.slice vb p.vals.length vd) p.vals.length (p.vals.flatMap encM)) := own_below V3.out hb4 (Nat.le_refl _)
    have M4 : Hid (w4.ownsRow W0.heap.size 45 2 (.slice mb p.mail.length md) p.mail.length (p.mail.flatMap encM)) := own_below M3.out hb4 (Nat.le_refl _)
    have RB : Hid (Reads .u8 w4 (.slice va b.length vc) b) := R0.out.below A4.out (Nat.le_refl _)
    obtain ⟨zz, zb⟩ := ZX.out _ A4.out
    have ZR : Hid (BX 27 (putS w4 w.heap.size (.int .i64 0) (.int .i64 0) (.bool false) (.slice none 0 0) (.slice none 0 0)) w.heap.size #[.int .i64 0, .int .i64 0, .bool false, .slice none 0 0, .slice none 0 0] ∧ Below w.heap.size w (putS w4 w.heap.size (.int .i64 0) (.int .i64 0) (.bool false) (.slice none 0 0) (.slice none 0 0))) := ⟨zz.putS, below_putS zb (Nat.le_refl _) _ _ _ _ _⟩
    have ZY : Hid (BX 27 (putS w4 w.heap.size (.int .i64 p.step) (.int .i64 p.phase) (.bool p.fresh) (.slice vb p.vals.length vd) (.slice mb p.mail.length md)) w.heap.size #[.int .i64 p.step, .int .i64 p.phase, .bool p.fresh, .slice vb p.vals.length vd, .slice mb p.mail.length md] ∧ (putS w4 w.heap.size (.int .i64 p.step) (.int .i64 p.phase) (.bool p.fresh) (.slice vb p.vals.length vd) (.slice mb p.mail.length md)).ownsRow w.heap.size 43 2 (.slice vb p.vals.length vd) p.vals.length (p.vals.flatMap encM) ∧ (putS w4 w.heap.size (.int .i64 p.step) (.int .i64 p.phase) (.bool p.fresh) (.slice vb p.vals.length vd) (.slice mb p.mail.length md)).ownsRow w.heap.size 45 2 (.slice mb p.mail.length md) p.mail.length (p.mail.flatMap encM) ∧ Below w.heap.size w (putS w4 w.heap.size (.int .i64 p.step) (.int .i64 p.phase) (.bool p.fresh) (.slice vb p.vals.length vd) (.slice mb p.mail.length md))) := ⟨zz.putS, own_lower (own_off V4.out zz (by decide) (kept_putS w4 w.heap.size _ _ _ _ _)) (by omega), own_lower (own_off M4.out zz (by decide) (kept_putS w4 w.heap.size _ _ _ _ _)) (by omega), below_putS zb (Nat.le_refl _) _ _ _ _ _⟩
    have ZZ : Hid (BX 27 w4 w.heap.size #[.int .i64 0, .int .i64 0, .bool false, .slice none 0 0, .slice none 0 0]) := zz
    clear c0 c1 c2 c3 c4 zz zb ho4 hb4 CE
    by_cases he : ee = 0
    case neg =>
      have HDD : Hid (D = (sv0, 3)) := by show _ = _; rw [HDI.out, if_neg (fun h => he (Prod.mk.inj h).2)]
      have tz : (ee != 0) = true := by simp [he]
      obtain ⟨e0, e1, e2, e3, e4⟩ := ZZ.out.all5
      obtain ⟨f0, f1, f2, f3, f4⟩ := ZZ.out.all5f
      go_wp2_with fail
      obtain ⟨r0, r1, r2, r3, r4⟩ := ZR.out.1.all5
      unfold putS at r0 r1 r2 r3 r4
      refine bodyPost_ret (v := .tuple #[.agg #[.int .i64 0, .int .i64 0, .bool false, .slice none 0 0, .slice none 0 0], .int .i64 3]) (by simp [results, Try.results5, go_sem, r0, r1, r2, r3, r4]) rfl ?_
      rw [HDD.out]
      exact SvdP.no ZR.out.2
    case pos =>
      subst he
      go_upto_region 6 with fail
      go_wp2_with fail
      refine (bytesEqual_any _ _ eb b _ R4.out RB.out EB.out HX.out).mono ?_
      rintro e w5 ⟨rfl, e5⟩
      have e5' : w4 = w5 := e5.symm
      subst e5'
      clear e5
      obtain ⟨e0, e1, e2, e3, e4⟩ := ZZ.out.all5
      obtain ⟨f0, f1, f2, f3, f4⟩ := ZZ.out.all5f
      by_cases hq : eb = b
      case neg =>
        have HDD : Hid (D = (sv0, 3)) := by show _ = _; rw [HDI.out, if_neg (fun h => hq (Prod.mk.inj h).1)]
        have tq : decide (eb = b) = false := by simp [hq]
        rw [tq]
        clear hq
        go_wp2_with fail
        obtain ⟨r0, r1, r2, r3, r4⟩ := ZR.out.1.all5
        unfold putS at r0 r1 r2 r3 r4
        refine bodyPost_ret (v := .tuple #[.agg #[.int .i64 0, .int .i64 0, .bool false, .slice none 0 0, .slice none 0 0], .int .i64 3]) (by simp [results, Try.results5, go_sem, r0, r1, r2, r3, r4]) rfl ?_
        rw [HDD.out]
        exact SvdP.no ZR.out.2
      case pos =>
        have HDD : Hid (D = (p, 0)) := by show _ = _; rw [HDI.out, if_pos (by rw [hq])]
        have tq : decide (eb = b) = true := by simp [hq]
        rw [tq]
        clear hq
        obtain ⟨c0, c1, c2, c3, c4⟩ := X4.out.all5
        go_wp2_with fail
        obtain ⟨r0, r1, r2, r3, r4⟩ := ZY.out.1.all5
        unfold putS at r0 r1 r2 r3 r4
        refine bodyPost_ret (v := .tuple #[.agg #[.int .i64 p.step, .int .i64 p.phase, .bool p.fresh, .slice vb p.vals.length vd, .slice mb p.mail.length md], .int .i64 0]) (by simp [results, Try.results5, go_sem, r0, r1, r2, r3, r4]) rfl ?_
        rw [HDD.out]
        exact ⟨_, _, rfl, ZY.out.2.1, ZY.out.2.2.1, ZY.out.2.2.2⟩
end Go.Proofs.Ythakibcfmbkpkaa

namespace Go.Proofs.Ythakibcfmbkpkaa
set_option maxRecDepth 100000

/-- What a list of numbers says, with m values and j pieces of mail. -/
def docS (l : List Int) (m j : Nat) : SvS :=
  ⟨l.getD 0 0, l.getD 1 0, l.getD 2 0 == 1, (List.range m).map fun i => (IntKind.i64.wrap (l.getD (4 + 2 * i) 0 - 1), IntKind.i64.wrap (l.getD (5 + 2 * i) 0 - 1)), (List.range j).map fun i => (l.getD (5 + 2 * m + 2 * i) 0, l.getD (6 + 2 * m + 2 * i) 0)⟩
theorem pairN_at (d : Int) : ∀ (l : List Ml) (i : Nat) (x : Ml), l[i]? = some x → (pairN d l)[2 * i]? = some (x.1 + d) ∧ (pairN d l)[2 * i + 1]? = some (x.2 + d)
  | [], i, x, h => by simp at h
  | y :: l, 0, x, h => by
    simp only [List.getElem?_cons_zero, Option.some.injEq] at h
    subst h
    exact ⟨rfl, rfl⟩
  | y :: l, i + 1, x, h => by
    have ih := pairN_at d l i x (by simpa using h)
    have e : pairN d (y :: l) = (y.1 + d) :: (y.2 + d) :: pairN d l := rfl
    rw [e, show 2 * (i + 1) = (2 * i + 1) + 1 by omega, show (2 * i + 1) + 1 + 1 = (2 * i + 1 + 1) + 1 by omega]
    simp only [List.getElem?_cons_succ]
    exact ih
theorem numsS_vals (s : SvS) {i : Nat} {x : Ml} (h : s.vals[i]? = some x) : (numsS s).getD (4 + 2 * i) 0 = x.1 + 1 ∧ (numsS s).getD (5 + 2 * i) 0 = x.2 + 1 := by
  have hi : i < s.vals.length := (List.getElem?_eq_some_iff.1 h).1
  obtain ⟨h1, h2⟩ := pairN_at 1 s.vals i x h
  have hl := pairN_len 1 s.vals
  have e : ∀ k, k < (pairN 1 s.vals).length → (numsS s)[4 + k]? = (pairN 1 s.vals)[k]? := fun k hk => by
    unfold numsS
    rw [List.getElem?_append_right (by simp), List.getElem?_append_left (by simp only [List.length_cons, List.length_nil]; omega)]
    congr 1
    simp only [List.length_cons, List.length_nil]
    omega
  rw [List.getD_eq_getElem?_getD, List.getD_eq_getElem?_getD, e _ (by omega), show 5 + 2 * i = 4 + (2 * i + 1) by omega, e _ (by omega), h1, h2]
  exact ⟨rfl, rfl⟩
theorem numsS_mail (s : SvS) {i : Nat} {x : Ml} (h : s.mail[i]? = some x) : (numsS s).getD (5 + 2 * s.vals.length + 2 * i) 0 = x.1 ∧ (numsS s).getD (6 + 2 * s.vals.length + 2 * i) 0 = x.2 := by
  have hi : i < s.mail.length := (List.getElem?_eq_some_iff.1 h).1
  obtain ⟨h1, h2⟩ := pairN_at 0 s.mail i x h
  have hl := pairN_len 1 s.vals
  have e : ∀ k, (numsS s)[5 + 2 * s.vals.length + k]? = (pairN 0 s.mail)[k]? := fun k => by
    unfold numsS
    rw [List.getElem?_append_right (by simp; omega), List.getElem?_append_right (by simp only [List.length_cons, List.length_nil]; omega), List.getElem?_append_right (by simp only [List.length_cons, List.length_nil]; omega)]
    congr 1
    simp only [List.length_cons, List.length_nil]
    omega
  rw [List.getD_eq_getElem?_getD, List.getD_eq_getElem?_getD, e, show 6 + 2 * s.vals.length + 2 * i = 5 + 2 * s.vals.length + (2 * i + 1) by omega, e, h1, h2]
  exact ⟨Int.add_zero _, Int.add_zero _⟩
theorem range_map_of {α : Type} (f : Nat → α) (l : List α) (h : ∀ i x, l[i]? = some x → f i = x) : (List.range l.length).map f = l := by
  apply List.ext_getElem?
  intro i
  rw [List.getElem?_map]
  rcases Nat.lt_or_ge i l.length with h' | h'
  · rw [List.getElem?_range h', List.getElem?_eq_getElem h', Option.map_some, h i _ (List.getElem?_eq_getElem h')]
  · rw [List.getElem?_eq_none (by simpa using h'), List.getElem?_eq_none h']; rfl
/-- Numbers that were written say what they were made of. -/
theorem docS_nums {s : SvS} (h : svMay s = true) : docS (numsS s) s.vals.length s.mail.length = s := by
  obtain ⟨⟨h1, h2, h3⟩, h4, h5, h6, _, h7⟩ := svMay_iff.1 h
  unfold docS
  rw [range_map_of _ s.vals fun i x hx => ?_, range_map_of _ s.mail fun i x hx => ?_]
  · have f1 : ((if s.fresh then (1 : Int) else 0) == 1) = s.fresh := by cases s.fresh <;> rfl
    show SvS.mk s.step s.phase ((if s.fresh then (1 : Int) else 0) == 1) s.vals s.mail = s
    rw [f1]
  · obtain ⟨e1, e2⟩ := numsS_mail s hx
    rw [e1, e2]
  · obtain ⟨e1, e2⟩ := numsS_vals s hx
    have := valS_iff.1 (valA_iff.1 h5 x (List.mem_of_getElem? hx))
    rw [e1, e2]
    have w1 : IntKind.i64.wrap (x.1 + 1 - 1) = x.1 := by rw [IntKind.wrap_i64]; omega
    have w2 : IntKind.i64.wrap (x.2 + 1 - 1) = x.2 := by rw [IntKind.wrap_i64]; omega
    rw [w1, w2]
theorem numsS_count (s : SvS) : (numsS s).getD 3 0 = (s.vals.length : Int) := rfl
/-- While the numbers are read: of a payload that is a form, those so far, and the rest. -/
def rdQ (ink l : List Int) (i : Nat) : Prop := ∀ s, svMay s = true → bytN (numsS s) = ink → l = (numsS s).take l.length ∧ l.length ≤ (numsS s).length ∧ ink.drop i = bytN ((numsS s).drop l.length)
/-- The payload is a form of nothing. -/
def noQ (ink : List Int) : Prop := ∀ s, svMay s = true → bytN (numsS s) ≠ ink
theorem rdQ_nil (ink : List Int) : rdQ ink [] 0 := fun s _ h => ⟨rfl, by simp, by rw [← h]; rfl⟩
theorem rdQ_head {ink l : List Int} {i : Nat} (h : rdQ ink l i) (hi : i < ink.length) {s : SvS} (hs : svMay s = true) (he : bytN (numsS s) = ink) :
    ∃ y, (numsS s)[l.length]? = some y ∧ (0 ≤ y ∧ y ≤ 4398046511105) ∧ ink.drop i = put y ++ bytN ((numsS s).drop (l.length + 1)) := by
  obtain ⟨_, h2, h3⟩ := h s hs he
  have hn : l.length < (numsS s).length := by
    rcases Nat.lt_or_ge l.length (numsS s).length with h' | h'
    · exact h'
    · rw [List.drop_eq_nil_of_le h'] at h3
      have : (ink.drop i).length = 0 := by rw [h3]; rfl
      rw [List.length_drop] at this
      omega
  refine ⟨(numsS s)[l.length], List.getElem?_eq_getElem hn, numsS_in hs _ (List.getElem_mem hn), ?_⟩
  rw [h3, List.drop_eq_getElem_cons hn]
  rfl
theorem rdQ_step {ink l : List Int} {i i2 : Nat} {x : Int} (h : rdQ ink l i) (hi : i < ink.length) (hn : numF 1152921504606846976 (ink.drop i) = some (x, ink.drop i2)) : rdQ ink (l ++ [x]) i2 := fun s hs he => by
  obtain ⟨h1, h2, _⟩ := h s hs he
  obtain ⟨y, hy, hb, e⟩ := rdQ_head h hi hs he
  rw [e, numF_put _ hb.1 (by omega) (by omega)] at hn
  injection hn with hn
  injection hn with e1 e2
  have hlt : l.length < (numsS s).length := (List.getElem?_eq_some_iff.1 hy).1
  subst e1
  refine ⟨?_, by simp; omega, ?_⟩
  · rw [List.length_append, List.length_singleton, take_snoc hy, ← h1]
  · rw [← e2, List.length_append, List.length_singleton]
theorem rdQ_none {ink l : List Int} {i : Nat} (h : rdQ ink l i) (hi : i < ink.length) (hn : numF 1152921504606846976 (ink.drop i) = none) : noQ ink := fun s hs he => by
  obtain ⟨y, hy, hb, e⟩ := rdQ_head h hi hs he
  rw [e, numF_put _ hb.1 (by omega) (by omega)] at hn
  cases hn
/-- All numbers are read. -/
theorem rdQ_end {ink l : List Int} {i : Nat} (h : rdQ ink l i) (hi : ink.length ≤ i) : ∀ s, svMay s = true → bytN (numsS s) = ink → l = numsS s := fun s hs he => by
  obtain ⟨h1, h2, h3⟩ := h s hs he
  rw [List.drop_eq_nil_of_le hi] at h3
  have := bytN_ge ((numsS s).drop l.length)
  rw [← h3, List.length_drop] at this
  simp only [List.length_nil] at this
  rw [h1, List.take_of_length_le (by omega)]
/-- Bytes whose payload is a form of nothing are none themselves. -/
theorem noQ_enc {b : List Int} (h : noQ (unwrapF b).1) : ∀ s, encS s ≠ (b, 0) := fun s he => by
  obtain ⟨h1, h2, _⟩ := enc_back he
  rw [h1] at h
  exact h s h2 rfl
/-- The values and the mail, as far as they are read. -/
def valsD (l : List Int) (k : Nat) : List Ml := (List.range k).map fun i => (IntKind.i64.wrap (l.getD (4 + 2 * i) 0 - 1), IntKind.i64.wrap (l.getD (5 + 2 * i) 0 - 1))
def mailD (l : List Int) (m k : Nat) : List Ml := (List.range k).map fun i => (l.getD (5 + 2 * m + 2 * i) 0, l.getD (6 + 2 * m + 2 * i) 0)
theorem valsD_len (l : List Int) (k : Nat) : (valsD l k).length = k := by simp [valsD]
theorem mailD_len (l : List Int) (m k : Nat) : (mailD l m k).length = k := by simp [mailD]
theorem valsD_snoc (l : List Int) (k : Nat) : valsD l (k + 1) = valsD l k ++ [(IntKind.i64.wrap (l.getD (4 + 2 * k) 0 - 1), IntKind.i64.wrap (l.getD (5 + 2 * k) 0 - 1))] := by simp [valsD, List.range_succ]
theorem mailD_snoc (l : List Int) (m k : Nat) : mailD l m (k + 1) = mailD l m k ++ [(l.getD (5 + 2 * m + 2 * k) 0, l.getD (6 + 2 * m + 2 * k) 0)] := by simp [mailD, List.range_succ]
end Go.Proofs.Ythakibcfmbkpkaa

namespace Go.Proofs.Ythakibcfmbkpkaa
set_option maxRecDepth 100000
open Go.ChangeShapes Go.WideShapes Go.ChangeAt Go.RowKit

/-- What is made lies in the block B, its rows behind it; below B nothing turns. -/
structure DcI (w X : World) (B : Nat) (a b : Int) (c : Bool) (vv vm : Value) (vs ms : List Ml) : Prop where
  box : BX 27 X B #[.int .i64 a, .int .i64 b, .bool c, vv, vm]
  vals : X.ownsRow (B + 1) 43 2 vv vs.length (vs.flatMap encM)
  mail : X.ownsRow (B + 1) 45 2 vm ms.length (ms.flatMap encM)
  low : Below B w X
  size : B + 1 ≤ X.heap.size
section
variable {w X X' : World} {B : Nat} {a b : Int} {c : Bool} {vv vm v' : Value} {vs ms l2 : List Ml}
theorem DcI.drew (h : DcI w X B a b c vv vm vs ms) : DcI w X.drew B a b c vv vm vs ms := ⟨h.box, h.vals, h.mail, h.low.drew, h.size⟩
theorem DcI.alloc (h : DcI w X B a b c vv vm vs ms) (ob : Obj) : DcI w (X.alloc ob) B a b c vv vm vs ms :=
  ⟨h.box.below (below_alloc _ _) h.box.lt, h.vals.alloc _, h.mail.alloc _, h.low.alloc (by have := h.size; omega) _, by have := h.size; simp; omega⟩
theorem DcI.setV (h : DcI w X B a b c vv vm vs ms) (hg : X.grownBy X' vv.ownBlock) (ho : X'.ownsRow (B + 1) 43 2 v' l2.length (l2.flatMap encM)) : BX 27 X' B #[.int .i64 a, .int .i64 b, .bool c, vv, vm] ∧ Below B w X' ∧ DcI w (X'.setCell ⟨B, 3, none⟩ v') B a b c v' vm l2 ms := by
  have hk : Kept (fun k => B + 1 ≤ k) X X' := (Kept.refl _ X).grown hg fun k e => .inl (h.vals.lt k e).1
  have hs := h.size
  have hb := h.box.kept hk (by omega)
  have hm := h.mail.kept hg (own_apart h.mail h.vals (by decide))
  have hl := h.low.trans (hk.below (B := B) (by omega) fun k e => by omega)
  exact ⟨hb, hl, hb.set 3 v', hb.own ho (by decide), hb.own hm (by decide), hl.setCell (by simp) _, by have := hk.size; simp; omega⟩
theorem DcI.setM (h : DcI w X B a b c vv vm vs ms) (hg : X.grownBy X' vm.ownBlock) (ho : X'.ownsRow (B + 1) 45 2 v' l2.length (l2.flatMap encM)) : BX 27 X' B #[.int .i64 a, .int .i64 b, .bool c, vv, vm] ∧ Below B w X' ∧ DcI w (X'.setCell ⟨B, 4, none⟩ v') B a b c vv v' vs l2 := by
  have hk : Kept (fun k => B + 1 ≤ k) X X' := (Kept.refl _ X).grown hg fun k e => .inl (h.mail.lt k e).1
  have hs := h.size
  have hb := h.box.kept hk (by omega)
  have hm := h.vals.kept hg (own_apart h.vals h.mail (by decide))
  have hl := h.low.trans (hk.below (B := B) (by omega) fun k e => by omega)
  exact ⟨hb, hl, hb.set 4 v', hb.own hm (by decide), hb.own ho (by decide), hl.setCell (by simp) _, by have := hk.size; simp; omega⟩
end
end Go.Proofs.Ythakibcfmbkpkaa

namespace Go.Proofs.Ythakibcfmbkpkaa
set_option maxRecDepth 100000
open Go.ChangeShapes Go.WideShapes Go.ChangeAt Go.RowKit

def inB (v a b : Int) : Bool := decide (a ≤ v) && decide (v ≤ b)
set_option maxHeartbeats 400000 in
theorem in_any (v a b : Int) (w : World) :
    Calls Try.prog 41 #[.int .i64 v, .int .i64 a, .int .i64 b] w fun e w' => e = .returned (.bool (inB v a b)) ∧ w' = w := by
  unfold inB
  by_cases h0 : a ≤ v
  · by_cases h1 : v ≤ b
    · have e1 : decide (v ≤ b) = true := by simpa using h1
      have e0 : decide (a ≤ v) = true := by simpa using h0
      rw [e0, e1]
      go_enter Try.func41, Try.ntmps41
      go_wp2
      go_ret
      exact ⟨rfl, rfl⟩
    · have e1 : decide (v ≤ b) = false := by simpa using h1
      have e0 : decide (a ≤ v) = true := by simpa using h0
      rw [e0, e1]
      go_enter Try.func41, Try.ntmps41
      go_wp2
      go_ret
      exact ⟨rfl, rfl⟩
  · have e0 : decide (a ≤ v) = false := by simpa using h0
    rw [e0]
    go_enter Try.func41, Try.ntmps41
    go_wp2
    go_ret
    exact ⟨rfl, rfl⟩

theorem in_yes {v a b : Int} (h : a ≤ v ∧ v ≤ b) : inB v a b = true := by simp [inB, h.1, h.2]
theorem in_no {v a b : Int} (h : ¬ (a ≤ v ∧ v ≤ b)) : inB v a b = false := by
  unfold inB
  by_cases h1 : a ≤ v
  · have h2 : ¬ v ≤ b := fun h2 => h ⟨h1, h2⟩
    simp [h1, h2]
  · simp [h1]
end Go.Proofs.Ythakibcfmbkpkaa

namespace Go.Proofs.Ythakibcfmbkpkaa
set_option maxRecDepth 100000
open Go.ChangeShapes Go.WideShapes Go.ChangeAt Go.RowKit

theorem mayM_in (a b : Int) : mayM (a, b) = (inB a 0 199 && inB b 0 4398046511104) := by
  rw [Bool.eq_iff_iff, mayM_iff]
  unfold inB
  simp only [Bool.and_eq_true, decide_eq_true_eq]
  omega
set_option maxHeartbeats 1000000 in
theorem mailMay_any (m : Ml) (w : World) : Calls Try.prog 43 #[.agg #[.int .i64 m.1, .int .i64 m.2]] w fun e w' => e = .returned (.bool (mayM m)) ∧ Below w.heap.size w w' := by
  obtain ⟨a, b⟩ := m
  rw [mayM_in]
  simp only
  have hb : ∀ o, Below w.heap.size w (w.alloc o) := fun o => below_alloc w o
  cases h0 : inB a 0 199
  · go_enter Try.func43, Try.ntmps43
    go_wp2_with fail
    refine (in_any _ _ _ _).mono ?_
    rw [h0]
    rintro e w1 ⟨rfl, rfl⟩
    go_wp2_with fail
    go_ret
    exact ⟨rfl, hb _⟩
  · have HI : Hid (∀ X, Calls Try.prog 41 #[.int .i64 b, .int .i64 0, .int .i64 4398046511104] X fun e w' => e = .returned (.bool (inB b 0 4398046511104)) ∧ w' = X) := fun X => in_any b 0 4398046511104 X
    rw [Bool.true_and]
    generalize inB b 0 4398046511104 = r at HI ⊢
    go_enter Try.func43, Try.ntmps43
    go_wp2_with fail
    refine (in_any _ _ _ _).mono ?_
    rw [h0]
    rintro e w1 ⟨rfl, rfl⟩
    go_wp2_with fail
    refine (HI.out _).mono ?_
    rintro e w1 ⟨rfl, rfl⟩
    go_wp2_with fail
    go_ret
    exact ⟨rfl, hb _⟩
end Go.Proofs.Ythakibcfmbkpkaa

namespace Go.Proofs.Ythakibcfmbkpkaa
set_option maxRecDepth 100000
open Go.ChangeShapes Go.WideShapes Go.ChangeAt Go.RowKit Go.Sort

/-- x stands ahead of y. -/
def aheadMB (x y : Ml) : Bool := if x.1 ≠ y.1 then decide (x.1 < y.1) else decide (x.2 < y.2)
theorem aheadM_lt (x y : Ml) : aheadMB x y = ltMb x y := by
  unfold aheadMB ltMb
  by_cases h1 : x.1 ≠ y.1
  · rw [if_pos h1]; congr 1; exact propext ⟨fun h => by omega, fun h => by omega⟩
  · rw [if_neg h1]; congr 1; exact propext ⟨fun h => by omega, fun h => by omega⟩

set_option maxHeartbeats 1000000 in
theorem aheadM_any (x y : Ml) (w : World) : Calls Try.prog 51 #[.agg #[.int .i64 x.1, .int .i64 x.2], .agg #[.int .i64 y.1, .int .i64 y.2]] w fun e w' => e = .returned (.bool (ltMb x y)) ∧ Below w.heap.size w w' := by
  rw [← aheadM_lt]
  obtain ⟨a0, a1⟩ := x
  obtain ⟨b0, b1⟩ := y
  unfold aheadMB
  simp only
  have hb : ∀ o1 o2, Below w.heap.size w ((w.alloc o1).alloc o2) := fun o1 o2 => (below_alloc w o1).alloc (by simp) o2
  by_cases h1 : a0 = b0
  · rw [if_neg (by simpa using h1)]
    have e1 : (a0 != b0) = false := by simpa using h1
    clear h1
    go_enter Try.func51, Try.ntmps51
    go_wp2_with fail
    go_ret
    exact ⟨rfl, hb _ _⟩
  · rw [if_pos h1]
    have e1 : (a0 != b0) = true := by simpa using h1
    clear h1
    go_enter Try.func51, Try.ntmps51
    go_wp2_with fail
    go_ret
    exact ⟨rfl, hb _ _⟩

set_option maxHeartbeats 1000000 in
set_option maxRecDepth 100000 in
theorem isOrdered_any (v : Value) (l : List Ml) (w : World) (h : MlR w v l) :
    Calls Try.prog 44 #[v] w fun e w' => e = .returned (.bool (srtMb l)) ∧ Below w.heap.size w w' := by
  have HR : Hid (MlR w v l) := h
  obtain ⟨a, cap, rfl, hc, hm, _, _⟩ := h
  unfold maxLen at hm
  have HT : Hid (SrtM l → srtMb l = true) := (srtMb_iff l).2
  have HF : Hid (¬ SrtM l → srtMb l = false) := srtMb_false.2
  generalize srtMb l = r at *
  go_enter Try.func44, Try.ntmps44
  go_wp2_with fail
  go_loopw [3] (fun i wr => ∃ k : Nat, k ≤ l.length ∧ i = .int .i64 ((k : Int) + 1) ∧ (∀ i x y, i < k → l[i]? = some x → l[i + 1]? = some y → ¬ ltM y x) ∧ Below w.heap.size w wr) (fun i _ => l.length + 1 - (intOf i).toNat)
  case atStart => exact ⟨0, by omega, rfl, fun i x y hi => by omega, Below.refl _ _⟩
  case round =>
    obtain ⟨k, hk, rfl, hs, hbel⟩ := hrel
    have HS : Hid (∀ i x y, i < k → l[i]? = some x → l[i + 1]? = some y → ¬ ltM y x) := hs
    have HB : Hid (Below w.heap.size w wr) := hbel
    have hsr := hbel.size
    clear hs hbel
    by_cases hlt : k + 1 < l.length
    · obtain ⟨b, off, cap', e1, _, _, lb, hv⟩ := MlR.at (HR.out.below HB.out (Nat.le_refl _)) (by omega)
      injection e1 with e1 _ e3
      subst e1 e3
      obtain ⟨x, hx⟩ := getX hlt
      obtain ⟨y, hy⟩ := getX (show k < l.length by omega)
      obtain ⟨x1, x2⟩ := hv _ _ hx
      obtain ⟨y1, y2⟩ := hv _ _ hy
      have g1 := cell_regrown x1
      have g2 := cell_regrown x2
      have g3 := cell_regrown y1
      have g4 := cell_regrown y2
      have HN : Hid (¬ ltM x y → ∀ i a b, i < k + 1 → l[i]? = some a → l[i + 1]? = some b → ¬ ltM b a) := fun h i a b hi ha hb2 => by
        by_cases e : i = k
        · subst e
          rw [hy] at ha
          rw [hx] at hb2
          injection ha with ha
          injection hb2 with hb2
          subst ha hb2
          exact h
        · exact HS.out i a b (by omega) ha hb2
      have HRR : Hid (ltM x y → r = false) := fun h => HF.out fun h2 => h2 k y x hy hx h
      have EE : ∀ d os, Calls Try.prog 51 #[.agg #[.int .i64 x.1, .int .i64 x.2], .agg #[.int .i64 y.1, .int .i64 y.2]] (grow (redrawn wr d) os) fun e w'' => e = .returned (.bool (ltMb x y)) ∧ ∃ p : Regrown, w'' = grow (redrawn wr p.d) p.os := fun d os => Calls.regrown_of (aheadM_any x y _)
      have HLT : Hid ((ltMb x y = true → ltM x y) ∧ (ltMb x y = false → ¬ ltM x y)) := ⟨ltMb_true.1, ltMb_false.1⟩
      generalize ltMb x y = c at *
      have i1 : (k : Int) + 1 < (l.length : Int) := by omega
      have i2 : (k : Int) < (l.length : Int) := by omega
      have i3 : (0 : Int) ≤ (k : Int) := by omega
      have i4 : (0 : Int) ≤ (k : Int) + 1 := by omega
      have i5 : (k : Int) + 1 - 1 = (k : Int) := by omega
      have i6 : IntKind.i64.wrap (k : Int) = (k : Int) := wrap_id64 (by omega) (by omega)
      have i7 : IntKind.i64.wrap ((k : Int) + 1 + 1) = (k : Int) + 1 + 1 := wrap_id64 (by omega) (by omega)
      have HSX : Hid True := trivial
      clear x1 x2 y1 y2 hx hy HS hv HSX
      go_wp2_with fail
      refine wp_region_quiet_below (by kernel_rfl) (by kernel_rfl) ?_
      repeat (quiet_step (exact EE _ _))
      refine wpQuiet_nil ?_
      intro _ hw'
      obtain ⟨⟨dq, osq⟩, hw''⟩ := hw'
      have HB9 : Hid (Below w.heap.size w (grow (redrawn wr dq) osq)) := HB.out.trans ((below_regrown wr dq osq).mono hsr)
      subst hw''
      generalize grow (redrawn wr dq) osq = W9 at HB9 ⊢
      clear g1 g2 g3 g4 EE
      cases c with
      | true =>
        have HX : Hid (r = false) := HRR.out (HLT.out.1 rfl)
        go_wp2_with fail
        go_ret
        exact ⟨by rw [HX.out]; rfl, HB9.out⟩
      | false =>
        have HX : Hid _ := HN.out (HLT.out.2 rfl)
        go_wp2_with fail
        go_roundw
        case rel => exact ⟨k + 1, by omega, by go_num, HX.out, HB9.out⟩
        case measure => simp [intOf]; omega
    · have HX : Hid (r = true) := HT.out fun i x y h1 h2 => HS.out i x y (by have := (List.getElem?_eq_some_iff.1 h2).1; omega) h1 h2
      have i1 : ¬ (k : Int) + 1 < (l.length : Int) := by omega
      go_wp2_with fail
      go_ret
      exact ⟨by rw [HX.out]; rfl, HB.out⟩

/-- x is put behind A and ahead of B. -/
theorem putM_sorted {A B : List Ml} {x : Ml} (h : InM (A ++ B)) (hB : ∀ y ∈ B, ltM x y) (hA : ∀ z, A.getLast? = some z → ¬ ltM x z) : InM (A ++ x :: B) := by
  unfold InM at *
  rw [List.pairwise_append] at h ⊢
  obtain ⟨h1, h2, h3⟩ := h
  have hAx : ∀ a ∈ A, leM a x = true := by
    intro a ha
    rw [leM_iff]
    rcases List.eq_nil_or_concat A with rfl | ⟨A', z, rfl⟩
    · simp at ha
    · have hz : ¬ ltM x z := hA z (by simp)
      simp only [List.concat_eq_append] at ha h1
      rw [List.mem_append] at ha
      rcases ha with ha | ha
      · have := (List.pairwise_append.1 h1).2.2 a ha z (by simp)
        rw [leM_iff] at this
        unfold ltM at *; omega
      · simp at ha; subst ha; exact hz
  refine ⟨h1, ?_, ?_⟩
  · rw [List.pairwise_cons]
    exact ⟨fun y hy => by have := hB y hy; rw [leM_iff]; unfold ltM at *; omega, h2⟩
  · intro a ha y hy
    rcases List.mem_cons.1 hy with rfl | hy
    · exact hAx a ha
    · exact h3 a ha y hy
theorem putM_perm {A B s l : List Ml} {x : Ml} (h : A ++ B = s) (hp : s.Perm l) : (A ++ x :: B).Perm (l ++ [x]) := by
  subst h
  exact (List.perm_middle.trans (List.Perm.cons x hp)).trans (List.perm_append_singleton x l).symm
end Go.Proofs.Ythakibcfmbkpkaa

namespace Go.Proofs.Ythakibcfmbkpkaa
set_option maxRecDepth 100000
open Go.ChangeShapes Go.WideShapes Go.ChangeAt Go.RowKit

theorem valS_in (x : Ml) : valS x = (inB x.1 (-1) 4398046511104 && inB x.2 (-1) 199) := by
  rw [Bool.eq_iff_iff, valS_iff]
  unfold inB
  simp only [Bool.and_eq_true, decide_eq_true_eq]
  omega
set_option maxHeartbeats 1000000 in
theorem topD_any (w : World) : Calls Try.prog 50 #[.int .i64 1] w fun e w' => e = .returned (.int .i64 4398046511104) ∧ w' = w := by
  go_enter Try.func50, Try.ntmps50
  go_wp2_with fail
  go_ret
  exact ⟨rfl, rfl⟩
section
open Go.Sort
set_option maxHeartbeats 1000000 in
set_option maxRecDepth 100000 in
theorem valMayS_any (x : Ml) (w : World) :
    Calls Try.prog 42 #[.int .i64 1, .agg #[.int .i64 x.1, .int .i64 x.2]] w fun e w' => e = .returned (.bool (valS x)) ∧ RowKit.Below w.heap.size w w' := by
  have hF := topD_any
  rw [valS_in]
  obtain ⟨W, hW⟩ : ∃ W, w.alloc (.cells #[.int .i64 x.1, .int .i64 x.2] 43) = W := ⟨_, rfl⟩
  have hX : BX 43 W w.heap.size #[.int .i64 x.1, .int .i64 x.2] := by rw [← hW]; exact BX.new _ _ _
  have HB : Hid (RowKit.Below w.heap.size w W) := by show RowKit.Below _ _ _; rw [← hW]; exact below_alloc _ _
  obtain ⟨c0, c1, _⟩ := hX.all2
  have g0 := cell_regrown c0
  have g1 := cell_regrown c1
  have EG : ∀ d os, Calls Try.prog 50 #[.int .i64 1] (grow (redrawn W d) os) fun e w'' => e = .returned (.int .i64 4398046511104) ∧ ∃ p : Regrown, w'' = grow (redrawn W p.d) p.os := fun d os => Calls.regrown_of ((hF _).mono (fun e w' h => ⟨h.1, by rw [h.2]; exact Below.refl _ _⟩))
  have EW : ∀ v a b d os, Calls Try.prog 41 #[.int .i64 v, .int .i64 a, .int .i64 b] (grow (redrawn W d) os) fun e w'' => e = .returned (.bool (inB v a b)) ∧ ∃ p : Regrown, w'' = grow (redrawn W p.d) p.os := fun v a b d os => Calls.regrown_of ((in_any v a b _).mono (fun e w' h => ⟨h.1, by rw [h.2]; exact Below.refl _ _⟩))
  clear hF hX c0 c1
  cases h1 : inB x.1 (-1) 4398046511104
  · go_enter Try.func42, Try.ntmps42
    go_upto_region 1 with fail
    refine wp_region_quiet_below (by kernel_rfl) (by kernel_rfl) ?_
    repeat (quiet_step (first | (go_at_call 41; exact EW _ _ _ _ _) | exact EG _ _))
    refine wpQuiet_nil ?_
    intro _ hw'
    obtain ⟨⟨dq, osq⟩, hw''⟩ := hw'
    have HB9 : Hid (RowKit.Below W.heap.size W (grow (redrawn W dq) osq)) := below_regrown W dq osq
    subst hw''
    generalize grow (redrawn W dq) osq = W9 at HB9 ⊢
    have HC : Hid (RowKit.Below w.heap.size w W9) := HB.out.trans (HB9.out.mono HB.out.size)
    clear g0 g1 EG EW
    go_wp2_with fail
    go_ret
    exact ⟨rfl, HC.out⟩
  · cases h2 : inB x.2 (-1) 199
    all_goals go_enter Try.func42, Try.ntmps42
    all_goals go_upto_region 1 with fail
    all_goals refine wp_region_quiet_below (by kernel_rfl) (by kernel_rfl) ?_
    all_goals repeat (quiet_step (first | (go_at_call 41; exact EW _ _ _ _ _) | exact EG _ _))
    all_goals refine wpQuiet_nil ?_
    all_goals intro _ hw'
    all_goals obtain ⟨⟨dq, osq⟩, hw''⟩ := hw'
    all_goals have HB9 : Hid (RowKit.Below W.heap.size W (grow (redrawn W dq) osq)) := below_regrown W dq osq
    all_goals subst hw''
    all_goals generalize grow (redrawn W dq) osq = W9 at HB9 ⊢
    all_goals have HC : Hid (RowKit.Below w.heap.size w W9) := HB.out.trans (HB9.out.mono HB.out.size)
    all_goals clear g0 g1 EG EW
    all_goals go_wp2_with fail
    all_goals go_ret
    all_goals exact ⟨rfl, HC.out⟩

end
theorem svMay_len {s : SvS} (h : ¬ (s.vals.length ≤ 200 ∧ s.mail.length ≤ 5000)) : svMay s = false := by rw [Bool.eq_false_iff]; intro g; exact h ⟨(svMay_iff.1 g).2.1, (svMay_iff.1 g).2.2.2.1⟩

set_option maxHeartbeats 4000000 in
set_option maxRecDepth 100000 in
theorem savedMay_any (s : SvS) (vv vm : Value) (w : World) (hv : MlR w vv s.vals) (hm : MlR w vm s.mail) :
    Calls Try.prog 28 #[.agg #[.int .i64 s.step, .int .i64 s.phase, .bool s.fresh, vv, vm]] w fun e w' => e = .returned (.bool (svMay s)) ∧ Below w.heap.size w w' := by
  have HV : Hid (MlR w vv s.vals) := hv
  have HM : Hid (MlR w vm s.mail) := hm
  obtain ⟨va, vc, rfl, hvc, hvm, _, _⟩ := hv
  obtain ⟨ma, mc, rfl, hmc, hmm, _, _⟩ := hm
  unfold maxLen at hvm hmm
  have H1 : Hid (¬ (0 ≤ s.step ∧ s.step ≤ 100000 ∧ (s.phase = 0 ∨ s.phase = 1)) ∨ ¬ (s.vals.length ≤ 200 ∧ s.mail.length ≤ 5000) → svMay s = false) := fun h => by
    rcases h with h | h
    · exact svMay_head h
    · exact svMay_len h
  have H2 : Hid (valA s.vals = false → svMay s = false) := fun h => svMay_vals (fun g => by rw [h] at g; cases g.2)
  have H3 : Hid (mayA s.mail = false → svMay s = false) := fun h => by
    rw [Bool.eq_false_iff]
    intro g
    rw [(svMay_iff.1 g).2.2.2.2.2] at h
    cases h
  have H4 : Hid ((0 ≤ s.step ∧ s.step ≤ 100000 ∧ (s.phase = 0 ∨ s.phase = 1)) → (s.vals.length ≤ 200 ∧ s.mail.length ≤ 5000) → valA s.vals = true → mayA s.mail = true → svMay s = srtMb s.mail) := fun h1 h2 h3 h4 => by
    rw [Bool.eq_iff_iff, svMay_iff]
    exact ⟨fun h => h.2.2.2.2.1, fun h => ⟨h1, h2.1, h3, h2.2, h, h4⟩⟩
  have CO : Hid (∀ X, MlR X (.slice ma s.mail.length mc) s.mail → Calls Try.prog 44 #[.slice ma s.mail.length mc] X fun e w' => e = .returned (.bool (srtMb s.mail)) ∧ Below X.heap.size X w') := fun X hX => isOrdered_any _ s.mail X hX
  generalize svMay s = r at *
  generalize srtMb s.mail = bs at *
  obtain ⟨st, ph, fr, vs, ms⟩ := s
  simp only at HV HM H1 H2 H3 H4 CO hvc hvm hmc hmm ⊢
  have X0 : BX 27 (w.alloc (.cells #[.int .i64 st, .int .i64 ph, .bool fr, .slice va vs.length vc, .slice ma ms.length mc] 27)) w.heap.size #[.int .i64 st, .int .i64 ph, .bool fr, .slice va vs.length vc, .slice ma ms.length mc] := BX.new _ _ _
  have B0 : Below w.heap.size w (w.alloc (.cells #[.int .i64 st, .int .i64 ph, .bool fr, .slice va vs.length vc, .slice ma ms.length mc] 27)) := below_alloc _ _
  go_enter Try.func28, Try.ntmps28
  go_upto_region 1 with fail
  generalize w.alloc (.cells #[.int .i64 st, .int .i64 ph, .bool fr, .slice va vs.length vc, .slice ma ms.length mc] 27) = W0 at *
  have HK : Hid (∀ X, Below W0.heap.size W0 X → BX 27 X w.heap.size #[.int .i64 st, .int .i64 ph, .bool fr, .slice va vs.length vc, .slice ma ms.length mc] ∧ Below w.heap.size w X ∧ MlR X (.slice va vs.length vc) vs ∧ MlR X (.slice ma ms.length mc) ms) := fun X hX => ⟨X0.below hX X0.lt, B0.trans (hX.mono B0.size), HV.out.below (B0.trans (hX.mono B0.size)) (Nat.le_refl _), HM.out.below (B0.trans (hX.mono B0.size)) (Nat.le_refl _)⟩
  have A0 : Hid (Below W0.heap.size W0 W0) := Below.refl _ _
  have BW0 : Hid (Below w.heap.size w W0) := B0
  obtain ⟨c0, c1, c2, c3, c4⟩ := X0.all5
  clear X0 B0 HV HM
  obtain ⟨b1, hb1⟩ : ∃ b : Bool, b = decide (¬ (0 ≤ st ∧ st ≤ 100000 ∧ (ph = 0 ∨ ph = 1)) ∨ ¬ (vs.length ≤ 200 ∧ ms.length ≤ 5000)) := ⟨_, rfl⟩
  have HB1 : Hid (b1 = decide (¬ (0 ≤ st ∧ st ≤ 100000 ∧ (ph = 0 ∨ ph = 1)) ∨ ¬ (vs.length ≤ 200 ∧ ms.length ≤ 5000))) := hb1
  clear hb1
  go_cut [26] from 26 to 26 (fun t wx => t = .bool b1 ∧ W0 = wx)
  case first =>
    clear H1 H2 H3 H4 CO HK
    have CI : ∀ n lo hi X, Calls Try.prog 41 #[.int .i64 n, .int .i64 lo, .int .i64 hi] X fun e w' => e = .returned (.bool (inB n lo hi)) ∧ w' = X := fun n lo hi X => in_any n lo hi X
    have HCI : Hid (∀ n lo hi X, Calls Try.prog 41 #[.int .i64 n, .int .i64 lo, .int .i64 hi] X fun e w' => e = .returned (.bool (inB n lo hi)) ∧ X = w') := fun n lo hi X => (CI n lo hi X).mono fun e w' h => ⟨h.1, h.2.symm⟩
    clear CI
    by_cases h1 : 0 ≤ st ∧ st ≤ 100000
    · have i1 : inB st 0 100000 = true := in_yes h1
      by_cases h2 : 0 ≤ ph ∧ ph ≤ 1
      · have i2 : inB ph 0 1 = true := in_yes h2
        by_cases h3 : 200 < vs.length
        · have e : Hid (Value.bool true = .bool b1) := by show _ = _; rw [HB1.out, decide_eq_true (by omega)]
          have t3 : decide ((vs.length : Int) > 200) = true := decide_eq_true (by omega)
          have t3' : (200 : Int) < (vs.length : Int) := by omega
          clear HB1 h1 h2
          go_wp2_with fail
          refine (HCI.out _ _ _ _).mono ?_
          rw [i1]
          rintro e1 w1 ⟨rfl, rfl⟩
          go_wp2_with fail
          refine (HCI.out _ _ _ _).mono ?_
          rw [i2]
          rintro e1 w1 ⟨rfl, rfl⟩
          go_wp2_with fail
          go_meet
          case rel => exact ⟨e.out, rfl⟩
        · have t3 : decide ((vs.length : Int) > 200) = false := decide_eq_false (by omega)
          have t3' : ¬ (200 : Int) < (vs.length : Int) := by omega
          by_cases h4 : 5000 < ms.length
          · have e : Hid (Value.bool true = .bool b1) := by show _ = _; rw [HB1.out, decide_eq_true (by omega)]
            have t4 : decide ((ms.length : Int) > 5000) = true := decide_eq_true (by omega)
            have t4' : (5000 : Int) < (ms.length : Int) := by omega
            clear HB1 h1 h2
            go_wp2_with fail
            refine (HCI.out _ _ _ _).mono ?_
            rw [i1]
            rintro e1 w1 ⟨rfl, rfl⟩
            go_wp2_with fail
            refine (HCI.out _ _ _ _).mono ?_
            rw [i2]
            rintro e1 w1 ⟨rfl, rfl⟩
            go_wp2_with fail
            go_meet
            case rel => exact ⟨e.out, rfl⟩
          · have e : Hid (Value.bool false = .bool b1) := by show _ = _; rw [HB1.out, decide_eq_false (by omega)]
            have t4 : decide ((ms.length : Int) > 5000) = false := decide_eq_false (by omega)
            have t4' : ¬ (5000 : Int) < (ms.length : Int) := by omega
            clear HB1 h1 h2
            go_wp2_with fail
            refine (HCI.out _ _ _ _).mono ?_
            rw [i1]
            rintro e1 w1 ⟨rfl, rfl⟩
            go_wp2_with fail
            refine (HCI.out _ _ _ _).mono ?_
            rw [i2]
            rintro e1 w1 ⟨rfl, rfl⟩
            go_wp2_with fail
            go_meet
            case rel => exact ⟨e.out, rfl⟩
      · have i2 : inB ph 0 1 = false := in_no h2
        have e : Hid (Value.bool true = .bool b1) := by show _ = _; rw [HB1.out, decide_eq_true (by omega)]
        clear HB1 h1 h2
        go_wp2_with fail
        refine (HCI.out _ _ _ _).mono ?_
        rw [i1]
        rintro e1 w1 ⟨rfl, rfl⟩
        go_wp2_with fail
        refine (HCI.out _ _ _ _).mono ?_
        rw [i2]
        rintro e1 w1 ⟨rfl, rfl⟩
        go_wp2_with fail
        go_meet
        case rel => exact ⟨e.out, rfl⟩
    · have i1 : inB st 0 100000 = false := in_no h1
      have e : Hid (Value.bool true = .bool b1) := by show _ = _; rw [HB1.out, decide_eq_true (by omega)]
      clear HB1 h1
      go_wp2_with fail
      refine (HCI.out _ _ _ _).mono ?_
      rw [i1]
      rintro e1 w1 ⟨rfl, rfl⟩
      go_wp2_with fail
      go_meet
      case rel => exact ⟨e.out, rfl⟩
  case rest =>
  obtain ⟨rfl, rfl⟩ := hcut
  cases b1
  · have HH : Hid ((0 ≤ st ∧ st ≤ 100000 ∧ (ph = 0 ∨ ph = 1)) ∧ vs.length ≤ 200 ∧ ms.length ≤ 5000) := by
      have h := of_decide_eq_false HB1.out.symm
      constructor
      · exact Classical.not_not.1 fun g => h (.inl g)
      · exact Classical.not_not.1 fun g => h (.inr g)
    clear HB1 H1
    go_wp2_with fail
    go_loopw [3] (fun i wr => ∃ k : Nat, k ≤ vs.length ∧ i = .int .i64 k ∧ valA (vs.take k) = true ∧ Below W0.heap.size W0 wr) (fun i _ => vs.length - (intOf i).toNat)
    case atStart => exact ⟨0, by omega, rfl, rfl, A0.out⟩
    case round =>
      clear c0 c1 c2 c3 c4
      obtain ⟨k, hk, rfl, hno, hbel⟩ := hrel
      have HNO : Hid (valA (vs.take k) = true) := hno
      have AB : Hid (Below W0.heap.size W0 wr) := hbel
      have hsr := hbel.size
      obtain ⟨Q1, bw1, MV, _⟩ := HK.out _ hbel
      have BW1 : Hid (Below w.heap.size w wr) := bw1
      obtain ⟨c0, c1, c2, c3, c4⟩ := Q1.all5
      clear hno hbel bw1 Q1
      by_cases hlt : k < vs.length
      · obtain ⟨b, off, cap', e1, _, _, lt, hv⟩ := MlR.at MV (by omega)
        injection e1 with e1 e2 e3
        subst e1 e3
        clear e2
        obtain ⟨x, hx⟩ := getX hlt
        obtain ⟨d1, d2⟩ := hv k x hx
        have HX : Hid (vs[k]? = some x) := hx
        have p0 : (0 : Int) ≤ (k : Int) := by omega
        have p1 : (k : Int) < (vs.length : Int) := by omega
        clear hv hx MV
        cases ho : valS x
        · have e := H2.out (valA_hit HX.out ho)
          subst e
          have CV : Hid (∀ X, Calls Try.prog 42 #[.int .i64 1, .agg #[.int .i64 x.1, .int .i64 x.2]] X fun e w' => e = .returned (.bool false) ∧ Below X.heap.size X w') := fun X => by have := valMayS_any x X; rw [ho] at this; exact this
          clear ho H2 H3 H4 CO
          go_wp2_with fail
          refine (CV.out _).mono ?_
          rintro e w2 ⟨rfl, hb2⟩
          have B2 : Hid (Below w.heap.size w w2) := BW1.out.trans (hb2.mono BW1.out.size)
          clear hb2
          go_wp2_with fail
          go_ret
          exact ⟨rfl, B2.out⟩
        · have HN2 : Hid (valA (vs.take (k + 1)) = true) := valA_cut HX.out HNO.out ho
          have CV : Hid (∀ X, Calls Try.prog 42 #[.int .i64 1, .agg #[.int .i64 x.1, .int .i64 x.2]] X fun e w' => e = .returned (.bool true) ∧ Below X.heap.size X w') := fun X => by have := valMayS_any x X; rw [ho] at this; exact this
          clear ho
          go_wp2_with fail
          refine (CV.out _).mono ?_
          rintro e w2 ⟨rfl, hb2⟩
          have A2 : Hid (Below W0.heap.size W0 w2) := AB.out.trans (hb2.mono hsr)
          clear hb2
          go_wp2_with fail
          go_roundw
          case rel => exact ⟨k + 1, by omega, by go_num, HN2.out, A2.out⟩
          case measure => simp [intOf]; omega
      · have ek : vs.take k = vs := List.take_of_length_le (by omega)
        have HVA : Hid (valA vs = true) := by have := HNO.out; rwa [ek] at this
        obtain ⟨V1, rfl⟩ : ∃ V, V = wr := ⟨wr, rfl⟩
        clear ek HNO H2 MV
        go_wp2_with fail
        go_loopw [4] (fun i wr => ∃ k : Nat, k ≤ ms.length ∧ i = .int .i64 k ∧ mayA (ms.take k) = true ∧ Below W0.heap.size W0 wr) (fun i _ => ms.length - (intOf i).toNat)
        case atStart => exact ⟨0, by omega, rfl, rfl, AB.out⟩
        case round =>
          clear c0 c1 c2 c3 c4 AB BW1
          obtain ⟨k, hk, rfl, hno, hbel⟩ := hrel
          have HNO : Hid (mayA (ms.take k) = true) := hno
          have AB : Hid (Below W0.heap.size W0 wr) := hbel
          have hsr := hbel.size
          obtain ⟨Q1, bw1, _, MM⟩ := HK.out _ hbel
          have BW1 : Hid (Below w.heap.size w wr) := bw1
          have RM : Hid (MlR wr (.slice ma ms.length mc) ms) := MM
          obtain ⟨c0, c1, c2, c3, c4⟩ := Q1.all5
          clear hno hbel bw1 Q1
          by_cases hlt : k < ms.length
          · obtain ⟨b, off, cap', e1, _, _, lt, hv⟩ := MlR.at MM (by omega)
            injection e1 with e1 e2 e3
            subst e1 e3
            clear e2
            obtain ⟨x, hx⟩ := getX hlt
            obtain ⟨d1, d2⟩ := hv k x hx
            have HX : Hid (ms[k]? = some x) := hx
            have p0 : (0 : Int) ≤ (k : Int) := by omega
            have p1 : (k : Int) < (ms.length : Int) := by omega
            clear hv hx MM
            cases ho : mayM x
            · have e := H3.out (mayA_hit HX.out ho)
              subst e
              have CV : Hid (∀ X, Calls Try.prog 43 #[.agg #[.int .i64 x.1, .int .i64 x.2]] X fun e w' => e = .returned (.bool false) ∧ Below X.heap.size X w') := fun X => by have := mailMay_any x X; rw [ho] at this; exact this
              clear ho H3 H4 CO
              go_wp2_with fail
              refine (CV.out _).mono ?_
              rintro e w2 ⟨rfl, hb2⟩
              have B2 : Hid (Below w.heap.size w w2) := BW1.out.trans (hb2.mono BW1.out.size)
              clear hb2
              go_wp2_with fail
              go_ret
              exact ⟨rfl, B2.out⟩
            · have HN2 : Hid (mayA (ms.take (k + 1)) = true) := mayA_cut HX.out HNO.out ho
              have CV : Hid (∀ X, Calls Try.prog 43 #[.agg #[.int .i64 x.1, .int .i64 x.2]] X fun e w' => e = .returned (.bool true) ∧ Below X.heap.size X w') := fun X => by have := mailMay_any x X; rw [ho] at this; exact this
              clear ho
              go_wp2_with fail
              refine (CV.out _).mono ?_
              rintro e w2 ⟨rfl, hb2⟩
              have A2 : Hid (Below W0.heap.size W0 w2) := AB.out.trans (hb2.mono hsr)
              clear hb2
              go_wp2_with fail
              go_roundw
              case rel => exact ⟨k + 1, by omega, by go_num, HN2.out, A2.out⟩
              case measure => simp [intOf]; omega
          · have ek : ms.take k = ms := List.take_of_length_le (by omega)
            have HR : Hid (r = bs) := H4.out HH.out.1 HH.out.2 HVA.out (by have := HNO.out; rwa [ek] at this)
            clear ek HNO H3 H4 MM
            go_wp2_with fail
            refine (CO.out _ RM.out).mono ?_
            rintro e w2 ⟨rfl, hb2⟩
            have B2 : Hid (Below w.heap.size w w2) := BW1.out.trans (hb2.mono BW1.out.size)
            clear hb2
            go_wp2_with fail
            go_ret
            exact ⟨ret_bool HR.out.symm, B2.out⟩
  · have e := H1.out (of_decide_eq_true HB1.out.symm)
    subst e
    clear HB1 H1 H2 H3 H4 CO
    go_wp2_with fail
    go_ret
    exact ⟨rfl, BW0.out⟩
end Go.Proofs.Ythakibcfmbkpkaa

namespace Go.Proofs.Ythakibcfmbkpkaa
set_option maxRecDepth 100000
open Go.ChangeShapes Go.WideShapes Go.ChangeAt Go.RowKit

set_option maxHeartbeats 400000 in
set_option maxRecDepth 100000 in
theorem summed_row (b off cap : Nat) (xs : List Int) (w : World) (hm : xs.length ≤ maxLen) (hx : ∀ x ∈ xs, 0 ≤ x ∧ x ≤ 255)
    (hcell : ∀ i, i < xs.length → w.cell? ⟨b, off + i, none⟩ = some (.int .u8 (xs.getD i 0))) :
    Calls Try.prog 40 #[.slice (some ⟨b, off, none⟩) xs.length cap] w fun e w' => e = .returned (.int .u32 (crc xs)) ∧ w' = w := by
  unfold maxLen at hm
  have HC : Hid (∀ i, i < xs.length → w.cell? ⟨b, off + i, none⟩ = some (.int .u8 (xs.getD i 0))) := hcell
  have HX : Hid (∀ x ∈ xs, 0 ≤ x ∧ x ≤ 255) := hx
  clear hcell hx
  go_enter Try.func40, Try.ntmps40
  go_wp2_with fail
  go_loop [3, 4] (fun n i => ∃ (k : Nat), k ≤ xs.length ∧ i = .int .i64 k ∧ n = .int .u32 (runR 4294967295 (xs.take k))) (fun _ i => xs.length - (intOf i).toNat)
  case atStart => exact ⟨0, by omega, rfl, rfl⟩
  case round =>
    obtain ⟨k, hk, rfl, rfl⟩ := hrel
    have hr := runR_lt (xs.take k) 4294967295 (by omega) (fun x hx => HX.out x (List.mem_of_mem_take hx))
    by_cases hlt : k < xs.length
    · have hck := HC.out k hlt
      have hxb := HX.out (xs.getD k 0) (by rw [List.getD_eq_getElem?_getD, List.getElem?_eq_getElem hlt]; exact List.getElem_mem hlt)
      have HN : Hid (runR 4294967295 (xs.take (k + 1)) = eight (runR 4294967295 (xs.take k) ^^^ (xs.getD k 0).toNat)) := by
        show _ = _
        rw [take_snocI hlt, runR_snoc]
      generalize runR 4294967295 (xs.take k) = r at *
      obtain ⟨x, hxe⟩ : ∃ x : Nat, xs.getD k 0 = (x : Int) := ⟨_, (Int.toNat_of_nonneg hxb.1).symm⟩
      rw [hxe] at hck hxb HN
      clear hxe
      have h8 : x < 256 := by omega
      clear hxb
      go_wp2_with fail
      go_loop [3, 5, 6] (fun s c j => ∃ (m S C : Nat), m ≤ 8 ∧ j = .int .i64 m ∧ s = .int .u32 S ∧ c = .int .u32 C ∧ S < 4294967296 ∧ C = x / 2 ^ m ∧ S ^^^ C = shN m (r ^^^ x)) (fun _ _ j => 8 - (intOf j).toNat)
      case atStart => exact ⟨0, r, x, by omega, rfl, rfl, rfl, hr, by simp, rfl⟩
      case round =>
        obtain ⟨m, S, C, hm8, rfl, rfl, rfl, hS, hC, hi⟩ := hrel
        have hC8 : C < 256 := by rw [hC]; exact Nat.lt_of_le_of_lt (Nat.div_le_self _ _) h8
        have HI : Hid (S ^^^ C = shN m (r ^^^ x)) := hi
        have HCC : Hid (C = x / 2 ^ m) := hC
        have HC2 : Hid (C / 2 = x / 2 ^ (m + 1)) := by show _ = _; rw [hC, Nat.div_div_eq_div_mul, Nat.pow_succ]
        clear hi hC
        have hxp := xorP (S / 2) (by omega)
        have hxp' : bits .xor .u32 ((S : Int) / 2) 3988292384 = ((S / 2 ^^^ 3988292384 : Nat) : Int) := hxp
        have HA := bit_apart S C
        have HB : Hid (sh (S ^^^ C) = (if (S + C) % 2 = 1 then S / 2 ^^^ 3988292384 else S / 2) ^^^ C / 2) := HA
        clear HA hxp
        by_cases hm1 : m < 8
        · by_cases hodd : (S + C) % 2 = 1
          · have HB2 : Hid (sh (S ^^^ C) = (S / 2 ^^^ 3988292384) ^^^ C / 2) := by show _ = _; rw [HB.out, if_pos hodd]
            have hlt2 := xor_lt (show S / 2 < 4294967296 by omega) (show 3988292384 < 4294967296 by omega)
            have ho : (IntKind.u32.wrap ((S : Int) + (C : Int)) % 2 == 1) = true := by rw [IntKind.wrap_u32']; simp; omega
            clear HB
            generalize S / 2 ^^^ 3988292384 = q at *
            go_wp2_with fail
            go_round
            case rel => exact ⟨m + 1, q, C / 2, by omega, by go_num, rfl, by simp, hlt2, HC2.out, by show _ = sh (shN m (r ^^^ x)); rw [← HI.out, HB2.out]⟩
            case measure => simp [intOf]; omega
          · have HB2 : Hid (sh (S ^^^ C) = S / 2 ^^^ C / 2) := by show _ = _; rw [HB.out, if_neg hodd]
            have ho : (IntKind.u32.wrap ((S : Int) + (C : Int)) % 2 == 1) = false := by rw [IntKind.wrap_u32']; simp; omega
            clear HB
            go_wp2_with fail
            go_round
            case rel => exact ⟨m + 1, S / 2, C / 2, by omega, by go_num, by simp, by simp, by omega, HC2.out, by show _ = sh (shN m (r ^^^ x)); rw [← HI.out, HB2.out]⟩
            case measure => simp [intOf]; omega
        · have HF : Hid (S = eight (r ^^^ x)) := by
            show _ = shN 8 (r ^^^ x)
            have e : m = 8 := by omega
            subst e
            have hc0 : C = 0 := by rw [HCC.out]; omega
            rw [← HI.out, hc0, Nat.xor_zero]
          clear HB
          go_wp2_with fail
          go_round
          case rel => exact ⟨k + 1, by omega, by go_num, by rw [HN.out, HF.out]; rfl⟩
          case measure => simp [intOf]; omega
    · have HQ : Hid (crc xs = 4294967295 - runR 4294967295 (xs.take k)) := by
        show _ = _
        rw [← ones_sub hr, List.take_of_length_le (by omega)]; rfl
      generalize runR 4294967295 (xs.take k) = r at *
      have hx32 : IntKind.u32.wrap (4294967295 - (r : Int)) = ((4294967295 - r : Nat) : Int) := by rw [IntKind.wrap_u32']; omega
      generalize 4294967295 - r = q at *
      go_wp2_with fail
      go_ret
      exact ⟨by rw [HQ.out]; rfl, rfl⟩
set_option maxRecDepth 100000 in
theorem summed_empty (a : Option Addr) (cap : Nat) (w : World) :
    Calls Try.prog 40 #[.slice a 0 cap] w fun e w' => e = .returned (.int .u32 0) ∧ w' = w := by
  go_enter Try.func40, Try.ntmps40
  go_wp2_with fail
  refine wp_loop_rounds 1 ?_
  rw [rounds_succ]
  go_wp2
  go_ret
  exact ⟨rfl, rfl⟩

theorem summed_any (v : Value) (xs : List Int) (w : World) (h : Reads .u8 w v xs) (hx : ∀ x ∈ xs, 0 ≤ x ∧ x ≤ 255) :
    Calls Try.prog 40 #[v] w fun e w' => e = .returned (.int .u32 (crc xs)) ∧ w' = w := by
  by_cases hn : 0 < xs.length
  · obtain ⟨b, off, cap, rfl, hc, hm, _, hcell⟩ := h.plain hn
    exact summed_row b off cap xs w (Nat.le_trans hc hm) hx hcell
  · have : xs = [] := List.eq_nil_of_length_eq_zero (by omega)
    subst this
    obtain ⟨a, cap, rfl, _, _⟩ := h.empty
    refine (summed_empty a cap w).mono ?_
    rintro e w' ⟨rfl, rfl⟩
    exact ⟨rfl, rfl⟩
end Go.Proofs.Ythakibcfmbkpkaa

namespace Go.Proofs.Ythakibcfmbkpkaa
set_option maxRecDepth 100000
open Go.ChangeShapes Go.WideShapes Go.ChangeAt Go.RowKit

set_option maxHeartbeats 800000 in
theorem packed_any (f : Nat) : ∀ (n : Int) (w : World), 0 ≤ n → n < 128 ^ (f + 1) → n ≤ 18446744073709551615 →
    Calls Try.prog 29 #[.int .u64 n] w fun e w' =>
      ∃ v', e = .returned v' ∧ w'.ownsRow w.heap.size 5 1 v' (put n).length ((put n).map (Value.int .u8)) ∧ Below w.heap.size w w' := by
  obtain ⟨i0, hi, hz0, hz1, hz2⟩ := info_parts Try.info5
  induction f with
  | zero =>
    intro n w h0 hf h1
    have hn : n < 128 := by simpa using hf
    clear hf
    go_enter Try.func29, Try.ntmps29
    go_wp2_with fail
    go_ret
    refine ⟨_, rfl, ?_, ?_⟩
    · rw [put_small hn]; exact own_new w _ (Nat.le_refl _) n
    · exact (Below.refl _ _).alloc (Nat.le_refl _) _
  | succ f ih =>
    intro n w h0 hf h1
    by_cases hn : n < 128
    · clear hf ih
      go_enter Try.func29, Try.ntmps29
      go_wp2_with fail
      go_ret
      refine ⟨_, rfl, ?_, ?_⟩
      · rw [put_small hn]; exact own_new w _ (Nat.le_refl _) n
      · exact (Below.refl _ _).alloc (Nat.le_refl _) _
    · have hd : n / 128 < 128 ^ (f + 1) := div128_lt (by rw [p128] at hf; exact hf)
      have IH := ih (n / 128) (w.alloc (.cells #[.int .u8 (n % 128 + 128)] 5)) (by omega) hd (by omega)
      have HI : Hid (Calls Try.prog 29 #[.int .u64 (n / 128)] (w.alloc (.cells #[.int .u8 (n % 128 + 128)] 5)) _) := IH
      clear IH ih hf hd
      go_enter Try.func29, Try.ntmps29
      go_wp2_with fail
      refine HI.out.mono ?_
      rintro e w1 ⟨v1, rfl, hown1, hbel1⟩
      have hl := put_len (n / 128)
      have hb1 : Below w.heap.size w w1 := ((Below.refl _ _).alloc (Nat.le_refl _) _).trans (hbel1.mono (by simp))
      have own0 := own_below (own_new w w.heap.size (Nat.le_refl _) (n % 128 + 128)) hbel1 (Nat.le_refl _)
      obtain ⟨g, cap, rfl, hg, hg2, hc, hm, hcell⟩ := own_shape hown1 (by omega)
      have hsz := hb1.size
      have HC : Hid (∀ (j : Nat) (u : Value), (List.map (Value.int IntKind.u8) (put (n / 128)))[j]? = some u → w1.cell? ((⟨g, 0, none⟩ : Addr).add j) = some u) := hcell
      clear HI hown1 hbel1 hcell
      go_wp2_with (at_builtin; refine wpList_append_own _ rfl _ _ 22 rfl w.heap.size 5 i0 (.int .u8 0) 1 1 Try.underlying22 hi hz0 hz1 hz2 rfl (by decide) _ _ _ rfl own0 ⟨g, 0, none⟩ (put (n / 128)).length cap ((put (n / 128)).map (Value.int .u8)) rfl (by simp) HC.out (bytes_oneCell _) ?d3 ?d4 ?d5 ?_)
      case d3 => unfold maxLen; simp; omega
      case d4 => simp; omega
      case d5 => first | omega | (simp; omega)
      intro v' w2 hown' hgrow _
      have hbel2 : Below w.heap.size w w2 := hb1.grown hgrow hsz (fun k hk => by simp [Value.ownBlock] at hk; omega)
      clear HC own0
      go_wp2
      go_ret
      exact ⟨v', rfl, by rw [put_big (by omega) h1]; simpa [Nat.add_comm] using hown', hbel2⟩
end Go.Proofs.Ythakibcfmbkpkaa

namespace Go.Proofs.Ythakibcfmbkpkaa
set_option maxRecDepth 100000
open Go.ChangeShapes Go.WideShapes Go.ChangeAt Go.RowKit

set_option maxHeartbeats 400000 in
set_option maxRecDepth 100000 in
theorem wrapped_any (v : Value) (xs : List Int) (w : World) (h : Reads .u8 w v xs) (hx : ∀ x ∈ xs, 0 ≤ x ∧ x ≤ 255) (hl : xs.length ≤ 20000) :
    Calls Try.prog 27 #[v] w fun e w' =>
      ∃ v', e = .returned (.tuple #[v', .int .i64 0]) ∧ w'.ownsRow w.heap.size 5 1 v' (wrap xs).length ((wrap xs).map (Value.int .u8)) ∧ Below w.heap.size w w' := by
  have HR : Hid (Reads .u8 w v xs) := h
  have HX : Hid (∀ x ∈ xs, 0 ≤ x ∧ x ≤ 255) := hx
  have HB : Hid (∀ x ∈ put xs.length ++ xs, 0 ≤ x ∧ x ≤ 255) := head_bytes hx hl
  have pl := put_len (xs.length : Int)
  have HS : Hid (wrap xs = (put xs.length ++ xs) ++ four (crc (put xs.length ++ xs))) := rfl
  have hcr := crc_lt HB.out
  obtain ⟨a, cap, rfl, _, _, _, _⟩ := h
  clear hx
  go_enter Try.func27, Try.ntmps27
  go_wp2_with fail
  refine (packed_any 9 (xs.length : Int) _ (by omega) (lt_128_10 (by omega)) (by omega)).mono ?_
  rintro e w1 ⟨v1, rfl, hown1, hbel1⟩
  have O1 : Hid (w1.ownsRow w.heap.size 5 1 v1 (put xs.length).length ((put xs.length).map (Value.int .u8))) := hown1
  have B1 : Hid (Below w.heap.size w w1) := hbel1
  clear hown1 hbel1
  generalize put (xs.length : Int) = hd at *
  go_wp2_with fail
  go_loopw [4, 5] (fun v i wr => ∃ k : Nat, k ≤ xs.length ∧ i = .int .i64 k ∧ wr.ownsRow w.heap.size 5 1 v (hd ++ xs.take k).length ((hd ++ xs.take k).map (Value.int .u8)) ∧ Below w.heap.size w wr) (fun _ i _ => xs.length - (intOf i).toNat)
  case atStart => exact ⟨0, by omega, rfl, by simpa using O1.out, B1.out⟩
  case round =>
    obtain ⟨k, hk, rfl, hown, hbel⟩ := hrel
    have hs := hbel.size
    by_cases hlt : k < xs.length
    · obtain ⟨b, off, cap', e1, hc, hm, hb, hcell⟩ := (HR.out.below hbel (Nat.le_refl _)).plain (by omega)
      injection e1 with e1 _ e3
      subst e1 e3
      have hck := hcell k hlt
      have HTk : Hid (xs.take (k + 1) = xs.take k ++ [xs.getD k 0]) := take_snocI hlt
      have hlen : (hd ++ xs.take k).length ≤ 20010 := by simp; omega
      generalize xs.getD k 0 = x at *
      have OW : Hid (wr.ownsRow w.heap.size 5 1 u4 (hd ++ xs.take k).length ((hd ++ xs.take k).map (Value.int .u8))) := hown
      clear hown
      have HA : Hid (hd ++ xs.take (k + 1) = (hd ++ xs.take k) ++ [x]) := by show _ = _; rw [HTk.out]; simp
      clear HTk
      generalize hd ++ xs.take k = f at *
      clear hcell
      go_wp2_with (at_builtin; refine wpList_append_reads rfl _ _ rfl w.heap.size _ f rfl (OW.out.alloc _) _ [x] rfl (reads_block (xs := [x]) (heap_alloc_new _ _) (by simp [maxLen])) (by simp; omega) (by simp; omega) ?_)
      intro v2 w2 hown2 hbel2 _
      have B2 : Hid (Below w.heap.size w w2) := (hbel.alloc hs _).trans hbel2
      have O2 : Hid (w2.ownsRow w.heap.size 5 1 v2 (hd ++ xs.take (k + 1)).length ((hd ++ xs.take (k + 1)).map (Value.int .u8))) := by show World.ownsRow _ _ _ _ _ _ _; rw [HA.out]; simpa using hown2
      clear hown2 hbel2 hbel
      go_wp2
      go_roundw
      case rel => exact ⟨k + 1, by omega, by go_num, O2.out, B2.out⟩
      case measure => simp [intOf]; omega
    · have ek : xs.take k = xs := List.take_of_length_le (by omega)
      rw [ek] at hown
      clear ek
      have O2 : Hid (wr.ownsRow w.heap.size 5 1 u4 (hd ++ xs).length ((hd ++ xs).map (Value.int .u8))) := hown
      have B2 : Hid (Below w.heap.size w wr) := hbel
      clear hown hbel
      have hll : (hd ++ xs).length ≤ 20010 := by simp; omega
      generalize hd ++ xs = f at *
      go_wp2_with fail
      refine (summed_any _ f _ (reads_own O2.out) HB.out).mono ?_
      rintro e w3 ⟨rfl, rfl⟩
      have hc4 : (four (crc f)).length = 4 := rfl
      have R4 : Hid (Reads .u8 (w3.alloc (.cells ((four (crc f)).map (Value.int .u8)).toArray 5)) (.slice (some ⟨w3.heap.size, 0, none⟩) 4 4) (four (crc f))) := reads_block (heap_alloc_new _ _) (by simp [hc4, maxLen])
      have O5 : Hid ((w3.alloc (.cells ((four (crc f)).map (Value.int .u8)).toArray 5)).ownsRow w.heap.size 5 1 u4 f.length (f.map (Value.int .u8))) := O2.out.alloc _
      have B5 : Hid (Below w.heap.size w (w3.alloc (.cells ((four (crc f)).map (Value.int .u8)).toArray 5))) := B2.out.alloc hs _
      simp only [four, List.map_cons, List.map_nil] at R4 O5 B5
      go_wp2_with (at_builtin; refine wpList_append_reads rfl _ _ rfl w.heap.size _ f rfl O5.out _ (four (crc f)) rfl R4.out (by simp [hc4]; omega) (by simp; omega) ?_)
      intro v6 w6 hown6 hbel6 _
      have O6 : Hid (w6.ownsRow w.heap.size 5 1 v6 (wrap xs).length ((wrap xs).map (Value.int .u8))) := by show World.ownsRow _ _ _ _ _ _ _; rw [HS.out]; simpa [hc4] using hown6
      have B6 : Hid (Below w.heap.size w w6) := B5.out.trans hbel6
      clear hown6 hbel6
      go_wp2
      go_ret2
      exact ⟨v6, rfl, O6.out, B6.out⟩

theorem wrapped_over (a : Option Addr) (n cap : Nat) (w : World) (hl : 20000 < n) :
    Calls Try.prog 27 #[.slice a n cap] w fun e w' => e = .returned (.tuple #[.slice none 0 0, .int .i64 1]) ∧ w' = w := by
  go_enter Try.func27, Try.ntmps27
  go_wp2_with fail
  go_ret2
  exact ⟨rfl, rfl⟩
end Go.Proofs.Ythakibcfmbkpkaa

namespace Go.Proofs.Ythakibcfmbkpkaa
set_option maxRecDepth 100000
open Go.ChangeShapes Go.WideShapes Go.ChangeAt Go.RowKit

theorem own_setN {w : World} {base g n cap j : Nat} {xs : List Int} {x : Int} (h : w.ownsRow base 3 1 (.slice (some ⟨g, 0, none⟩) n cap) n (xs.flatMap encI)) : (w.setCell ⟨g, j, none⟩ (.int .i64 x)).ownsRow base 3 1 (.slice (some ⟨g, 0, none⟩) n cap) n ((xs.set j x).flatMap encI) := by
  have := own_setRow (j := j) (x := .int .i64 x) h
  rw [flatI] at this ⊢
  rwa [List.map_set]
theorem own_atN {w : World} {base g n cap : Nat} {xs : List Int} (h : w.ownsRow base 3 1 (.slice (some ⟨g, 0, none⟩) n cap) n (xs.flatMap encI)) {i : Nat} {x : Int} (hx : xs[i]? = some x) : w.cell? ⟨g, i, none⟩ = some (.int .i64 x) := by
  have := h.cells rfl i (.int .i64 x) (by rw [flatI, List.getElem?_map, hx]; rfl)
  rwa [addr_add] at this
end Go.Proofs.Ythakibcfmbkpkaa

namespace Go.Proofs.Ythakibcfmbkpkaa
set_option maxRecDepth 100000
open Go.ChangeShapes Go.WideShapes Go.ChangeAt Go.RowKit

set_option maxHeartbeats 8000000 in
set_option maxRecDepth 100000 in
theorem savedBytes_any (s : SvS) (vv vm : Value) (w : World) (hv : MlR w vv s.vals) (hm : MlR w vm s.mail) :
    Calls Try.prog 15 #[.agg #[.int .i64 s.step, .int .i64 s.phase, .bool s.fresh, vv, vm]] w (BytP2 w (encS s)) := by
  have HV : Hid (MlR w vv s.vals) := hv
  have HM : Hid (MlR w vm s.mail) := hm
  have CM : Hid (∀ X, MlR X vv s.vals → MlR X vm s.mail → Calls Try.prog 28 #[.agg #[.int .i64 s.step, .int .i64 s.phase, .bool s.fresh, vv, vm]] X fun e w' => e = .returned (.bool (svMay s)) ∧ Below X.heap.size X w') := fun X h1 h2 => savedMay_any s vv vm X h1 h2
  obtain ⟨va, vc, rfl, hvc, hvm, _, _⟩ := hv
  obtain ⟨ma, mc, rfl, hmc, hmm, _, _⟩ := hm
  unfold maxLen at hvm hmm
  have EN : Hid (svMay s = false → encS s = ([], 9)) := encS_no
  have EB : Hid (svMay s = true → ¬ (bytN (numsS s)).length ≤ 20000 → encS s = ([], 1)) := encS_big
  have EY : Hid (svMay s = true → (bytN (numsS s)).length ≤ 20000 → encS s = (wrap (bytN (numsS s)), 0)) := encS_yes
  have NI : Hid (svMay s = true → ∀ n ∈ numsS s, 0 ≤ n ∧ n ≤ 4398046511105) := numsS_in
  have BY : Hid (svMay s = true → ∀ x ∈ bytN (numsS s), 0 ≤ x ∧ x ≤ 255) := fun h => bytN_bytes (fun n hn => ⟨(numsS_in h n hn).1, by have := (numsS_in h n hn).2; omega⟩)
  have NB : Hid (svMay s = true → s.vals.length ≤ 200 ∧ s.mail.length ≤ 5000 ∧ (∀ x ∈ s.vals, -1 ≤ x.1 ∧ x.1 ≤ 4398046511104 ∧ -1 ≤ x.2 ∧ x.2 < 200)) := fun h => by
    obtain ⟨⟨h1, h2, h3⟩, h4, h5, h6, _, h7⟩ := svMay_iff.1 h
    exact ⟨h4, h6, fun x hx => valS_iff.1 (valA_iff.1 h5 x hx)⟩
  have NE : Hid (numsS s = (([s.step, s.phase, if s.fresh then 1 else 0, (s.vals.length : Int)] ++ pairN 1 s.vals) ++ [(s.mail.length : Int)]) ++ pairN 0 s.mail) := by
    show _ = _
    unfold numsS
    rw [List.append_assoc, List.append_assoc]
  have NL : Hid ((numsS s).length = 5 + 2 * s.vals.length + 2 * s.mail.length) := numsS_len s
  generalize encS s = R at *
  generalize svMay s = r at *
  generalize numsS s = NS at *
  obtain ⟨st, ph, fr, vs, ms⟩ := s
  simp only at HV HM CM hvc hvm hmc hmm NB NE NL ⊢
  have X0 : BX 27 (w.alloc (.cells #[.int .i64 st, .int .i64 ph, .bool fr, .slice va vs.length vc, .slice ma ms.length mc] 27)) w.heap.size #[.int .i64 st, .int .i64 ph, .bool fr, .slice va vs.length vc, .slice ma ms.length mc] := BX.new _ _ _
  have B0 : Below w.heap.size w (w.alloc (.cells #[.int .i64 st, .int .i64 ph, .bool fr, .slice va vs.length vc, .slice ma ms.length mc] 27)) := below_alloc _ _
  go_enter Try.func15, Try.ntmps15
  go_upto_region 1 with fail
  generalize w.alloc (.cells #[.int .i64 st, .int .i64 ph, .bool fr, .slice va vs.length vc, .slice ma ms.length mc] 27) = W0 at *
  have HK0 : Hid (∀ X, Below W0.heap.size W0 X → BX 27 X w.heap.size #[.int .i64 st, .int .i64 ph, .bool fr, .slice va vs.length vc, .slice ma ms.length mc] ∧ Below w.heap.size w X ∧ MlR X (.slice va vs.length vc) vs ∧ MlR X (.slice ma ms.length mc) ms) := fun X hX => ⟨X0.below hX X0.lt, B0.trans (hX.mono B0.size), HV.out.below (B0.trans (hX.mono B0.size)) (Nat.le_refl _), HM.out.below (B0.trans (hX.mono B0.size)) (Nat.le_refl _)⟩
  have A0 : Hid (Below W0.heap.size W0 W0) := Below.refl _ _
  obtain ⟨c0, c1, c2, c3, c4⟩ := X0.all5
  clear X0 B0 HV HM
  go_wp2_with fail
  refine (CM.out _ (HK0.out _ A0.out).2.2.1 (HK0.out _ A0.out).2.2.2).mono ?_
  rintro e W1 ⟨rfl, hb1⟩
  have A1 : Hid (Below W0.heap.size W0 W1) := hb1
  obtain ⟨Q1, bw1, _, _⟩ := HK0.out _ hb1
  have BW1 : Hid (Below w.heap.size w W1) := bw1
  clear c0 c1 c2 c3 c4 hb1 bw1 CM
  obtain ⟨c0, c1, c2, c3, c4⟩ := Q1.all5
  clear Q1
  cases r
  · have e := EN.out rfl
    subst e
    have HP : Hid (BytP2 w ([], 9) (.returned (.tuple #[.slice none 0 0, .int .i64 9])) W1) := BytP2.no BW1.out
    clear EN EB EY NI NB NE NL BY
    generalize BytP2 w ([], 9) = P at *
    go_wp2_with fail
    exact HP.out
  · obtain ⟨hvl, hml, hvb⟩ := NB.out rfl
    have HVB : Hid (∀ x ∈ vs, -1 ≤ x.1 ∧ x.1 ≤ 4398046511104 ∧ -1 ≤ x.2 ∧ x.2 < 200) := hvb
    have EB2 : Hid (¬ (bytN NS).length ≤ 20000 → R = ([], 1)) := EB.out rfl
    have EY2 : Hid ((bytN NS).length ≤ 20000 → R = (wrap (bytN NS), 0)) := EY.out rfl
    have HNI : Hid (∀ n ∈ NS, 0 ≤ n ∧ n ≤ 4398046511105) := NI.out rfl
    have HNB : Hid (∀ x ∈ bytN NS, 0 ≤ x ∧ x ≤ 255) := BY.out rfl
    have HNL : Hid (NS.length ≤ 10405) := by have := NL.out; show _ ≤ _; omega
    clear hvb EN EB EY NI NB NL BY
    have HK : Hid (∀ X, Below W1.heap.size W1 X → BX 27 X w.heap.size #[.int .i64 st, .int .i64 ph, .bool fr, .slice va vs.length vc, .slice ma ms.length mc] ∧ Below w.heap.size w X ∧ MlR X (.slice va vs.length vc) vs ∧ MlR X (.slice ma ms.length mc) ms) := fun X hX => HK0.out X (A1.out.trans (hX.mono A1.out.size))
    have hqw := BW1.out.size
    clear HK0 A0 A1 BW1
    have W2 : Hid ((W1.alloc (.cells #[.int .i64 st, .int .i64 ph, .int .i64 0, .int .i64 (vs.length : Int)] 3)).ownsRow W1.heap.size 3 1 (.slice (some ⟨W1.heap.size, 0, none⟩) 4 4) ([st, ph, 0, (vs.length : Int)] : List Int).length (([st, ph, 0, (vs.length : Int)] : List Int).flatMap encI) ∧ Below W1.heap.size W1 (W1.alloc (.cells #[.int .i64 st, .int .i64 ph, .int .i64 0, .int .i64 (vs.length : Int)] 3)) ∧ (W1.alloc (.cells #[.int .i64 st, .int .i64 ph, .int .i64 0, .int .i64 (vs.length : Int)] 3)).heap.size = W1.heap.size + 1) := ⟨own_lit4 W1 _ (Nat.le_refl _) _ _ _ _, below_alloc _ _, by simp⟩
    go_upto_region 4 with fail
    generalize W1.alloc (.cells #[.int .i64 st, .int .i64 ph, .int .i64 0, .int .i64 (vs.length : Int)] 3) = W3 at *
    obtain ⟨o3', b3', hsz3⟩ := W2.out
    have HSE : Hid (W3.heap.size = W1.heap.size + 1) := hsz3
    generalize hB : W1.heap.size = B at *
    have HBE : Hid (W1.heap.size = B) := hB
    have O3 : Hid (W3.ownsRow B 3 1 (.slice (some ⟨B, 0, none⟩) 4 4) ([st, ph, 0, (vs.length : Int)] : List Int).length (([st, ph, 0, (vs.length : Int)] : List Int).flatMap encI)) := o3'
    have A3 : Hid (Below B W1 W3) := b3'
    obtain ⟨Q3, _, _, _⟩ := HK.out _ b3'
    clear c0 c1 c2 c3 c4 W2 o3' b3' hsz3 hB
    obtain ⟨c0, c1, c2, c3, c4⟩ := Q3.all5
    clear Q3
    obtain ⟨fz, hfz⟩ : ∃ z : Int, (if fr then (1 : Int) else 0) = z := ⟨_, rfl⟩
    have HFZ : Hid ((if fr then (1 : Int) else 0) = fz) := hfz
    rw [hfz] at NE
    clear hfz
    go_upto_if 23 with fail
    go_cut [] from 23 to 23 (fun wx => wx.ownsRow B 3 1 (.slice (some ⟨B, 0, none⟩) 4 4) ([st, ph, fz, (vs.length : Int)] : List Int).length (([st, ph, fz, (vs.length : Int)] : List Int).flatMap encI) ∧ Below B W1 wx)
    case first =>
      cases fr
      · have e : (0 : Int) = fz := by rw [← HFZ.out]; rfl
        subst e
        clear HFZ
        go_wp2_with fail
        go_meet
        case rel => exact ⟨O3.out, A3.out⟩
      · have e : (1 : Int) = fz := by rw [← HFZ.out]; rfl
        subst e
        have O4 : Hid ((W3.setCell ⟨B, 2, none⟩ (.int .i64 1)).ownsRow B 3 1 (.slice (some ⟨B, 0, none⟩) 4 4) ([st, ph, 1, (vs.length : Int)] : List Int).length (([st, ph, 1, (vs.length : Int)] : List Int).flatMap encI)) := own_setN (j := 2) (x := 1) (xs := [st, ph, 0, (vs.length : Int)]) O3.out
        have A4 : Hid (Below B W1 (W3.setCell ⟨B, 2, none⟩ (.int .i64 1))) := A3.out.setCell (p := ⟨B, 2, none⟩) (Nat.le_refl _) _
        have z2 : W3.cell? ⟨B, 2, none⟩ = some (.int .i64 0) := own_atN (xs := [st, ph, 0, (vs.length : Int)]) O3.out (i := 2) rfl
        have z3 := frozenK O3.out 2
        clear HFZ
        go_wp2_with fail
        go_meet
        case rel => exact ⟨O4.out, A4.out⟩
    case rest =>
    obtain ⟨hoc, hbc⟩ := hcut
    have OC : Hid (wc.ownsRow B 3 1 (.slice (some ⟨B, 0, none⟩) 4 4) ([st, ph, fz, (vs.length : Int)] : List Int).length (([st, ph, fz, (vs.length : Int)] : List Int).flatMap encI)) := hoc
    have AC : Hid (Below B W1 wc) := hbc
    have HZ0 : Hid ([st, ph, fz, (vs.length : Int)] ++ pairN 1 (vs.take 0) = [st, ph, fz, (vs.length : Int)]) := by show _ = _; simp [pairN]
    have HL4 : Hid (([st, ph, fz, (vs.length : Int)] : List Int).length = 4) := rfl
    clear hoc hbc O3 A3 HFZ
    generalize [st, ph, fz, (vs.length : Int)] = N0 at *
    go_wp2_with fail
    clear c0 c1 c2 c3 c4
    go_loopw [4, 5] (fun l i wr => ∃ k : Nat, k ≤ vs.length ∧ i = .int .i64 k ∧ (∃ a n c, l = .slice a n c) ∧ wr.ownsRow B 3 1 l (N0 ++ pairN 1 (vs.take k)).length ((N0 ++ pairN 1 (vs.take k)).flatMap encI) ∧ Below B W1 wr) (fun _ i _ => vs.length - (intOf i).toNat)
    case atStart => exact ⟨0, by omega, rfl, ⟨_, _, _, rfl⟩, by rw [HZ0.out]; exact OC.out, AC.out⟩
    case round =>
      clear OC AC HZ0
      obtain ⟨k, hk, rfl, ⟨la, ln, lc, rfl⟩, how, hbel⟩ := hrel
      have OW : Hid (wr.ownsRow B 3 1 (.slice la ln lc) (N0 ++ pairN 1 (vs.take k)).length ((N0 ++ pairN 1 (vs.take k)).flatMap encI)) := how
      have AB : Hid (Below B W1 wr) := hbel
      have hsr : B ≤ wr.heap.size := by have := hbel.size; have := HBE.out; omega
      have hll : (N0 ++ pairN 1 (vs.take k)).length ≤ 500 := by have := HL4.out; rw [List.length_append, pairN_len, List.length_take]; omega
      obtain ⟨Q7, _, MV, _⟩ := HK.out _ hbel
      clear how hbel
      by_cases hlt : k < vs.length
      · obtain ⟨bv, ov, cv', e5, _, _, ltv, hvv⟩ := MlR.at (HK.out W1 (Below.refl _ _)).2.2.1 (by omega)
        injection e5 with e5 _ e6
        subst e5 e6
        obtain ⟨x, hx⟩ := getX hlt
        obtain ⟨y0, y1⟩ := hvv k x hx
        obtain ⟨g1, g2, g3, g4⟩ := HVB.out x (List.mem_of_getElem? hx)
        have HT : Hid (N0 ++ pairN 1 (vs.take (k + 1)) = (N0 ++ pairN 1 (vs.take k)) ++ [x.1 + 1, x.2 + 1]) := by show _ = _; rw [take_snoc hx, pairN_app, pairN_one, List.append_assoc]
        have p0 : (0 : Int) ≤ (k : Int) := by omega
        have p1 : (k : Int) < (vs.length : Int) := by omega
        have w1 : IntKind.i64.wrap (x.1 + 1) = x.1 + 1 := wrap_id64 (by omega) (by omega)
        have w2 : IntKind.i64.wrap (x.2 + 1) = x.2 + 1 := wrap_id64 (by omega) (by omega)
        obtain ⟨x1, x2⟩ := x
        simp only at y0 y1 g1 g2 g3 g4 HT w1 w2
        generalize N0 ++ pairN 1 (vs.take k) = M at *
        have HSB : Hid (∀ V, Below B W1 V → (V.cell? ⟨w.heap.size, 3, none⟩ = some (.slice (some ⟨bv, ov, none⟩) vs.length vc) ∧ V.cell? ⟨bv, ov + k * 2, none⟩ = some (.int .i64 x1) ∧ V.cell? ⟨bv, ov + k * 2 + 1, none⟩ = some (.int .i64 x2))) := fun V hV => ⟨(HK.out V hV).1.all5.2.2.2.1, (hV.cell (p := ⟨bv, ov + k * 2, none⟩) (by have := HBE.out; show bv < B; omega)).trans y0, (hV.cell (p := ⟨bv, ov + k * 2 + 1, none⟩) (by have := HBE.out; show bv < B; omega)).trans y1⟩
        have HS : Hid (∀ V, Below wr.heap.size wr V → (V.cell? ⟨w.heap.size, 3, none⟩ = some (.slice (some ⟨bv, ov, none⟩) vs.length vc) ∧ V.cell? ⟨bv, ov + k * 2, none⟩ = some (.int .i64 x1) ∧ V.cell? ⟨bv, ov + k * 2 + 1, none⟩ = some (.int .i64 x2))) := fun V hV => HSB.out V (AB.out.trans (hV.mono hsr))
        obtain ⟨c0, c1, c2, c3, c4⟩ := Q7.all5
        clear hvv hx Q7 MV y0 y1
        go_upto_region 9 with fail
        clear c0 c1 c2 c3 c4
        have bd : Below wr.heap.size wr wr.drew := (Below.refl _ _).drew
        have HS0 : Hid (wr.drew.cell? ⟨w.heap.size, 3, none⟩ = some (.slice (some ⟨bv, ov, none⟩) vs.length vc) ∧ wr.drew.cell? ⟨bv, ov + k * 2, none⟩ = some (.int .i64 x1) ∧ wr.drew.cell? ⟨bv, ov + k * 2 + 1, none⟩ = some (.int .i64 x2)) := HS.out _ bd
        have ba : Below wr.heap.size wr (wr.drew.alloc (.cells #[.int .i64 (x1 + 1), .int .i64 (x2 + 1)] 3)) := bd.alloc bd.size _
        have HSA : Hid ((wr.drew.alloc (.cells #[.int .i64 (x1 + 1), .int .i64 (x2 + 1)] 3)).cell? ⟨w.heap.size, 3, none⟩ = some (.slice (some ⟨bv, ov, none⟩) vs.length vc) ∧ (wr.drew.alloc (.cells #[.int .i64 (x1 + 1), .int .i64 (x2 + 1)] 3)).cell? ⟨bv, ov + k * 2, none⟩ = some (.int .i64 x1) ∧ (wr.drew.alloc (.cells #[.int .i64 (x1 + 1), .int .i64 (x2 + 1)] 3)).cell? ⟨bv, ov + k * 2 + 1, none⟩ = some (.int .i64 x2)) := HS.out _ ba
        have owA : (wr.drew.alloc (.cells #[.int .i64 (x1 + 1), .int .i64 (x2 + 1)] 3)).ownsRow B 3 1 (.slice la ln lc) M.length (M.flatMap encI) := own_below OW.out ba (Nat.le_refl _)
        obtain ⟨v8, w8, hrun8, hown8, hg8⟩ := run_append_rowK kI (w := wr.drew.alloc (.cells #[.int .i64 (x1 + 1), .int .i64 (x2 + 1)] 3)) 39 B (.slice la ln lc) M owA (.slice (some ⟨wr.heap.size, 0, none⟩) 2 2) [x1 + 1, x2 + 1] (RowK.own encI_len (own_lit2 wr.drew B (by show B ≤ wr.heap.size; omega) (x1 + 1) (x2 + 1))) (by show (M.length + 2) * 8 ≤ _; omega) (by unfold maxLen; simp only [List.length_cons, List.length_nil]; omega) (by have := ba.size; omega)
        have b8 : Below B W1 w8 := (AB.out.trans (ba.mono (by omega))).grown hg8 (by have := ba.size; omega) (fun g hg => (own_ge owA hg).1)
        have HS8 : Hid (w8.cell? ⟨w.heap.size, 3, none⟩ = some (.slice (some ⟨bv, ov, none⟩) vs.length vc) ∧ w8.cell? ⟨bv, ov + k * 2, none⟩ = some (.int .i64 x1) ∧ w8.cell? ⟨bv, ov + k * 2 + 1, none⟩ = some (.int .i64 x2)) := HSB.out _ b8
        refine wp_region_held (S := fun V => (V.cell? ⟨w.heap.size, 3, none⟩ = some (.slice (some ⟨bv, ov, none⟩) vs.length vc) ∧ V.cell? ⟨bv, ov + k * 2, none⟩ = some (.int .i64 x1) ∧ V.cell? ⟨bv, ov + k * 2 + 1, none⟩ = some (.int .i64 x2))) (by kernel_rfl) ?_
        simp only [List.size_toArray, List.length_cons, List.length_nil, Nat.reduceAdd]
        refine takeH (i := 0) (v := .slice la ln lc) (d := 33) rfl rfl (by kernel_rfl) (by kernel_rfl) (by kernel_rfl) (fun _ _ _ h => h) (by rfl) (fun V hV => by obtain ⟨v1, v2, v3⟩ := hV; go_simp) HS0.out ?_
        simp only [Act.put, List.setIfInBounds_toArray, List.set_cons_zero, List.set_cons_succ]
        refine takeH (i := 1) (v := .pointer (some ⟨w.heap.size, 3, none⟩)) (d := 34) rfl rfl (by kernel_rfl) (by kernel_rfl) (by kernel_rfl) (fun _ _ _ h => h) (by rfl) (fun V hV => by obtain ⟨v1, v2, v3⟩ := hV; go_simp) HS0.out ?_
        simp only [Act.put, List.setIfInBounds_toArray, List.set_cons_zero, List.set_cons_succ]
        refine takeH (i := 2) (v := .slice (some ⟨bv, ov, none⟩) vs.length vc) (d := 35) rfl rfl (by kernel_rfl) (by kernel_rfl) (by kernel_rfl) (fun _ _ _ h => h) (by rfl) (fun V hV => by obtain ⟨v1, v2, v3⟩ := hV; go_simp) HS0.out ?_
        simp only [Act.put, List.setIfInBounds_toArray, List.set_cons_zero, List.set_cons_succ]
        refine takeH (i := 3) (v := .int .i64 (k : Int)) (d := 36) rfl rfl (by kernel_rfl) (by kernel_rfl) (by kernel_rfl) (fun _ _ _ h => h) (by rfl) (fun V hV => by obtain ⟨v1, v2, v3⟩ := hV; go_simp) HS0.out ?_
        simp only [Act.put, List.setIfInBounds_toArray, List.set_cons_zero, List.set_cons_succ]
        refine takeH (i := 4) (v := .pointer (some ⟨bv, ov + k * 2, none⟩)) (d := 37) rfl rfl (by kernel_rfl) (by kernel_rfl) (by kernel_rfl) (fun _ _ _ h => h) (by rfl) (fun V hV => by obtain ⟨v1, v2, v3⟩ := hV; go_simp) HS0.out ?_
        simp only [Act.put, List.setIfInBounds_toArray, List.set_cons_zero, List.set_cons_succ]
        refine takeH (i := 5) (v := .pointer (some ⟨bv, ov + k * 2, none⟩)) (d := 38) rfl rfl (by kernel_rfl) (by kernel_rfl) (by kernel_rfl) (fun _ _ _ h => h) (by rfl) (fun V hV => by obtain ⟨v1, v2, v3⟩ := hV; go_simp) HS0.out ?_
        simp only [Act.put, List.setIfInBounds_toArray, List.set_cons_zero, List.set_cons_succ]
        refine takeH (i := 6) (v := .int .i64 x1) (d := 39) rfl rfl (by kernel_rfl) (by kernel_rfl) (by kernel_rfl) (fun _ _ _ h => h) (by rfl) (fun V hV => by obtain ⟨v1, v2, v3⟩ := hV; go_simp) HS0.out ?_
        simp only [Act.put, List.setIfInBounds_toArray, List.set_cons_zero, List.set_cons_succ]
        refine takeH (i := 7) (v := .int .i64 (x1 + 1)) (d := 40) rfl rfl (by kernel_rfl) (by kernel_rfl) (by kernel_rfl) (fun _ _ _ h => h) (by rfl) (fun V hV => by obtain ⟨v1, v2, v3⟩ := hV; go_simp) HS0.out ?_
        simp only [Act.put, List.setIfInBounds_toArray, List.set_cons_zero, List.set_cons_succ]
        refine takeH (i := 8) (v := .pointer (some ⟨w.heap.size, 3, none⟩)) (d := 41) rfl rfl (by kernel_rfl) (by kernel_rfl) (by kernel_rfl) (fun _ _ _ h => h) (by rfl) (fun V hV => by obtain ⟨v1, v2, v3⟩ := hV; go_simp) HS0.out ?_
        simp only [Act.put, List.setIfInBounds_toArray, List.set_cons_zero, List.set_cons_succ]
        refine takeH (i := 9) (v := .slice (some ⟨bv, ov, none⟩) vs.length vc) (d := 42) rfl rfl (by kernel_rfl) (by kernel_rfl) (by kernel_rfl) (fun _ _ _ h => h) (by rfl) (fun V hV => by obtain ⟨v1, v2, v3⟩ := hV; go_simp) HS0.out ?_
        simp only [Act.put, List.setIfInBounds_toArray, List.set_cons_zero, List.set_cons_succ]
        refine takeH (i := 10) (v := .int .i64 (k : Int)) (d := 43) rfl rfl (by kernel_rfl) (by kernel_rfl) (by kernel_rfl) (fun _ _ _ h => h) (by rfl) (fun V hV => by obtain ⟨v1, v2, v3⟩ := hV; go_simp) HS0.out ?_
        simp only [Act.put, List.setIfInBounds_toArray, List.set_cons_zero, List.set_cons_succ]
        refine takeH (i := 11) (v := .pointer (some ⟨bv, ov + k * 2, none⟩)) (d := 44) rfl rfl (by kernel_rfl) (by kernel_rfl) (by kernel_rfl) (fun _ _ _ h => h) (by rfl) (fun V hV => by obtain ⟨v1, v2, v3⟩ := hV; go_simp) HS0.out ?_
        simp only [Act.put, List.setIfInBounds_toArray, List.set_cons_zero, List.set_cons_succ]
        refine takeH (i := 12) (v := .pointer (some ⟨bv, ov + k * 2 + 1, none⟩)) (d := 45) rfl rfl (by kernel_rfl) (by kernel_rfl) (by kernel_rfl) (fun _ _ _ h => h) (by rfl) (fun V hV => by obtain ⟨v1, v2, v3⟩ := hV; go_simp) HS0.out ?_
        simp only [Act.put, List.setIfInBounds_toArray, List.set_cons_zero, List.set_cons_succ]
        refine takeH (i := 13) (v := .int .i64 x2) (d := 46) rfl rfl (by kernel_rfl) (by kernel_rfl) (by kernel_rfl) (fun _ _ _ h => h) (by rfl) (fun V hV => by obtain ⟨v1, v2, v3⟩ := hV; go_simp) HS0.out ?_
        simp only [Act.put, List.setIfInBounds_toArray, List.set_cons_zero, List.set_cons_succ]
        refine takeH (i := 14) (v := .int .i64 (x2 + 1)) (d := 47) rfl rfl (by kernel_rfl) (by kernel_rfl) (by kernel_rfl) (fun _ _ _ h => h) (by rfl) (fun V hV => by obtain ⟨v1, v2, v3⟩ := hV; go_simp) HS0.out ?_
        simp only [Act.put, List.setIfInBounds_toArray, List.set_cons_zero, List.set_cons_succ]
        refine oneH (i := 15) rfl (by kernel_rfl) rfl (op_run (d := 48) (v' := .slice (some ⟨wr.heap.size, 0, none⟩) 2 2) (w' := wr.drew.alloc (.cells #[.int .i64 (x1 + 1), .int .i64 (x2 + 1)] 3)) rfl (by go_simp) ⟨HSA.out, ?_⟩)
        simp only [Act.put, List.setIfInBounds_toArray, List.set_cons_zero, List.set_cons_succ]
        refine oneH (i := 16) rfl (by kernel_rfl) rfl (call_append (d := 49) (s := .tmp 33) (x := .tmp 48) (t := 39) rfl rfl rfl rfl hrun8 ⟨HS8.out, ?_⟩)
        simp only [Act.put, List.setIfInBounds_toArray, List.set_cons_zero, List.set_cons_succ]
        obtain ⟨ya, yn, yc, rfl⟩ : ∃ a n c, v8 = .slice a n c := by
          obtain ⟨p1, p2, e⟩ := (RowK.own encI_len hown8 : InR w8 v8 (M ++ [x1 + 1, x2 + 1])).shape
          exact ⟨_, _, _, e⟩
        refine takeH (i := 17) (v := .slice ya yn yc) (d := 4) rfl rfl (by kernel_rfl) (by kernel_rfl) (by kernel_rfl) (fun _ _ _ h => h) (by rfl) (fun V hV => by obtain ⟨v1, v2, v3⟩ := hV; go_simp) HS8.out ?_
        simp only [Act.put, List.setIfInBounds_toArray, List.set_cons_zero, List.set_cons_succ]
        refine wpAnyH_done (by kernel_rfl) ?_ _
        have NO : Hid (w8.ownsRow B 3 1 (.slice ya yn yc) (M ++ [x1 + 1, x2 + 1]).length ((M ++ [x1 + 1, x2 + 1]).flatMap encI)) := hown8
        have NA : Hid (Below B W1 w8) := b8
        clear HS0 HSA HS8 HS owA hrun8 hown8 hg8 b8 ba bd OW AB
        go_wp2_with fail
        go_roundw
        case rel => exact ⟨k + 1, by omega, by go_num, ⟨_, _, _, rfl⟩, by rw [HT.out]; exact NO.out, NA.out⟩
        case measure => simp [intOf]; omega
      · have ek : vs.take k = vs := List.take_of_length_le (by omega)
        rw [ek] at OW hll
        obtain ⟨c0, c1, c2, c3, c4⟩ := Q7.all5
        generalize N0 ++ pairN 1 vs = N1 at *
        obtain ⟨V7, hV7⟩ : ∃ V, V = wr := ⟨wr, rfl⟩
        rw [← hV7] at OW AB hsr c0 c1 c2 c3 c4 ⊢
        clear ek Q7 MV hV7
        have owA : Hid ((V7.alloc (.cells #[.int .i64 (ms.length : Int)] 3)).ownsRow B 3 1 (.slice la ln lc) N1.length (N1.flatMap encI)) := OW.out.alloc _
        have RL : Hid (InR (V7.alloc (.cells #[.int .i64 (ms.length : Int)] 3)) (.slice (some ⟨V7.heap.size, 0, none⟩) 1 1) [(ms.length : Int)]) := RowK.own encI_len (own_lit1 V7 B hsr _)
        have baA : Hid (Below B W1 (V7.alloc (.cells #[.int .i64 (ms.length : Int)] 3)) ∧ B ≤ (V7.alloc (.cells #[.int .i64 (ms.length : Int)] 3)).heap.size) := ⟨AB.out.alloc hsr _, by simp; omega⟩
        go_wp2_with (at_builtin; refine wpList_append_rowK kI rfl _ _ rfl B _ N1 rfl owA.out _ [(ms.length : Int)] rfl RL.out ?d1 ?d2 baA.out.2 ?_)
        case d1 => show (N1.length + 1) * 8 ≤ _; omega
        case d2 => unfold maxLen; simp only [List.length_cons, List.length_nil]; omega
        intro v8 w8 hown8' hb8 _
        have hown8 : w8.ownsRow B 3 1 v8 (N1 ++ [(ms.length : Int)]).length ((N1 ++ [(ms.length : Int)]).flatMap encI) := by rw [flat_snoc, List.length_append]; exact hown8'
        clear hown8'
        obtain ⟨ya, yn, yc, rfl⟩ : ∃ a n c, v8 = .slice a n c := by
          obtain ⟨p1, p2, e⟩ := (RowK.own encI_len hown8 : InR w8 v8 (N1 ++ [(ms.length : Int)])).shape
          exact ⟨_, _, _, e⟩
        have O8 : Hid (w8.ownsRow B 3 1 (.slice ya yn yc) (N1 ++ [(ms.length : Int)]).length ((N1 ++ [(ms.length : Int)]).flatMap encI)) := hown8
        have A8 : Hid (Below B W1 w8) := baA.out.1.trans hb8
        have HL2 : Hid ((N1 ++ [(ms.length : Int)]).length ≤ 501) := by show _ ≤ _; rw [List.length_append]; simp only [List.length_cons, List.length_nil]; omega
        have HZ2 : Hid ((N1 ++ [(ms.length : Int)]) ++ pairN 0 (ms.take 0) = N1 ++ [(ms.length : Int)]) := by show _ = _; simp [pairN]
        clear hown8 hb8 owA RL baA OW AB c0 c1 c2 c3 c4
        obtain ⟨Q8, _, _, _⟩ := HK.out _ A8.out
        obtain ⟨c0, c1, c2, c3, c4⟩ := Q8.all5
        clear Q8
        generalize N1 ++ [(ms.length : Int)] = N2 at *
        go_wp2_with fail
        clear c0 c1 c2 c3 c4
        go_loopw [4, 6] (fun l i wr => ∃ k : Nat, k ≤ ms.length ∧ i = .int .i64 k ∧ (∃ a n c, l = .slice a n c) ∧ wr.ownsRow B 3 1 l (N2 ++ pairN 0 (ms.take k)).length ((N2 ++ pairN 0 (ms.take k)).flatMap encI) ∧ Below B W1 wr) (fun _ i _ => ms.length - (intOf i).toNat)
        case atStart => exact ⟨0, by omega, rfl, ⟨_, _, _, rfl⟩, by rw [HZ2.out]; exact O8.out, A8.out⟩
        case round =>
          clear O8 A8 HZ2 hsr hll
          obtain ⟨k, hk, rfl, ⟨la, ln, lc, rfl⟩, how, hbel⟩ := hrel
          have OW : Hid (wr.ownsRow B 3 1 (.slice la ln lc) (N2 ++ pairN 0 (ms.take k)).length ((N2 ++ pairN 0 (ms.take k)).flatMap encI)) := how
          have AB : Hid (Below B W1 wr) := hbel
          have hsr : B ≤ wr.heap.size := by have := hbel.size; have := HBE.out; omega
          have hll : (N2 ++ pairN 0 (ms.take k)).length ≤ 11000 := by have := HL2.out; rw [List.length_append, pairN_len, List.length_take]; omega
          obtain ⟨Q7, BW7, _, MM⟩ := HK.out _ hbel
          clear how hbel
          by_cases hlt : k < ms.length
          · obtain ⟨bv, ov, cv', e5, _, _, ltv, hvv⟩ := MlR.at (HK.out W1 (Below.refl _ _)).2.2.2 (by omega)
            injection e5 with e5 _ e6
            subst e5 e6
            obtain ⟨x, hx⟩ := getX hlt
            obtain ⟨y0, y1⟩ := hvv k x hx
            have HT : Hid (N2 ++ pairN 0 (ms.take (k + 1)) = (N2 ++ pairN 0 (ms.take k)) ++ [x.1, x.2]) := by show _ = _; rw [take_snoc hx, pairN_app, pairN_one, List.append_assoc, Int.add_zero, Int.add_zero]
            have p0 : (0 : Int) ≤ (k : Int) := by omega
            have p1 : (k : Int) < (ms.length : Int) := by omega
            obtain ⟨x1, x2⟩ := x
            simp only at y0 y1 HT
            generalize N2 ++ pairN 0 (ms.take k) = M at *
            have HSB : Hid (∀ V, Below B W1 V → (V.cell? ⟨w.heap.size, 4, none⟩ = some (.slice (some ⟨bv, ov, none⟩) ms.length mc) ∧ V.cell? ⟨bv, ov + k * 2, none⟩ = some (.int .i64 x1) ∧ V.cell? ⟨bv, ov + k * 2 + 1, none⟩ = some (.int .i64 x2))) := fun V hV => ⟨(HK.out V hV).1.all5.2.2.2.2, (hV.cell (p := ⟨bv, ov + k * 2, none⟩) (by have := HBE.out; show bv < B; omega)).trans y0, (hV.cell (p := ⟨bv, ov + k * 2 + 1, none⟩) (by have := HBE.out; show bv < B; omega)).trans y1⟩
            have HS : Hid (∀ V, Below wr.heap.size wr V → (V.cell? ⟨w.heap.size, 4, none⟩ = some (.slice (some ⟨bv, ov, none⟩) ms.length mc) ∧ V.cell? ⟨bv, ov + k * 2, none⟩ = some (.int .i64 x1) ∧ V.cell? ⟨bv, ov + k * 2 + 1, none⟩ = some (.int .i64 x2))) := fun V hV => HSB.out V (AB.out.trans (hV.mono hsr))
            obtain ⟨c0, c1, c2, c3, c4⟩ := Q7.all5
            clear hvv hx Q7 MM BW7 y0 y1
            go_upto_region 14 with fail
            clear c0 c1 c2 c3 c4
            have bd : Below wr.heap.size wr wr.drew := (Below.refl _ _).drew
            have HS0 : Hid (wr.drew.cell? ⟨w.heap.size, 4, none⟩ = some (.slice (some ⟨bv, ov, none⟩) ms.length mc) ∧ wr.drew.cell? ⟨bv, ov + k * 2, none⟩ = some (.int .i64 x1) ∧ wr.drew.cell? ⟨bv, ov + k * 2 + 1, none⟩ = some (.int .i64 x2)) := HS.out _ bd
            have ba : Below wr.heap.size wr (wr.drew.alloc (.cells #[.int .i64 (x1), .int .i64 (x2)] 3)) := bd.alloc bd.size _
            have HSA : Hid ((wr.drew.alloc (.cells #[.int .i64 (x1), .int .i64 (x2)] 3)).cell? ⟨w.heap.size, 4, none⟩ = some (.slice (some ⟨bv, ov, none⟩) ms.length mc) ∧ (wr.drew.alloc (.cells #[.int .i64 (x1), .int .i64 (x2)] 3)).cell? ⟨bv, ov + k * 2, none⟩ = some (.int .i64 x1) ∧ (wr.drew.alloc (.cells #[.int .i64 (x1), .int .i64 (x2)] 3)).cell? ⟨bv, ov + k * 2 + 1, none⟩ = some (.int .i64 x2)) := HS.out _ ba
            have owA : (wr.drew.alloc (.cells #[.int .i64 (x1), .int .i64 (x2)] 3)).ownsRow B 3 1 (.slice la ln lc) M.length (M.flatMap encI) := own_below OW.out ba (Nat.le_refl _)
            obtain ⟨v8, w8, hrun8, hown8, hg8⟩ := run_append_rowK kI (w := wr.drew.alloc (.cells #[.int .i64 (x1), .int .i64 (x2)] 3)) 39 B (.slice la ln lc) M owA (.slice (some ⟨wr.heap.size, 0, none⟩) 2 2) [x1, x2] (RowK.own encI_len (own_lit2 wr.drew B (by show B ≤ wr.heap.size; omega) (x1) (x2))) (by show (M.length + 2) * 8 ≤ _; omega) (by unfold maxLen; simp only [List.length_cons, List.length_nil]; omega) (by have := ba.size; omega)
            have b8 : Below B W1 w8 := (AB.out.trans (ba.mono (by omega))).grown hg8 (by have := ba.size; omega) (fun g hg => (own_ge owA hg).1)
            have HS8 : Hid (w8.cell? ⟨w.heap.size, 4, none⟩ = some (.slice (some ⟨bv, ov, none⟩) ms.length mc) ∧ w8.cell? ⟨bv, ov + k * 2, none⟩ = some (.int .i64 x1) ∧ w8.cell? ⟨bv, ov + k * 2 + 1, none⟩ = some (.int .i64 x2)) := HSB.out _ b8
            refine wp_region_held (S := fun V => (V.cell? ⟨w.heap.size, 4, none⟩ = some (.slice (some ⟨bv, ov, none⟩) ms.length mc) ∧ V.cell? ⟨bv, ov + k * 2, none⟩ = some (.int .i64 x1) ∧ V.cell? ⟨bv, ov + k * 2 + 1, none⟩ = some (.int .i64 x2))) (by kernel_rfl) ?_
            simp only [List.size_toArray, List.length_cons, List.length_nil, Nat.reduceAdd]
            refine takeH (i := 0) (v := .slice la ln lc) (d := 63) rfl rfl (by kernel_rfl) (by kernel_rfl) (by kernel_rfl) (fun _ _ _ h => h) (by rfl) (fun V hV => by obtain ⟨v1, v2, v3⟩ := hV; go_simp) HS0.out ?_
            simp only [Act.put, List.setIfInBounds_toArray, List.set_cons_zero, List.set_cons_succ]
            refine takeH (i := 1) (v := .pointer (some ⟨w.heap.size, 4, none⟩)) (d := 64) rfl rfl (by kernel_rfl) (by kernel_rfl) (by kernel_rfl) (fun _ _ _ h => h) (by rfl) (fun V hV => by obtain ⟨v1, v2, v3⟩ := hV; go_simp) HS0.out ?_
            simp only [Act.put, List.setIfInBounds_toArray, List.set_cons_zero, List.set_cons_succ]
            refine takeH (i := 2) (v := .slice (some ⟨bv, ov, none⟩) ms.length mc) (d := 65) rfl rfl (by kernel_rfl) (by kernel_rfl) (by kernel_rfl) (fun _ _ _ h => h) (by rfl) (fun V hV => by obtain ⟨v1, v2, v3⟩ := hV; go_simp) HS0.out ?_
            simp only [Act.put, List.setIfInBounds_toArray, List.set_cons_zero, List.set_cons_succ]
            refine takeH (i := 3) (v := .int .i64 (k : Int)) (d := 66) rfl rfl (by kernel_rfl) (by kernel_rfl) (by kernel_rfl) (fun _ _ _ h => h) (by rfl) (fun V hV => by obtain ⟨v1, v2, v3⟩ := hV; go_simp) HS0.out ?_
            simp only [Act.put, List.setIfInBounds_toArray, List.set_cons_zero, List.set_cons_succ]
            refine takeH (i := 4) (v := .pointer (some ⟨bv, ov + k * 2, none⟩)) (d := 67) rfl rfl (by kernel_rfl) (by kernel_rfl) (by kernel_rfl) (fun _ _ _ h => h) (by rfl) (fun V hV => by obtain ⟨v1, v2, v3⟩ := hV; go_simp) HS0.out ?_
            simp only [Act.put, List.setIfInBounds_toArray, List.set_cons_zero, List.set_cons_succ]
            refine takeH (i := 5) (v := .pointer (some ⟨bv, ov + k * 2, none⟩)) (d := 68) rfl rfl (by kernel_rfl) (by kernel_rfl) (by kernel_rfl) (fun _ _ _ h => h) (by rfl) (fun V hV => by obtain ⟨v1, v2, v3⟩ := hV; go_simp) HS0.out ?_
            simp only [Act.put, List.setIfInBounds_toArray, List.set_cons_zero, List.set_cons_succ]
            refine takeH (i := 6) (v := .int .i64 x1) (d := 69) rfl rfl (by kernel_rfl) (by kernel_rfl) (by kernel_rfl) (fun _ _ _ h => h) (by rfl) (fun V hV => by obtain ⟨v1, v2, v3⟩ := hV; go_simp) HS0.out ?_
            simp only [Act.put, List.setIfInBounds_toArray, List.set_cons_zero, List.set_cons_succ]
            refine takeH (i := 7) (v := .pointer (some ⟨w.heap.size, 4, none⟩)) (d := 70) rfl rfl (by kernel_rfl) (by kernel_rfl) (by kernel_rfl) (fun _ _ _ h => h) (by rfl) (fun V hV => by obtain ⟨v1, v2, v3⟩ := hV; go_simp) HS0.out ?_
            simp only [Act.put, List.setIfInBounds_toArray, List.set_cons_zero, List.set_cons_succ]
            refine takeH (i := 8) (v := .slice (some ⟨bv, ov, none⟩) ms.length mc) (d := 71) rfl rfl (by kernel_rfl) (by kernel_rfl) (by kernel_rfl) (fun _ _ _ h => h) (by rfl) (fun V hV => by obtain ⟨v1, v2, v3⟩ := hV; go_simp) HS0.out ?_
            simp only [Act.put, List.setIfInBounds_toArray, List.set_cons_zero, List.set_cons_succ]
            refine takeH (i := 9) (v := .int .i64 (k : Int)) (d := 72) rfl rfl (by kernel_rfl) (by kernel_rfl) (by kernel_rfl) (fun _ _ _ h => h) (by rfl) (fun V hV => by obtain ⟨v1, v2, v3⟩ := hV; go_simp) HS0.out ?_
            simp only [Act.put, List.setIfInBounds_toArray, List.set_cons_zero, List.set_cons_succ]
            refine takeH (i := 10) (v := .pointer (some ⟨bv, ov + k * 2, none⟩)) (d := 73) rfl rfl (by kernel_rfl) (by kernel_rfl) (by kernel_rfl) (fun _ _ _ h => h) (by rfl) (fun V hV => by obtain ⟨v1, v2, v3⟩ := hV; go_simp) HS0.out ?_
            simp only [Act.put, List.setIfInBounds_toArray, List.set_cons_zero, List.set_cons_succ]
            refine takeH (i := 11) (v := .pointer (some ⟨bv, ov + k * 2 + 1, none⟩)) (d := 74) rfl rfl (by kernel_rfl) (by kernel_rfl) (by kernel_rfl) (fun _ _ _ h => h) (by rfl) (fun V hV => by obtain ⟨v1, v2, v3⟩ := hV; go_simp) HS0.out ?_
            simp only [Act.put, List.setIfInBounds_toArray, List.set_cons_zero, List.set_cons_succ]
            refine takeH (i := 12) (v := .int .i64 x2) (d := 75) rfl rfl (by kernel_rfl) (by kernel_rfl) (by kernel_rfl) (fun _ _ _ h => h) (by rfl) (fun V hV => by obtain ⟨v1, v2, v3⟩ := hV; go_simp) HS0.out ?_
            simp only [Act.put, List.setIfInBounds_toArray, List.set_cons_zero, List.set_cons_succ]
            refine oneH (i := 13) rfl (by kernel_rfl) rfl (op_run (d := 76) (v' := .slice (some ⟨wr.heap.size, 0, none⟩) 2 2) (w' := wr.drew.alloc (.cells #[.int .i64 (x1), .int .i64 (x2)] 3)) rfl (by go_simp) ⟨HSA.out, ?_⟩)
            simp only [Act.put, List.setIfInBounds_toArray, List.set_cons_zero, List.set_cons_succ]
            refine oneH (i := 14) rfl (by kernel_rfl) rfl (call_append (d := 77) (s := .tmp 63) (x := .tmp 76) (t := 39) rfl rfl rfl rfl hrun8 ⟨HS8.out, ?_⟩)
            simp only [Act.put, List.setIfInBounds_toArray, List.set_cons_zero, List.set_cons_succ]
            obtain ⟨ya, yn, yc, rfl⟩ : ∃ a n c, v8 = .slice a n c := by
              obtain ⟨p1, p2, e⟩ := (RowK.own encI_len hown8 : InR w8 v8 (M ++ [x1, x2])).shape
              exact ⟨_, _, _, e⟩
            refine takeH (i := 15) (v := .slice ya yn yc) (d := 4) rfl rfl (by kernel_rfl) (by kernel_rfl) (by kernel_rfl) (fun _ _ _ h => h) (by rfl) (fun V hV => by obtain ⟨v1, v2, v3⟩ := hV; go_simp) HS8.out ?_
            simp only [Act.put, List.setIfInBounds_toArray, List.set_cons_zero, List.set_cons_succ]
            refine wpAnyH_done (by kernel_rfl) ?_ _
            have NO : Hid (w8.ownsRow B 3 1 (.slice ya yn yc) (M ++ [x1, x2]).length ((M ++ [x1, x2]).flatMap encI)) := hown8
            have NA : Hid (Below B W1 w8) := b8
            clear HS0 HSA HS8 HS owA hrun8 hown8 hg8 b8 ba bd OW AB
            go_wp2_with fail
            go_roundw
            case rel => exact ⟨k + 1, by omega, by go_num, ⟨_, _, _, rfl⟩, by rw [HT.out]; exact NO.out, NA.out⟩
            case measure => simp [intOf]; omega
          · have ek : ms.take k = ms := List.take_of_length_le (by omega)
            rw [ek, ← NE.out] at OW
            have HB7 : Hid (Below w.heap.size w wr) := BW7
            obtain ⟨c0, c1, c2, c3, c4⟩ := Q7.all5
            obtain ⟨V9, hV9⟩ : ∃ V, V = wr := ⟨wr, rfl⟩
            rw [← hV9] at OW AB hsr HB7 c0 c1 c2 c3 c4 ⊢
            obtain ⟨p1, p2, e9⟩ := (RowK.own encI_len OW.out : InR V9 (.slice la ln lc) NS).shape
            injection e9 with e9 e10 e11
            subst e9 e10 e11
            have hnl := HNL.out
            clear ek Q7 MM hV9 BW7 hll HK HL2 HVB NE
            go_wp2_with fail
            clear c0 c1 c2 c3 c4
            go_loopw [7, 8] (fun l i wr => ∃ k : Nat, k ≤ NS.length ∧ i = .int .i64 k ∧ (∃ a n c, l = .slice a n c) ∧ wr.ownsRow V9.heap.size 5 1 l (bytN (NS.take k)).length ((bytN (NS.take k)).map (Value.int .u8)) ∧ Below V9.heap.size V9 wr) (fun _ i _ => NS.length - (intOf i).toNat)
            case atStart => exact ⟨0, by omega, rfl, ⟨_, _, _, rfl⟩, World.ownsRow_nil _ _ _ _, Below.refl _ _⟩
            case round =>
              obtain ⟨k, hk, rfl, ⟨pa, pn, pc, rfl⟩, how, hbel⟩ := hrel
              have OB : Hid (wr.ownsRow V9.heap.size 5 1 (.slice pa pn pc) (bytN (NS.take k)).length ((bytN (NS.take k)).map (Value.int .u8))) := how
              have A9 : Hid (Below V9.heap.size V9 wr) := hbel
              have hs9 := hbel.size
              have hlb : (bytN (NS.take k)).length ≤ 110000 := by
                have h1 := bytN_len (NS.take k)
                rw [List.length_take] at h1
                omega
              clear how hbel
              by_cases hlt : k < NS.length
              · obtain ⟨b, off, cap', e1, _, _, lt, hv⟩ := InR.at ((RowK.own encI_len OW.out : InR V9 (.slice la NS.length lc) NS).below A9.out (Nat.le_refl _)) (by omega)
                injection e1 with e1 _ e3
                subst e1 e3
                obtain ⟨x, hx⟩ := getX hlt
                have d1 := hv k x hx
                obtain ⟨g1, g2⟩ := HNI.out x (List.mem_of_getElem? hx)
                have HT : Hid (bytN (NS.take (k + 1)) = bytN (NS.take k) ++ put x) := by show _ = _; rw [take_snoc hx, bytN_app, bytN_one]
                have p0 : (0 : Int) ≤ (k : Int) := by omega
                have p1 : (k : Int) < (NS.length : Int) := by omega
                have wx : IntKind.u64.wrap x = x := by rw [IntKind.wrap_u64]; omega
                have hpl := putLen_le x
                have CP : Hid (∀ X, Calls Try.prog 29 #[.int .u64 x] X fun e w' => ∃ v', e = .returned v' ∧ w'.ownsRow X.heap.size 5 1 v' (put x).length ((put x).map (Value.int .u8)) ∧ Below X.heap.size X w') := fun X => packed_any 9 x X g1 (by omega) (by omega)
                generalize bytN (NS.take k) = M at *
                clear hv hx
                go_wp2_with fail
                refine (CP.out _).mono ?_
                rintro e w2 ⟨v2, rfl, ho2, hb2⟩
                have O2 : Hid (w2.ownsRow V9.heap.size 5 1 (.slice pa pn pc) M.length (M.map (Value.int .u8))) := own_below OB.out hb2 (Nat.le_refl _)
                have R2 : Hid (Reads .u8 w2 v2 (put x)) := reads_own ho2
                have A2 : Hid (Below V9.heap.size V9 w2) := A9.out.trans (hb2.mono hs9)
                have hs2 := A2.out.size
                obtain ⟨qa, qn, qc, rfl⟩ : ∃ a n c, v2 = .slice a n c := by
                  rcases ho2.2 with ⟨hv, h0⟩ | ⟨g, cap, cur, hv, _⟩
                  · exact ⟨none, 0, 0, hv⟩
                  · exact ⟨_, _, _, hv⟩
                clear ho2 hb2 CP d1
                go_wp2_with (at_builtin; refine wpList_append_reads rfl _ _ rfl V9.heap.size _ M rfl O2.out _ (put x) rfl R2.out (by omega) hs2 ?_)
                intro v3 w3 hown3 hb3 _
                obtain ⟨qa3, qn3, qc3, rfl⟩ : ∃ a n c, v3 = .slice a n c := by
                  rcases hown3.2 with ⟨hv, h0⟩ | ⟨g, cap, cur, hv, _⟩
                  · exact ⟨none, 0, 0, hv⟩
                  · exact ⟨_, _, _, hv⟩
                have O3 : Hid (w3.ownsRow V9.heap.size 5 1 (.slice qa3 qn3 qc3) (M ++ put x).length ((M ++ put x).map (Value.int .u8))) := by show World.ownsRow _ _ _ _ _ _ _; simpa using hown3
                have A3 : Hid (Below V9.heap.size V9 w3) := A2.out.trans hb3
                clear hown3 hb3
                go_wp2_with fail
                go_roundw
                case rel => exact ⟨k + 1, by omega, by go_num, ⟨_, _, _, rfl⟩, by rw [HT.out]; exact O3.out, A3.out⟩
                case measure => simp [intOf]; omega
              · have ek : NS.take k = NS := List.take_of_length_le (by omega)
                rw [ek] at OB
                have hpn : pn = (bytN NS).length := own_lenB OB.out
                have HB9 : Hid (Below w.heap.size w wr) := HB7.out.trans (A9.out.mono HB7.out.size)
                have RN : Hid (Reads .u8 wr (.slice pa pn pc) (bytN NS)) := reads_own OB.out
                subst hpn
                generalize bytN NS = NN at *
                clear ek A9 OB OW AB HB7 HNI
                by_cases hsz : NN.length ≤ 20000
                · have HRE : Hid (R = (wrap NN, 0)) := EY2.out hsz
                  have CW : Hid (∀ X, X = wr → _) := fun X (_ : X = wr) => wrapped_any (.slice pa NN.length pc) NN wr RN.out HNB.out hsz
                  clear EB2 EY2
                  go_wp2_with fail
                  refine (CW.out _ rfl).mono ?_
                  rintro e W9 ⟨v9, rfl, ho9, hb9⟩
                  have HP : Hid (BytP2 w R (.returned (.tuple #[v9, .int .i64 0])) W9) := by
                    show BytP2 _ _ _ _
                    rw [HRE.out]
                    exact ⟨_, rfl, own_lower ho9 HB9.out.size, HB9.out.trans (hb9.mono HB9.out.size)⟩
                  clear ho9 hb9 CW
                  generalize BytP2 w R = P at *
                  go_wp2_with fail
                  exact HP.out
                · have HRE : Hid (R = ([], 1)) := EB2.out hsz
                  have CW : Hid (∀ X, X = wr → _) := fun X (_ : X = wr) => wrapped_over pa NN.length pc wr (by omega)
                  clear EB2 EY2
                  go_wp2_with fail
                  refine (CW.out _ rfl).mono ?_
                  rintro e W9 ⟨rfl, rfl⟩
                  have HP : Hid (BytP2 w R (.returned (.tuple #[.slice none 0 0, .int .i64 1])) W9) := by
                    show BytP2 _ _ _ _
                    rw [HRE.out]
                    exact BytP2.no HB9.out
                  clear CW
                  generalize BytP2 w R = P at *
                  go_wp2_with fail
                  exact HP.out
end Go.Proofs.Ythakibcfmbkpkaa

namespace Go.Proofs.Ythakibcfmbkpkaa
set_option maxRecDepth 100000
open Go.ChangeShapes Go.WideShapes Go.ChangeAt Go.RowKit

set_option maxHeartbeats 1600000 in
theorem unpacked_row (b off cap : Nat) (xs : List Int) (w : World) (hn : 0 < xs.length) (hm : xs.length ≤ maxLen) (hx : ∀ x ∈ xs, 0 ≤ x ∧ x ≤ 255)
    (hcell : ∀ i, i < xs.length → w.cell? ⟨b, off + i, none⟩ = some (.int .u8 (xs.getD i 0))) :
    Calls Try.prog 26 #[.slice (some ⟨b, off, none⟩) xs.length cap] w fun e w' =>
      e = .returned (.tuple #[.int .u64 (get xs).1, .int .i64 (get xs).2.1, .int .i64 (get xs).2.2]) ∧ w' = w := by
  unfold maxLen at hm
  have HC : Hid (∀ i, i < xs.length → w.cell? ⟨b, off + i, none⟩ = some (.int .u8 (xs.getD i 0))) := hcell
  have HX : Hid (∀ i, i < xs.length → 0 ≤ xs.getD i 0 ∧ xs.getD i 0 ≤ 255) := fun i hi => hx _ (by rw [List.getD_eq_getElem?_getD, List.getElem?_eq_getElem hi]; exact List.getElem_mem hi)
  clear hcell hx
  go_enter Try.func26, Try.ntmps26
  go_wp2_with fail
  go_loop [5] (fun i => ∃ (k : Nat), k ≤ xs.length ∧ k ≤ 10 ∧ i = .int .i64 k ∧ ∀ i, i < k → 128 ≤ xs.getD i 0) (fun i => 10 - (intOf i).toNat)
  case atStart => exact ⟨0, by omega, by omega, rfl, fun i hi => by omega⟩
  case round =>
    obtain ⟨k, hk, hk10, rfl, hb⟩ := hrel
    have HB : Hid (∀ i, i < k → 128 ≤ xs.getD i 0) := hb
    clear hb
    by_cases hgo : k < xs.length ∧ k < 10 ∧ 128 ≤ xs.getD k 0
    · obtain ⟨hlt, h10, hge⟩ := hgo
      have hck := HC.out k hlt
      have hxb := HX.out k hlt
      generalize hxe : xs.getD k 0 = x at hck hxb hge
      have HE : Hid (xs.getD k 0 = x) := hxe
      clear hxe
      go_wp2_with fail
      go_round
      case rel => exact ⟨k + 1, by omega, by omega, by go_num, fun i hi => by
        by_cases h : i = k
        · rw [h, HE.out]; exact hge
        · exact HB.out i (by omega)⟩
      case measure => simp [intOf]; omega
    · by_cases h10 : k = 10
      · have hl9 : 9 < xs.length := by omega
        have hck := HC.out 9 hl9
        have hy := HB.out 9 (by omega)
        have hxb := HX.out 9 hl9
        have HV : Hid (get xs = (0, 0, 6)) := get_over xs hl9 (fun i hi => HB.out i (by omega)) (by omega)
        clear hgo
        generalize xs.getD 9 0 = y at *
        have hge : 10 ≤ k := by omega
        clear h10
        by_cases hlt : k < xs.length
        all_goals
          go_wp2_with fail
          go_ret3
          exact ⟨by rw [HV.out]; rfl, rfl⟩
      · by_cases hlt : k < xs.length
        · have hck := HC.out k hlt
          have hxb := HX.out k hlt
          have hsm : xs.getD k 0 < 128 := by
            rcases Int.lt_or_le (xs.getD k 0) 128 with h | h
            · exact h
            · exact absurd ⟨hlt, by omega, h⟩ hgo
          have Hov : Hid (k = 9 → 1 < xs.getD k 0 → get xs = (0, 0, 6)) := fun h9 h1 => get_over xs (by omega) (by rw [h9] at HB; exact HB.out) (by rw [h9] at h1; exact h1)
          have Hform : Hid (0 < k → xs.getD k 0 = 0 → get xs = (0, 0, 3)) := fun h0 hz => get_form xs k (by omega) h0 hlt HB.out hz
          have Hok : Hid ((k = 9 → xs.getD k 0 ≤ 1) → ¬ (xs.getD k 0 = 0 ∧ 0 < k) → get xs = (val (xs.take (k + 1)), k + 1, 0) ∧ 0 ≤ val (xs.take (k + 1)) ∧ val (xs.take (k + 1)) ≤ 18446744073709551615) :=
            fun h9 hz => get_ok xs k (by omega) hlt HB.out h9 hxb.1 hsm hz
          have H9 : Hid (9 ≤ k → w.cell? ⟨b, off + 9, none⟩ = some (.int .u8 (xs.getD k 0))) := fun h => by
            have e : k = 9 := by omega
            have h1 := hck
            rw [e] at h1 ⊢
            exact h1
          have HK : Hid (w.cell? ⟨b, off + k, none⟩ = some (.int .u8 (xs.getD k 0))) := hck
          clear hgo hck
          generalize hxe : xs.getD k 0 = x at *
          have hck := HK.out
          clear hxe HK
          have hk9 : k ≤ 9 := by omega
          clear h10 hk10
          by_cases hov : 9 ≤ k ∧ 1 < x
          · have HV : Hid (get xs = (0, 0, 6)) := Hov.out (by omega) hov.2
            have hc9 := H9.out hov.1
            obtain ⟨h9, h1⟩ := hov
            go_wp2_with fail
            go_ret3
            exact ⟨by rw [HV.out]; rfl, rfl⟩
          · by_cases hz : x = 0 ∧ 0 < k
            · have HV : Hid (get xs = (0, 0, 3)) := Hform.out hz.2 hz.1
              have hz' : (x == 0) = true := by simp [hz.1]
              have hz0 := hz.2
              have hx1 : x ≤ 1 := by omega
              clear hz hov
              by_cases h9 : 9 ≤ k
              · have hc9 := H9.out h9
                go_wp2_with fail
                go_ret3
                exact ⟨by rw [HV.out]; rfl, rfl⟩
              · go_wp2_with fail
                go_ret3
                exact ⟨by rw [HV.out]; rfl, rfl⟩
            · obtain ⟨e1, e2, e3⟩ := Hok.out (fun _ => by omega) hz
              have HV : Hid (get xs = (val (xs.take (k + 1)), k + 1, 0)) := e1
              have HL : Hid (∀ t, t ≤ k → val ((xs.take (k + 1)).drop t) = xs.getD t 0 % 128 + 128 * val ((xs.take (k + 1)).drop (t + 1)) ∧ val ((xs.take (k + 1)).drop t) ≤ 18446744073709551615 ∧ 0 ≤ val ((xs.take (k + 1)).drop (t + 1))) := fun t ht => by
                refine ⟨?_, Int.le_trans (val_drop _ _) e3, val_nonneg _⟩
                have hd : t < (xs.take (k + 1)).length := by rw [List.length_take_of_le (by omega)]; omega
                rw [drop_step hd, val]
                congr 2
                rw [List.getD_eq_getElem?_getD, List.getD_eq_getElem?_getD, List.getElem?_take_of_lt (by omega)]
              have H0 : Hid (val ((xs.take (k + 1)).drop (k + 1)) = 0) := by
                show val _ = 0
                rw [List.drop_eq_nil_of_le (by rw [List.length_take_of_le (by omega)]; omega)]; rfl
              clear e1 e2 e3 Hok Hform Hov
              have hcase : (9 ≤ k ∧ x ≤ 1 ∧ (x == 0) = false ∧ w.cell? ⟨b, off + 9, none⟩ = some (.int .u8 x)) ∨ (k < 9 ∧ 0 < k ∧ (x == 0) = false) ∨ k < 1 := by
                by_cases h9 : 9 ≤ k
                · exact .inl ⟨h9, by omega, by simp; omega, H9.out h9⟩
                · by_cases h0 : 0 < k
                  · exact .inr (.inl ⟨by omega, h0, by simp; omega⟩)
                  · exact .inr (.inr (by omega))
              clear hz hov H9
              rcases hcase with ⟨h9, h1, hz', hc9⟩ | ⟨h9, h0, hz'⟩ | h0
              all_goals
                go_wp2_with fail
                go_loop [6, 7] (fun n i => ∃ j : Nat, j ≤ k + 1 ∧ i = .int .i64 ((j : Int) - 1) ∧ n = .int .u64 (val ((xs.take (k + 1)).drop j))) (fun _ i => (intOf i + 1).toNat)
                case atStart => exact ⟨k + 1, by omega, by go_num, by rw [H0.out]⟩
                case round =>
                  obtain ⟨j, hj, rfl, rfl⟩ := hrel
                  by_cases hj0 : 0 < j
                  · obtain ⟨t, rfl⟩ : ∃ t, j = t + 1 := ⟨j - 1, by omega⟩
                    have hct := HC.out t (by omega)
                    have hxt := HX.out t (by omega)
                    obtain ⟨v1, v2, v3⟩ := HL.out t (by omega)
                    have HV1 : Hid (val ((xs.take (k + 1)).drop t) = xs.getD t 0 % 128 + 128 * val ((xs.take (k + 1)).drop (t + 1))) := v1
                    rw [v1] at v2
                    clear v1
                    generalize xs.getD t 0 = y at *
                    generalize val ((xs.take (k + 1)).drop (t + 1)) = V at *
                    go_wp2_with fail
                    go_round
                    case rel => exact ⟨t, by omega, by go_num, by rw [HV1.out]; go_num⟩
                    case measure => simp [intOf]
                  · have hj1 : j = 0 := by omega
                    subst hj1
                    go_wp2_with fail
                    go_ret3
                    exact ⟨by rw [HV.out]; exact tup3 (by simp) (by simp) rfl, rfl⟩
        · have HV : Hid (get xs = (0, 0, 4)) := get_short xs (by omega) (fun i hi => HB.out i (by omega))
          have hl9 : xs.length ≤ 9 := by omega
          have he : ((k : Int) == (xs.length : Int)) = true := by simp; omega
          clear hgo h10
          by_cases h9 : 9 ≤ k
          all_goals
            go_wp2_with fail
            go_ret3
            exact ⟨by rw [HV.out]; rfl, rfl⟩

theorem unpacked_empty (a : Option Addr) (cap : Nat) (w : World) :
    Calls Try.prog 26 #[.slice a 0 cap] w fun e w' =>
      e = .returned (.tuple #[.int .u64 0, .int .i64 0, .int .i64 4]) ∧ w' = w := by
  go_enter Try.func26, Try.ntmps26
  go_wp2_with fail
  refine wp_loop_rounds 1 ?_
  rw [rounds_succ]
  go_wp2
  go_ret3
  exact ⟨rfl, rfl⟩

theorem unpacked_any (v : Value) (xs : List Int) (w : World) (h : Reads .u8 w v xs) (hx : ∀ x ∈ xs, 0 ≤ x ∧ x ≤ 255) :
    Calls Try.prog 26 #[v] w fun e w' =>
      e = .returned (.tuple #[.int .u64 (get xs).1, .int .i64 (get xs).2.1, .int .i64 (get xs).2.2]) ∧ w' = w := by
  by_cases hn : 0 < xs.length
  · obtain ⟨b, off, cap, rfl, hc, hm, _, hcell⟩ := h.plain hn
    exact unpacked_row b off cap xs w hn (Nat.le_trans hc hm) hx hcell
  · have : xs = [] := List.eq_nil_of_length_eq_zero (by omega)
    subst this
    obtain ⟨a, cap, rfl, _, _⟩ := h.empty
    exact unpacked_empty a cap w
end Go.Proofs.Ythakibcfmbkpkaa

namespace Go.Proofs.Ythakibcfmbkpkaa
set_option maxRecDepth 100000
open Go.ChangeShapes Go.WideShapes Go.ChangeAt Go.RowKit

theorem getD_takeI {xs : List Int} {n i : Nat} (h : i < n) : (xs.take n).getD i 0 = xs.getD i 0 := by
  rw [List.getD_eq_getElem?_getD, List.getD_eq_getElem?_getD, List.getElem?_take_of_lt h]
theorem getD_ext {xs ys : List Int} (hl : xs.length = ys.length) (h : ∀ i, i < xs.length → xs.getD i 0 = ys.getD i 0) : xs = ys := by
  apply List.ext_getElem hl
  intro i h1 h2
  have := h i h1
  rwa [List.getD_eq_getElem?_getD, List.getD_eq_getElem?_getD, List.getElem?_eq_getElem h1, List.getElem?_eq_getElem h2] at this
/-- The frame made again is what the bytes begin with just if the sum is right. -/
theorem again_iff {xs : List Int} {m k : Nat} (hw : wrap ((xs.drop k).take m) = xs.take (k + m) ++ four (crc (xs.take (k + m)))) (hl : k + m + 4 ≤ xs.length) :
    four (crc (xs.take (k + m))) = (xs.drop (k + m)).take 4 ↔ ∀ i, i < k + m + 4 → (wrap ((xs.drop k).take m)).getD i 0 = xs.getD i 0 := by
  have ht : xs.take (k + m + 4) = xs.take (k + m) ++ (xs.drop (k + m)).take 4 := List.take_add
  have hlw : (wrap ((xs.drop k).take m)).length = (xs.take (k + m + 4)).length := by rw [hw, ht]; simp [four]; omega
  have h4 : (xs.take (k + m + 4)).length = k + m + 4 := List.length_take_of_le hl
  constructor
  · intro h i hi
    rw [hw, h, ← ht, getD_takeI hi]
  · intro h
    have e : wrap ((xs.drop k).take m) = xs.take (k + m + 4) := getD_ext hlw (fun i hi => by rw [h i (by omega), getD_takeI (by omega)])
    rw [hw, ht] at e
    exact List.append_cancel_left e
theorem snoc_mid {xs : List Int} {k j : Nat} (h : k + j < xs.length) : (xs.drop k).take (j + 1) = (xs.drop k).take j ++ [xs.getD (k + j) 0] := by
  have := take_snocI (xs := xs.drop k) (k := j) (by rw [List.length_drop]; omega)
  rw [this]
  simp [List.getD_eq_getElem?_getD, List.getElem?_drop]

set_option maxHeartbeats 1600000 in
set_option maxRecDepth 100000 in
theorem unwrapped_any (v : Value) (xs : List Int) (w : World) (h : Reads .u8 w v xs) (hx : ∀ x ∈ xs, 0 ≤ x ∧ x ≤ 255) :
    Calls Try.prog 13 #[v] w fun e w' =>
      ∃ v', e = .returned (.tuple #[v', .int .i64 (unwrapF xs).2.1, .int .i64 (unwrapF xs).2.2]) ∧ w'.ownsRow w.heap.size 5 1 v' (unwrapF xs).1.length ((unwrapF xs).1.map (Value.int .u8)) ∧ Below w.heap.size w w' := by
  have HX : Hid (∀ x ∈ xs, 0 ≤ x ∧ x ≤ 255) := hx
  have G := unpacked_any v xs w h hx
  rcases get_inv hx with ⟨e, hg, he⟩ | ⟨n, r, hg, hr, hn0, hn1⟩
  · rw [hg] at G
    have HU : Hid (unwrapF xs = ([], 0, e)) := unwrapF_err hg he
    have HG : Hid (Calls Try.prog 26 #[v] w fun e' w' => e' = .returned (.tuple #[.int .u64 0, .int .i64 ((0 : Nat) : Int), .int .i64 e]) ∧ w' = w) := G
    have heb : (e != 0) = true := by simp [he]
    clear G hg hx h HX
    go_enter Try.func13, Try.ntmps13
    go_wp2_with fail
    refine HG.out.mono ?_
    rintro e w1 ⟨rfl, rfl⟩
    go_wp2_with fail
    go_ret3
    exact ⟨_, by rw [HU.out]; rfl, by rw [HU.out]; exact World.ownsRow_nil _ _ _ _, Below.refl _ _⟩
  · obtain ⟨m, rfl⟩ := Int.eq_ofNat_of_zero_le hn0
    rw [hg] at G
    have pl := put_len (m : Int)
    have hkl : (put (m : Int)).length ≤ xs.length := by rw [hr]; simp
    have HPT : Hid (xs.take (put (m : Int)).length = put (m : Int)) := by show _ = _; rw [hr]; simp
    clear hr
    obtain ⟨k, hk⟩ : ∃ k, (put (m : Int)).length = k := ⟨_, rfl⟩
    rw [hk] at G pl hkl hg HPT
    have HGG : Hid (get xs = ((m : Int), k, 0)) := hg
    have HG : Hid (Calls Try.prog 26 #[v] w fun e' w' => e' = .returned (.tuple #[.int .u64 (m : Int), .int .i64 (k : Int), .int .i64 0]) ∧ w' = w) := G
    have HK : Hid ((put (m : Int)).length = k) := hk
    clear G hg hx hk
    by_cases hbig : 20000 < (m : Int)
    · have HU : Hid (unwrapF xs = ([], 0, 1)) := unwrapF_size HGG.out hbig
      go_enter Try.func13, Try.ntmps13
      go_wp2_with fail
      refine HG.out.mono ?_
      rintro e w1 ⟨rfl, rfl⟩
      go_wp2_with fail
      go_ret3
      exact ⟨_, by rw [HU.out]; rfl, by rw [HU.out]; exact World.ownsRow_nil _ _ _ _, Below.refl _ _⟩
    · have hm2 : m ≤ 20000 := by omega
      obtain ⟨b, off, cap, rfl, hc, hm, hbw, hcell⟩ := h.plain (by omega)
      unfold maxLen at hm
      by_cases hsh : xs.length < k + m + 4
      · have HU : Hid (unwrapF xs = ([], 0, 4)) := unwrapF_short HGG.out hm2 hsh
        clear h hcell
        go_enter Try.func13, Try.ntmps13
        go_wp2_with fail
        refine HG.out.mono ?_
        rintro e w1 ⟨rfl, rfl⟩
        go_wp2_with fail
        go_ret3
        exact ⟨_, by rw [HU.out]; rfl, by rw [HU.out]; exact World.ownsRow_nil _ _ _ _, Below.refl _ _⟩
      · have hsl : k + m + 4 ≤ xs.length := by omega
        have HC : Hid (∀ i, i < xs.length → w.cell? ⟨b, off + i, none⟩ = some (.int .u8 (xs.getD i 0))) := hcell
        have hpl : ((xs.drop k).take m).length = m := by rw [List.length_take, List.length_drop]; omega
        have HPL : Hid (((xs.drop k).take m).length = m) := hpl
        have htk : xs.take (k + m) = put (m : Int) ++ (xs.drop k).take m := by rw [List.take_add, HPT.out]
        have HW : Hid (wrap ((xs.drop k).take m) = xs.take (k + m) ++ four (crc (xs.take (k + m)))) := by show _ = _; unfold wrap; rw [hpl, htk]
        have HXP : Hid (∀ x ∈ (xs.drop k).take m, 0 ≤ x ∧ x ≤ 255) := fun x hx => HX.out x (List.mem_of_mem_drop (List.mem_of_mem_take hx))
        clear h hcell hpl htk hsh
        go_enter Try.func13, Try.ntmps13
        go_wp2_with fail
        refine HG.out.mono ?_
        rintro e w1 ⟨rfl, rfl⟩
        go_wp2_with fail
        go_loopw [8, 9] (fun p i wr => ∃ j : Nat, j ≤ m ∧ i = .int .i64 ((k + j : Nat) : Int) ∧ wr.ownsRow w1.heap.size 5 1 p ((xs.drop k).take j).length (((xs.drop k).take j).map (Value.int .u8)) ∧ Below w1.heap.size w1 wr) (fun _ i _ => k + m - (intOf i).toNat)
        case atStart => exact ⟨0, by omega, rfl, by simpa using World.ownsRow_nil _ _ _ _, Below.refl _ _⟩
        case round =>
          obtain ⟨j, hj, rfl, hown, hbel⟩ := hrel
          have hs := hbel.size
          by_cases hlt : j < m
          · have hck : wr.cell? ⟨b, off + (k + j), none⟩ = some (.int .u8 (xs.getD (k + j) 0)) := (hbel.cell (by exact hbw)).trans (HC.out (k + j) (by omega))
            have HTk := snoc_mid (xs := xs) (k := k) (j := j) (by omega)
            have HA : Hid ((xs.drop k).take (j + 1) = (xs.drop k).take j ++ [xs.getD (k + j) 0]) := HTk
            have hlen : ((xs.drop k).take j).length ≤ 20000 := by rw [List.length_take]; omega
            clear HTk
            generalize xs.getD (k + j) 0 = x at *
            have OW : Hid (wr.ownsRow w1.heap.size 5 1 u8 ((xs.drop k).take j).length (((xs.drop k).take j).map (Value.int .u8))) := hown
            clear hown
            generalize (xs.drop k).take j = f at *
            go_wp2_with (at_builtin; refine wpList_append_reads rfl _ _ rfl w1.heap.size _ f rfl (OW.out.alloc _) _ [x] rfl (reads_block (xs := [x]) (heap_alloc_new _ _) (by simp [maxLen])) (by simp; omega) (by simp; omega) ?_)
            intro v2 w2 hown2 hbel2 _
            have B2 : Hid (Below w1.heap.size w1 w2) := (hbel.alloc hs _).trans hbel2
            have O2 : Hid (w2.ownsRow w1.heap.size 5 1 v2 ((xs.drop k).take (j + 1)).length (((xs.drop k).take (j + 1)).map (Value.int .u8))) := by show World.ownsRow _ _ _ _ _ _ _; rw [HA.out]; simpa using hown2
            clear hown2 hbel2 hbel
            go_wp2
            go_roundw
            case rel => exact ⟨j + 1, by omega, by go_num, O2.out, B2.out⟩
            case measure => simp [intOf]; omega
          · have ej : j = m := by omega
            subst ej
            have O2 : Hid (wr.ownsRow w1.heap.size 5 1 u8 ((xs.drop k).take j).length (((xs.drop k).take j).map (Value.int .u8))) := hown
            have B2 : Hid (Below w1.heap.size w1 wr) := hbel
            clear hown hbel
            go_wp2_with fail
            refine (wrapped_any _ ((xs.drop k).take j) _ (reads_own O2.out) HXP.out (by rw [HPL.out]; exact hm2)).mono ?_
            rintro e w3 ⟨v3, rfl, hown3, hbel3⟩
            have hs3 := hbel3.size
            have O3 : Hid (w3.ownsRow w1.heap.size 5 1 u8 ((xs.drop k).take j).length (((xs.drop k).take j).map (Value.int .u8))) := own_below O2.out hbel3 (Nat.le_refl _)
            have B3 : Hid (Below w1.heap.size w1 w3) := B2.out.trans (hbel3.mono hs)
            have HI := again_iff HW.out hsl
            have HAI : Hid (four (crc (xs.take (k + j))) = (xs.drop (k + j)).take 4 ↔ ∀ i, i < k + j + 4 → (wrap ((xs.drop k).take j)).getD i 0 = xs.getD i 0) := HI
            clear HI hbel3
            have hal : (wrap ((xs.drop k).take j)).length = k + j + 4 := by rw [wrap_len, HPL.out, HK.out]
            obtain ⟨g3, c3, rfl, hg3, hg3', hc3, hm3, hcell3⟩ := own_shape hown3 (by rw [hal]; omega)
            rw [hal] at hc3 ⊢
            have HC3 : Hid (∀ i, i < k + j + 4 → w3.cell? ⟨g3, i, none⟩ = some (.int .u8 ((wrap ((xs.drop k).take j)).getD i 0))) := fun i hi => by
              have h1 := hcell3 i (.int .u8 ((wrap ((xs.drop k).take j)).getD i 0)) (by rw [List.getElem?_map, List.getElem?_eq_getElem (by omega)]; simp [List.getD_eq_getElem?_getD, List.getElem?_eq_getElem (show i < (wrap ((xs.drop k).take j)).length by omega)])
              have hadd : (⟨g3, 0, none⟩ : Addr).add i = ⟨g3, i, none⟩ := by unfold Addr.add; split <;> simp_all
              rwa [hadd] at h1
            have HUK : Hid (four (crc (xs.take (k + j))) = (xs.drop (k + j)).take 4 → unwrapF xs = ((xs.drop k).take j, k + j + 4, 0)) := fun h => unwrapF_ok HGG.out hm2 hsl h
            have HUS : Hid (¬ four (crc (xs.take (k + j))) = (xs.drop (k + j)).take 4 → unwrapF xs = ([], 0, 5)) := fun h => unwrapF_sum HGG.out hm2 hsl h
            clear hown3 hcell3 hal O2 B2 HG
            unfold maxLen at hm3
            generalize wrap ((xs.drop k).take j) = ag at *
            go_wp2_with fail
            go_loopw [12] (fun i wq => ∃ t : Nat, t ≤ k + j + 4 ∧ i = .int .i64 t ∧ (∀ i, i < t → ag.getD i 0 = xs.getD i 0) ∧ Below w3.heap.size w3 wq) (fun i _ => k + j + 4 - (intOf i).toNat)
            case atStart => exact ⟨0, by omega, rfl, fun i hi => by omega, Below.refl _ _⟩
            case round =>
              obtain ⟨t, ht, rfl, hst, hbt⟩ := hrel
              have HST : Hid (∀ i, i < t → ag.getD i 0 = xs.getD i 0) := hst
              clear hst
              by_cases hlt2 : t < k + j + 4
              · have d1 : wr.cell? ⟨g3, t, none⟩ = some (.int .u8 (ag.getD t 0)) := (hbt.cell (by exact hg3')).trans (HC3.out t hlt2)
                have d2 : wr.cell? ⟨b, off + t, none⟩ = some (.int .u8 (xs.getD t 0)) := (hbt.cell (show b < w3.heap.size by omega)).trans ((B3.out.cell (by exact hbw)).trans (HC.out t (by omega)))
                have hlt' : (t : Int) < (k : Int) + (j : Int) + 4 := by omega
                have hlt3 : (t : Int) < (xs.length : Int) := by omega
                have h0' : (0 : Int) ≤ (t : Int) := by omega
                have HN : Hid (ag.getD t 0 = xs.getD t 0 → ∀ i, i < t + 1 → ag.getD i 0 = xs.getD i 0) := fun h i hi => by
                  by_cases e : i = t
                  · rw [e]; exact h
                  · exact HST.out i (by omega)
                have HF : Hid (ag.getD t 0 ≠ xs.getD t 0 → unwrapF xs = ([], 0, 5)) := fun h => HUS.out (fun e => h (HAI.out.1 e t hlt2))
                generalize ag.getD t 0 = x at *
                generalize xs.getD t 0 = y at *
                go_wp2_with fail
                go_quiet (fail)
                by_cases hxy : x = y
                · have hne : (x != y) = false := by simp [hxy]
                  go_wp2_with fail
                  go_roundw
                  case rel => exact ⟨t + 1, by omega, by go_num, HN.out hxy, below_drewN hbt _⟩
                  case measure => simp [intOf]; omega
                · have hne : (x != y) = true := by simp [hxy]
                  have HU := HF.out hxy
                  have HU2 : Hid (unwrapF xs = ([], 0, 5)) := HU
                  clear HU
                  go_wp2_with fail
                  go_ret3
                  exact ⟨_, by rw [HU2.out]; rfl, by rw [HU2.out]; exact World.ownsRow_nil _ _ _ _, below_drewN (B3.out.trans (hbt.mono (by omega))) _⟩
              · have HU : Hid (unwrapF xs = ((xs.drop k).take j, k + j + 4, 0)) := HUK.out (HAI.out.2 (fun i hi => HST.out i (by omega)))
                have O4 : Hid (wr.ownsRow w1.heap.size 5 1 u8 (unwrapF xs).1.length ((unwrapF xs).1.map (Value.int .u8))) := by show World.ownsRow _ _ _ _ _ _ _; rw [HU.out]; exact own_below O3.out hbt (Nat.le_refl _)
                have B4 : Hid (Below w1.heap.size w1 wr) := B3.out.trans (hbt.mono (by omega))
                go_wp2_with fail
                go_ret3
                exact ⟨_, by rw [HU.out]; first | rfl | (simp; done), O4.out, B4.out⟩
end Go.Proofs.Ythakibcfmbkpkaa

namespace Go.Proofs.Ythakibcfmbkpkaa
set_option maxRecDepth 100000
open Go.ChangeShapes Go.WideShapes Go.ChangeAt Go.RowKit

/-- What small tells of a place: a number and the place behind it, or neither. -/
def SmlP (m : Int) (xs : List Int) (at_ : Nat) (e : Ending) : Prop :=
  (numF m (xs.drop at_) = none ∧ e = .returned (.tuple #[.int .i64 0, .int .i64 (-1)])) ∨
  ∃ (x : Int) (at2 : Nat), numF m (xs.drop at_) = some (x, xs.drop at2) ∧ at_ < at2 ∧ at2 ≤ xs.length ∧ e = .returned (.tuple #[.int .i64 x, .int .i64 at2])

set_option maxHeartbeats 400000 in
theorem small_neg (v : Value) (m : Int) (w : World) : Calls Try.prog 14 #[v, .int .i64 (-1), .int .i64 m] w fun e w' => e = .returned (.tuple #[.int .i64 0, .int .i64 (-1)]) ∧ w' = w := by
  go_enter Try.func14, Try.ntmps14
  go_wp2_with fail
  go_ret2
  exact ⟨rfl, rfl⟩

set_option maxHeartbeats 800000 in
set_option maxRecDepth 100000 in
theorem small_any (v : Value) (xs : List Int) (i : Nat) (m : Int) (w : World) (h : Reads .u8 w v xs) (hx : ∀ x ∈ xs, 0 ≤ x ∧ x ≤ 255) (hi : i ≤ xs.length) (hL : xs.length ≤ 140737488355328) (hm : 0 ≤ m ∧ m ≤ 4611686018427387904) :
    Calls Try.prog 14 #[v, .int .i64 i, .int .i64 m] w fun e w' => SmlP m xs i e ∧ w' = w := by
  obtain ⟨a, cap, rfl, hc, hmx, _⟩ := id h
  have hcut := run_cutV a xs.length cap i hi
  have HR : Hid (Reads .u8 w (cutV a xs.length cap i) (xs.drop i)) := reads_cutV h hi
  have hx2 : ∀ x ∈ xs.drop i, 0 ≤ x ∧ x ≤ 255 := fun x h => hx x (List.mem_of_mem_drop h)
  have HG : Hid (∀ X, Reads .u8 X (cutV a xs.length cap i) (xs.drop i) → Calls Try.prog 26 #[cutV a xs.length cap i] X fun e w' => e = .returned (.tuple #[.int .u64 (get (xs.drop i)).1, .int .i64 (get (xs.drop i)).2.1, .int .i64 (get (xs.drop i)).2.2]) ∧ w' = X) := fun X hX => unpacked_any _ _ X hX hx2
  rcases get_inv hx2 with ⟨e, he, hne⟩ | ⟨n, t, he, hl, h0, h1⟩
  · have HN : Hid (numF m (xs.drop i) = none) := numF_err he hne
    rw [he] at HG
    have hne' : (e != 0) = true := by simpa using hne
    clear he hx hx2 h hne
    go_enter Try.func14, Try.ntmps14
    go_wp2_with fail
    refine (HG.out _ HR.out).mono ?_
    rintro e w1 ⟨rfl, rfl⟩
    go_wp2_with fail
    go_ret2
    exact ⟨.inl ⟨HN.out, rfl⟩, rfl⟩
  · by_cases hn : n ≤ m
    · have hp := put_len n
      have hpl : (put n).length ≤ xs.length - i := by rw [← List.length_drop, hl]; simp
      have HN : Hid (numF m (xs.drop i) = some (n, xs.drop (i + (put n).length))) := by show _ = _; rw [numF_yes he hn, List.drop_drop]
      have hw : IntKind.u64.wrap m = m := by rw [IntKind.wrap_u64]; omega
      rw [he] at HG
      clear he hl hx hx2 h
      generalize (put n).length = u at *
      go_enter Try.func14, Try.ntmps14
      go_wp2_with fail
      refine (HG.out _ HR.out).mono ?_
      rintro e w1 ⟨rfl, rfl⟩
      go_wp2_with fail
      go_ret2
      exact ⟨.inr ⟨n, i + u, HN.out, by omega, by omega, by go_num⟩, rfl⟩
    · have HN : Hid (numF m (xs.drop i) = none) := numF_big he (by omega)
      have hw : IntKind.u64.wrap m = m := by rw [IntKind.wrap_u64]; omega
      have hn2 : m < n := by omega
      rw [he] at HG
      clear he hl hx hx2 h
      generalize (put n).length = u at *
      go_enter Try.func14, Try.ntmps14
      go_wp2_with fail
      refine (HG.out _ HR.out).mono ?_
      rintro e w1 ⟨rfl, rfl⟩
      go_wp2_with fail
      go_ret2
      exact ⟨.inl ⟨HN.out, rfl⟩, rfl⟩
end Go.Proofs.Ythakibcfmbkpkaa
