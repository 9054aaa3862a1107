/-
  The box of what is saved, written as a whole; the bytes of P14.2 are bytes.
  Rows, where a box of another type is written.
  Rows of values.
  A region that draws its order, whose last operation waits for all others: the others in whatever order, then that one. (So the last one may store into what the others have read.)
  Calls in a region that draws its order: one whose result is told by a relation, one that gives up by a panic.
  Contract of ckpt.parse: what is made of a payload.
  An append of bytes, as it runs.
  Rows of the call's own that lie in other blocks.
  Contract of the closure that writes numbers in ckpt.Encode.
  Contract of ckpt.Encode: what P14.2 says.
  Contract of frame.Unwrap: payload, count of bytes and error are those of P2.3; nothing that was there is written.
  Contract of ckpt.Decode: P14.3.
  Bytes that came in: what their data say of memory.
-/
import Derived.Test.YtbfkmakfkbdafabSavedMayP
import Derived.Test.YtbfkmakfkbdafabSavedMath
import Derived.Test.YtbfkmakfkbdafabBoxMem
import Derived.Test.YtbfkmakfkbdafabRowNew
import Derived.Test.YtbfkmakfkbdafabTwoMem
import Derived.Test.YtbfkmakfkbdafabRowBase
import Derived.Deep.RegionHeld3
import Derived.Test.YtbfkmakfkbdafabSavedNum
import Derived.Test.YtbfkmakfkbdafabMailMem
import Derived.Shelf.Abstract
import Derived.Deep.CutRange
import Derived.Test.YtbfkmakfkbdafabBase
import Derived.Laws.AppendOwnNone
import Derived.Test.YtbfkmakfkbdafabKeptMem
import Derived.Test.YtbfkmakfkbdafabPutWalk
import Derived.Test.YtbfkmakfkbdafabUnwrapWalk
import Derived.Test.YtbfkmakfkbdafabOwnSlice
import Derived.Test.YtbfkmakfkbdafabBytesLib
import Derived.Deep.Slices
import Derived.Deep.Strs
import Derived.SizedLaws
import Derived.ShutString
import Derived.ChangeOld
import Derived.Below

namespace Go.Proofs.Ytbfkmakfkbdafab
set_option maxRecDepth 100000
open Go.ChangeShapes Go.WideShapes Go.ChangeAt Go.RowKit

def putS (w : World) (q : Nat) (a b c d e : Value) : World := ((((w.setCell ⟨q, 0, none⟩ a).setCell ⟨q, 1, none⟩ b).setCell ⟨q, 2, none⟩ c).setCell ⟨q, 3, none⟩ d).setCell ⟨q, 4, none⟩ e
theorem BX.putS {t : TypeId} {w : World} {q : Nat} {a b c d e x1 x2 x3 x4 x5 : Value} (h : BX t w q #[a, b, c, d, e]) : BX t (putS w q x1 x2 x3 x4 x5) q #[x1, x2, x3, x4, x5] := ((((h.set 0 x1).set 1 x2).set 2 x3).set 3 x4).set 4 x5
theorem kept_putS (w : World) (q : Nat) (a b c d e : Value) : Kept (fun k => k = q) w (Go.Proofs.Ytbfkmakfkbdafab.putS w q a b c d e) := ((((Kept.box _ _ _ _).trans (Kept.box _ _ _ _)).trans (Kept.box _ _ _ _)).trans (Kept.box _ _ _ _)).trans (Kept.box _ _ _ _)
theorem BX.all5f {t : TypeId} {w : World} {q : Nat} {a b c d e : Value} (h : BX t w q #[a, b, c, d, e]) : w.frozen? ⟨q, 0, none⟩ = false ∧ w.frozen? ⟨q, 1, none⟩ = false ∧ w.frozen? ⟨q, 2, none⟩ = false ∧ w.frozen? ⟨q, 3, none⟩ = false ∧ w.frozen? ⟨q, 4, none⟩ = false := ⟨h.frozen 0, h.frozen 1, h.frozen 2, h.frozen 3, h.frozen 4⟩
theorem encS_bd (s : SvS) : ∀ x ∈ (encS s).1, 0 ≤ x ∧ x ≤ 255 := by
  cases h : svMay s with
  | false => rw [encS_no h]; intro x hx; cases hx
  | true =>
    by_cases h2 : (bytN (numsS s)).length ≤ 20000
    · rw [encS_yes h h2]
      exact wrap_bytes (bytN_bytes fun n hn => ⟨(numsS_in h n hn).1, by have := (numsS_in h n hn).2; omega⟩) h2
    · rw [encS_big h h2]; intro x hx; cases hx
end Go.Proofs.Ytbfkmakfkbdafab

namespace Go.Proofs.Ytbfkmakfkbdafab
set_option maxRecDepth 100000
open Go.ChangeShapes Go.WideShapes Go.ChangeAt Go.RowKit

theorem own_off {t : TypeId} {w w' : World} {q base n size : Nat} {el : TypeId} {v : Value} {xs : List Value} {cs : Array Value} (ho : w.ownsRow base el size v n xs) (hq : BX t w q cs) (hne : el ≠ t) (hk : Kept (fun k => k = q) w w') : w'.ownsRow base el size v n xs := hk.own ho fun _ hg => own_block ho hg hq hne
end Go.Proofs.Ytbfkmakfkbdafab

namespace Go.Proofs.Ytbfkmakfkbdafab
set_option maxRecDepth 100000
open Go.ChangeShapes Go.WideShapes Go.ChangeAt Go.RowKit

theorem Try.infoV : (Try.prog.info? 43).map (fun i => (i.zero, i.size, i.bytes)) = some (some (.agg #[.int .i64 0, .int .i64 0]), 2, 16) := by kernel_rfl
def kV : ElK Ml := ⟨encM, 2, 23, 43, 16, .agg #[.int .i64 0, .int .i64 0], Try.underlying23, Try.infoV, rfl, by decide, encM_len, encM_one⟩
end Go.Proofs.Ytbfkmakfkbdafab

namespace Go.Proofs.Ytbfkmakfkbdafab
set_option maxRecDepth 100000
open Go.RowKit

/-- What the others must come to. -/
def postLast (P : Program) (o : Oper) (Q : Exit → Act → World → Prop) : Exit → Act → World → Prop
  | .normal, a, w => o.wp P a w (fun a' w' => Q .normal a' w') Q
  | e, a, w => Q e a w

/-- Each of the others waits for earlier ones alone; the last one waits for all. -/
def lastOK (md : Region.Mode) (ops : Array Oper) (o : Oper) : Bool :=
  o.guard.isNone && (List.range ops.size).all fun i =>
    (match ops[i]? with
      | some x => x.guard.isNone && x.after.toList.all (fun e => !Region.binds md e || decide (e.on < i))
      | none => false) && o.after.toList.any (fun e => Region.binds md e && e.on == i)
def lastIn (md : Region.Mode) (n : Nat) (o : Oper) : Bool := o.after.toList.all fun e => !Region.binds md e || decide (e.on < n)

section
variable {P : Program} {md : Region.Mode} {ops : Array Oper} {o : Oper} {Q : Exit → Act → World → Prop}

theorem wp_postLast {x : Oper} {a : Act} {w : World} {K : Act → World → Prop} (h : x.wp P a w K (postLast P o Q)) : x.wp P a w K Q := by
  unfold Oper.wp at *
  generalize (execOp a.eval x).run P w = r at *
  cases r with
  | ok n w' => cases n <;> exact h
  | halt e w' => cases e <;> exact h
theorem letsOut_postLast (h : LetsOut (postLast P o Q)) : LetsOut Q := h

theorem lastOK_guard (h : lastOK md ops o = true) : o.guard = none := by
  unfold lastOK at h
  rw [Bool.and_eq_true] at h
  simpa using h.1
theorem lastOK_at (h : lastOK md ops o = true) {i : Nat} {x : Oper} (hx : ops[i]? = some x) : x.guard = none ∧ (∀ e ∈ x.after, Region.binds md e = true → e.on < i) ∧ ∃ e ∈ o.after, Region.binds md e = true ∧ e.on = i := by
  unfold lastOK at h
  rw [Bool.and_eq_true] at h
  have hi : i < ops.size := (Array.getElem?_eq_some_iff.1 hx).1
  have := List.all_eq_true.1 h.2 i (List.mem_range.2 hi)
  rw [hx] at this
  simp only [Bool.and_eq_true] at this
  obtain ⟨⟨h1, h2⟩, h3⟩ := this
  refine ⟨by simpa using h1, fun e he hb => ?_, ?_⟩
  · have := List.all_eq_true.1 h2 e (Array.mem_toList_iff.2 he)
    rw [hb] at this
    simpa using this
  · obtain ⟨e, he, hb⟩ := List.any_eq_true.1 h3
    simp only [Bool.and_eq_true, beq_iff_eq] at hb
    exact ⟨e, Array.mem_toList_iff.1 he, hb.1, hb.2⟩

theorem getD_push_lt {l : Array Bool} {b d : Bool} {j : Nat} (h : j < l.size) : (l.push b).getD j d = l.getD j d := by
  simp [Array.getD, Array.getElem_push_lt h, h, Nat.lt_succ_of_lt h]
theorem getD_push_eq {l : Array Bool} {b d : Bool} : (l.push b).getD l.size d = b := by simp [Array.getD]
theorem getD_dflt {l : Array Bool} {j : Nat} (h : j < l.size) (d d' : Bool) : l.getD j d = l.getD j d' := by simp [Array.getD, h]

theorem ready_push {l : Array Bool} {b : Bool} (hs : l.size = ops.size) (h : lastOK md ops o = true) {j : Nat} (hj : j < ops.size) : j ∈ Region.ready md (ops.push o) (l.push b) ↔ j ∈ Region.ready md ops l := by
  rw [mem_ready, mem_ready, getD_push_lt (by omega)]
  have e : (ops.push o)[j]? = ops[j]? := by simp [Array.getElem?_push, Nat.ne_of_lt hj]
  rw [e]
  refine and_congr_right fun _ => ⟨?_, ?_⟩
  · rintro ⟨x, hx, ha⟩
    refine ⟨x, hx, fun e he hb => ?_⟩
    have := (lastOK_at h hx).2.1 e he hb
    have h2 := ha e he hb
    rwa [getD_push_lt (by omega)] at h2
  · rintro ⟨x, hx, ha⟩
    refine ⟨x, hx, fun e he hb => ?_⟩
    have := (lastOK_at h hx).2.1 e he hb
    rw [getD_push_lt (by omega)]
    exact ha e he hb
/-- Where nothing may come up, all have. -/
theorem ready_all {l : Array Bool} (hs : l.size = ops.size) (h : lastOK md ops o = true) (h0 : Region.ready md ops l = []) : ∀ j, j < ops.size → l.getD j false = true := by
  intro j
  induction j using Nat.strongRecOn with
  | _ j ih =>
    intro hj
    cases hl : l.getD j false
    · exfalso
      have : j ∈ Region.ready md ops l := by
        rw [mem_ready]
        refine ⟨by rw [getD_dflt (by omega) true false]; exact hl, ops[j], by simp [hj], fun e he hb => ?_⟩
        have := (lastOK_at h (Array.getElem?_eq_getElem hj)).2.1 e he hb
        exact ih e.on this (by omega)
      rw [h0] at this
      cases this
    · rfl
theorem ready_last {l : Array Bool} (hs : l.size = ops.size) (hin : lastIn md ops.size o = true) (hall : ∀ j, j < ops.size → l.getD j false = true) : ops.size ∈ Region.ready md (ops.push o) (l.push false) := by
  rw [mem_ready]
  refine ⟨by rw [← hs]; exact getD_push_eq, o, by simp, fun e he hb => ?_⟩
  have := List.all_eq_true.1 hin e (Array.mem_toList_iff.2 he)
  rw [hb] at this
  have hlt : e.on < ops.size := by simpa using this
  rw [getD_push_lt (by omega)]
  exact hall e.on hlt
theorem last_ready {l : Array Bool} (hs : l.size = ops.size) (h : lastOK md ops o = true) (hr : ops.size ∈ Region.ready md (ops.push o) (l.push false)) : Region.ready md ops l = [] := by
  rw [mem_ready] at hr
  obtain ⟨_, x, hx, ha⟩ := hr
  have ex : x = o := by simpa using hx.symm
  subst ex
  refine List.eq_nil_iff_forall_not_mem.2 fun j hj => ?_
  rw [mem_ready] at hj
  obtain ⟨h1, y, hy, _⟩ := hj
  have hjn : j < ops.size := (Array.getElem?_eq_some_iff.1 hy).1
  obtain ⟨_, _, e, he, hb, hon⟩ := lastOK_at h hy
  have := ha e he hb
  rw [hon, getD_push_lt (by omega), getD_dflt (by omega) false true, h1] at this
  cases this
theorem ready_done {l : Array Bool} (hs : l.size = ops.size) (h : lastOK md ops o = true) (h0 : Region.ready md ops l = []) : Region.ready md (ops.push o) (l.push true) = [] := by
  refine List.eq_nil_iff_forall_not_mem.2 fun j hj => ?_
  rcases Nat.lt_or_ge j ops.size with hlt | hge
  · rw [ready_push hs h hlt, h0] at hj; cases hj
  · rw [mem_ready] at hj
    obtain ⟨h1, y, hy, _⟩ := hj
    have hjn := (Array.getElem?_eq_some_iff.1 hy).1
    have ej : j = l.size := by simp at hjn; omega
    rw [ej, getD_push_eq] at h1
    cases h1

theorem wpAny_end {l : Array Bool} {a : Act} {w : World} (h0 : Region.ready md ops l = []) (h : Q .normal a w) : ∀ fuel, wpAny P md ops Q fuel l a w
  | 0 => ⟨h0, h⟩
  | _ + 1 => ⟨fun _ => h, by rw [h0]; simp⟩

theorem wpOp_last {l : Array Bool} {a : Act} {w : World} (hs : l.size = ops.size) (h : lastOK md ops o = true) (h0 : Region.ready md ops l = []) (hq : postLast P o Q .normal a w) (fuel : Nat) :
    wpOp P (ops.push o) Q ops.size (wpAny P md (ops.push o) Q fuel ((l.push false).setIfInBounds ops.size true)) a w := by
  unfold wpOp
  have e : (ops.push o)[ops.size]? = some o := by simp
  simp only [e]
  have hw : Region.wanted o (yielded (ops.push o) a.tmps) = true := by simp [Region.wanted, lastOK_guard h]
  rw [if_pos hw]
  refine .inl (Oper.wp_mono (fun a' w' h' => ?_) hq)
  have e2 : (l.push false).setIfInBounds ops.size true = l.push true := by
    rw [← hs]
    refine Array.ext_getElem? fun i => ?_
    rw [Array.getElem?_setIfInBounds, Array.getElem?_push, Array.getElem?_push]
    by_cases hi : l.size = i
    · subst hi; simp
    · simp [hi, Ne.symm hi]
  rw [e2]
  exact wpAny_end (ready_done hs h h0) h' _

theorem wpAny_last (h : lastOK md ops o = true) (hin : lastIn md ops.size o = true) : ∀ (fuel : Nat) (l : Array Bool) (a : Act) (w : World), l.size = ops.size →
    wpAny P md ops (postLast P o Q) fuel l a w → wpAny P md (ops.push o) Q (fuel + 1) (l.push false) a w := by
  intro fuel
  induction fuel with
  | zero =>
    intro l a w hs hp
    obtain ⟨h0, hq⟩ := hp
    refine ⟨fun h1 => ?_, fun i hi => ?_⟩
    · have := ready_last hs hin (ready_all hs h h0)
      rw [h1] at this; cases this
    · rcases Nat.lt_or_ge i ops.size with hlt | hge
      · rw [ready_push hs h hlt, h0] at hi; cases hi
      · have ei : i = ops.size := by
          obtain ⟨_, y, hy, _⟩ := mem_ready.1 hi
          have := (Array.getElem?_eq_some_iff.1 hy).1
          simp at this; omega
        subst ei
        exact wpOp_last hs h h0 hq _
  | succ fuel ih =>
    intro l a w hs hp
    obtain ⟨hq, hop⟩ := hp
    refine ⟨fun h1 => ?_, fun i hi => ?_⟩
    · have h0 : Region.ready md ops l = [] := List.eq_nil_iff_forall_not_mem.2 fun j hj => by
        have hjn : j < ops.size := by
          obtain ⟨_, y, hy, _⟩ := mem_ready.1 hj
          exact (Array.getElem?_eq_some_iff.1 hy).1
        have := (ready_push (b := false) hs h hjn).2 hj
        rw [h1] at this; cases this
      have := ready_last hs hin (ready_all hs h h0)
      rw [h1] at this; cases this
    · rcases Nat.lt_or_ge i ops.size with hlt | hge
      · have hi0 := (ready_push hs h hlt).1 hi
        have h1 := hop i hi0
        unfold wpOp at h1 ⊢
        have e : (ops.push o)[i]? = some ops[i] := by simp [Array.getElem?_push, Nat.ne_of_lt hlt, hlt]
        have e0 : ops[i]? = some ops[i] := by simp [hlt]
        simp only [e]
        simp only [e0] at h1
        have hg := (lastOK_at h e0).1
        have hw : ∀ t, Region.wanted ops[i] t = true := fun t => by simp [Region.wanted, hg]
        rw [if_pos (hw _)] at h1 ⊢
        have e2 : (l.push false).setIfInBounds i true = (l.setIfInBounds i true).push false := by
          refine Array.ext_getElem? fun j => ?_
          rw [Array.getElem?_setIfInBounds, Array.getElem?_push, Array.getElem?_push, Array.getElem?_setIfInBounds, Array.size_setIfInBounds, Array.size_push]
          by_cases hj : i = j
          · subst hj
            have h1 : i < l.size := by omega
            have h2 : i < l.size + 1 := by omega
            have h3 : ¬ i = l.size := by omega
            simp [h1, h2, h3]
          · simp [hj]
        rw [e2]
        rcases h1 with h1 | ⟨h1, h2⟩
        · exact .inl (wp_postLast (Oper.wp_mono (fun a' w' h' => ih _ a' w' (by simpa using hs) h') h1))
        · exact .inr ⟨h1, letsOut_postLast h2⟩
      · have ei : i = ops.size := by
          obtain ⟨_, y, hy, _⟩ := mem_ready.1 hi
          have := (Array.getElem?_eq_some_iff.1 hy).1
          simp at this; omega
        subst ei
        have h0 := last_ready hs h hi
        exact wpOp_last hs h h0 (hq h0) _

/-- The law. -/
theorem region_last {id : Nat} {a : Act} {w : World} {S : World → Prop} (hm : P.follows .mixedOrders = true) (h : lastOK .any ops o = true) (hin : lastIn .any ops.size o = true)
    (hp : wpAnyH P .any ops (postLast P o Q) S ops.size (Array.replicate ops.size false) a w.drew) : (Code.region id (ops.push o) true).wp P Q a w := by
  refine wp_region_any hm ?_
  have e1 : (ops.push o).size = ops.size + 1 := by simp
  have e2 : Array.replicate (ops.size + 1) false = (Array.replicate ops.size false).push false := Array.replicate_succ
  rw [e1, e2]
  exact wpAny_last h hin _ _ _ _ (by simp) (wpAny_of_held _ _ _ _ hp)
/-- An operation is taken first; its slot is named. -/
theorem takeH {S : World → Prop} {i : Nat} {oi : Oper} {v : Value} {d : Tmp} {fuel : Nat} {listed : Array Bool} {a : Act} {w : World} (hi : ops[i]? = some oi) (hd : oi.dst = some d)
    (hs : Region.noSelect ops = true) (hf : Region.free md ops listed i = true) (hr : (Region.ready md ops listed).contains i = true)
    (hQ : ∀ c a w, Q (.panic c) (a.put (some d) v) w → Q (.panic c) a w) (hw : Region.wanted oi (yielded ops a.tmps) = true) (hy : ∀ w, S w → (execOp a.eval oi).run P w = .ok (.value v) w) (hS : S w)
    (h : wpAnyH P md ops Q S fuel (listed.setIfInBounds i true) (a.put (some d) v) w) : wpAnyH P md ops Q S (fuel + 1) listed a w :=
  wpAnyH_take hi hs hf hr (by rw [hd]; exact hQ) (.inl ⟨hw, hy⟩) hS (by rw [hd]; exact h)
/-- Just one operation may come up, and is carried out; S is had again behind it. -/
theorem oneH {S : World → Prop} {i : Nat} {oi : Oper} {fuel : Nat} {listed : Array Bool} {a : Act} {w : World} (hi : ops[i]? = some oi) (hr : Region.ready md ops listed = [i]) (hg : oi.guard = none)
    (h : oi.wp P a w (fun a' w' => S w' ∧ wpAnyH P md ops Q S fuel (listed.setIfInBounds i true) a' w') Q) : wpAnyH P md ops Q S (fuel + 1) listed a w := by
  refine wpAnyH_all hr (by simp) fun j hj => ?_
  obtain rfl : j = i := by simpa using hj
  unfold wpOp
  simp only [hi]
  rw [if_pos (by simp [Region.wanted, hg])]
  exact .inl h
/-- A call that leaves the world as it was. -/
theorem call_same {oi : Oper} {a : Act} {w : World} {K : Act → World → Prop} {d : Tmp} {f : FuncId} {xs : Array Operand} {ats : Array TypeId} (hd : oi.dst = some d) (hop : oi.op = Op.call { callee := Callee.value (.func f), args := xs, argTypes := ats })
    (he : ∀ args w, (callFunc f args).run P w = .ok (.enter f args) w) {vs : Array Value} (hxs : xs.map a.eval = vs) {v : Value} (hc : Calls P f vs w fun e w' => e = .returned v ∧ w' = w) (hK : K (a.put (some d) v) w) : oi.wp P a w K Q := by
  unfold Oper.wp
  have hr : (execOp a.eval oi).run P w = .ok (.enter f vs) w := by
    have h2 : xs.map a.eval = vs := hxs
    simp [execOp, hop, resolve, invoke, Act.eval, Deferred.ofValue]
    have h3 := he (xs.map a.eval) w
    rw [h2] at h3
    rw [← h2] at h3 ⊢
    exact h3
  rw [hr, Oper.upon_enter]
  exact hc.mono (by rintro e w' ⟨rfl, rfl⟩; rw [hd]; exact hK)
/-- An append whose run is known. -/
theorem call_append {oi : Oper} {a : Act} {w w' : World} {K : Act → World → Prop} {d : Tmp} {s x : Operand} {t : TypeId} (hd : oi.dst = some d) (hop : oi.op = Op.call { callee := Callee.builtin Builtin.append, args := #[s, x], argTypes := #[t, t] })
    {v v2 v' : Value} (hs : a.eval s = v) (hx : a.eval x = v2) (hrun : (Builtin.append_ #[t, t] oi.type #[v, v2]).run P w = .ok v' w') (hK : K (a.put (some d) v') w') : oi.wp P a w K Q := by
  unfold Oper.wp
  simp [execOp, hop, resolve, invoke, builtin, hs, hx, hrun, Result.andThen]
  rw [Oper.upon_value, hd]
  exact hK
/-- An operation whose run is known. -/
theorem op_run {oi : Oper} {a : Act} {w w' : World} {K : Act → World → Prop} {d : Tmp} {v' : Value} (hd : oi.dst = some d) (hrun : (execOp a.eval oi).run P w = .ok (.value v') w') (hK : K (a.put (some d) v') w') : oi.wp P a w K Q := by
  unfold Oper.wp
  rw [hrun, Oper.upon_value, hd]
  exact hK
/-- The same for a region that is written out. -/
theorem region_lastF {id : Nat} {a : Act} {w : World} {S : World → Prop} (hm : P.follows .mixedOrders = true) (hf : ops.pop.push ops.back! = ops) (h : lastOK .any ops.pop ops.back! = true) (hin : lastIn .any ops.pop.size ops.back! = true)
    (hp : wpAnyH P .any ops.pop (postLast P ops.back! Q) S ops.pop.size (Array.replicate ops.pop.size false) a w.drew) : (Code.region id ops true).wp P Q a w := by
  have := region_last (id := id) hm h hin hp
  rwa [hf] at this
end
end Go.Proofs.Ytbfkmakfkbdafab

namespace Go.Proofs.Ytbfkmakfkbdafab
set_option maxRecDepth 100000
open Go.RowKit

section
variable {P : Program} {Q : Exit → Act → World → Prop}
/-- A call, its result and its world taken up. -/
theorem call_gets {oi : Oper} {a : Act} {w : World} {K : Act → World → Prop} {d : Tmp} {f : FuncId} {xs : Array Operand} {ats : Array TypeId} (hd : oi.dst = some d) (hop : oi.op = Op.call { callee := Callee.value (.func f), args := xs, argTypes := ats })
    (he : ∀ args w, (callFunc f args).run P w = .ok (.enter f args) w) {vs : Array Value} (hxs : xs.map a.eval = vs) {R : Value → World → Prop} (hc : Calls P f vs w fun e w' => ∃ v, e = .returned v ∧ R v w') (hK : ∀ v w', R v w' → K (a.put (some d) v) w') : oi.wp P a w K Q := by
  unfold Oper.wp
  have hr : (execOp a.eval oi).run P w = .ok (.enter f vs) w := by
    have h2 : xs.map a.eval = vs := hxs
    simp [execOp, hop, resolve, invoke, Act.eval, Deferred.ofValue]
    have h3 := he (xs.map a.eval) w
    rw [h2] at h3
    rw [← h2] at h3 ⊢
    exact h3
  rw [hr, Oper.upon_enter]
  exact hc.mono (by rintro e w' ⟨v, rfl, h⟩; rw [hd]; exact hK _ _ h)
/-- A call that gives up. -/
theorem call_up {oi : Oper} {a : Act} {w : World} {K : Act → World → Prop} {f : FuncId} {xs : Array Operand} {ats : Array TypeId} (hop : oi.op = Op.call { callee := Callee.value (.func f), args := xs, argTypes := ats })
    (he : ∀ args w, (callFunc f args).run P w = .ok (.enter f args) w) {vs : Array Value} (hxs : xs.map a.eval = vs) {R : World → Prop} {c : List PanicEntry} (hc : Calls P f vs w fun e w' => e = .panicked c ∧ R w') (hQ : ∀ w', R w' → Q (.panic c) a w') : oi.wp P a w K Q := by
  unfold Oper.wp
  have hr : (execOp a.eval oi).run P w = .ok (.enter f vs) w := by
    have h2 : xs.map a.eval = vs := hxs
    simp [execOp, hop, resolve, invoke, Act.eval, Deferred.ofValue]
    have h3 := he (xs.map a.eval) w
    rw [h2] at h3
    rw [← h2] at h3 ⊢
    exact h3
  rw [hr, Oper.upon_enter]
  exact hc.mono (by rintro e w' ⟨rfl, h⟩; exact hQ _ h)
/-- A store whose run is known. -/
theorem op_skip {oi : Oper} {a : Act} {w w' : World} {K : Act → World → Prop} (hd : oi.dst = none) (hrun : (execOp a.eval oi).run P w = .ok .skip w') (hK : K a w') : oi.wp P a w K Q := by
  unfold Oper.wp
  rw [hrun, Oper.upon_skip, hd]
  exact hK
/-- Just two operations may come up. -/
theorem twoH {ops : Array Oper} {md : Region.Mode} {S : World → Prop} {i j : Nat} {oi oj : Oper} {fuel : Nat} {listed : Array Bool} {a : Act} {w : World} (hi : ops[i]? = some oi) (hj : ops[j]? = some oj) (hr : Region.ready md ops listed = [i, j]) (gi : oi.guard = none) (gj : oj.guard = none)
    (h1 : oi.wp P a w (fun a' w' => S w' ∧ wpAnyH P md ops Q S fuel (listed.setIfInBounds i true) a' w') Q) (h2 : oj.wp P a w (fun a' w' => S w' ∧ wpAnyH P md ops Q S fuel (listed.setIfInBounds j true) a' w') Q) : wpAnyH P md ops Q S (fuel + 1) listed a w := by
  refine wpAnyH_all hr (by simp) fun k hk => ?_
  rcases (by simpa using hk : k = i ∨ k = j) with rfl | rfl
  · unfold wpOp
    simp only [hi]
    rw [if_pos (by simp [Region.wanted, gi])]
    exact .inl h1
  · unfold wpOp
    simp only [hj]
    rw [if_pos (by simp [Region.wanted, gj])]
    exact .inl h2
end
end Go.Proofs.Ytbfkmakfkbdafab

namespace Go.Proofs.Ytbfkmakfkbdafab
set_option maxRecDepth 100000
open Go.ChangeShapes Go.WideShapes Go.ChangeAt Go.RowKit

theorem wrap_numC (l : List Int) : IntKind.i64.wrap ((numC l).1 - 0) = (numC l).1 := by
  show IntKind.i64.wrap (IntKind.i64.wrap (get l).1 - 0) = IntKind.i64.wrap (get l).1
  rw [IntKind.wrap_i64, IntKind.wrap_i64]
  omega
theorem pairsK_zero (k : Nat) (l : List Int) : pairsK 0 (k + 1) l = ((pairsK 0 k l).1 ++ [((numC (pairsK 0 k l).2).1, (numC (numC (pairsK 0 k l).2).2).1)], (numC (numC (pairsK 0 k l).2).2).2) := by
  show ((pairsK 0 k l).1 ++ [(IntKind.i64.wrap ((numC (pairsK 0 k l).2).1 - 0), IntKind.i64.wrap ((numC (numC (pairsK 0 k l).2).2).1 - 0))], (numC (numC (pairsK 0 k l).2).2).2) = _
  rw [wrap_numC, wrap_numC]
/-- While a payload is gone through: the reader in the block B + 1, what is made in B + 2, its rows behind. -/
structure PsI (w X : World) (B : Nat) (l : List Int) (a b : Int) (c : Bool) (vv vm : Value) (vs ms : List Ml) : Prop where
  rd : RdC X (B + 1) l
  box : BX 26 X (B + 2) #[.int .i64 a, .int .i64 b, .bool c, vv, vm]
  vals : X.ownsRow (B + 3) 43 2 vv vs.length (vs.flatMap encM)
  mail : X.ownsRow (B + 3) 45 2 vm ms.length (ms.flatMap encM)
  low : Below B w X
  zero : BX 26 X B #[.int .i64 0, .int .i64 0, .bool false, .slice none 0 0, .slice none 0 0]
  size : B + 3 ≤ X.heap.size
section
variable {w X X' : World} {B : Nat} {l l' : List Int} {a b : Int} {c : Bool} {vv vm v' : Value} {vs ms l2 : List Ml}
theorem PsI.drew (h : PsI w X B l a b c vv vm vs ms) : PsI w X.drew B l a b c vv vm vs ms := ⟨h.rd.kept (Kept.refl (fun _ => False) X).drew (fun _ _ h => h), h.box, h.vals, h.mail, h.low.drew, h.zero, h.size⟩
theorem PsI.num (h : PsI w X B l a b c vv vm vs ms) (hr : RdC X' (B + 1) l') (hk : Kept (fun k => k = B + 1) X X') (hs : X'.heap.size = X.heap.size) : PsI w X' B l' a b c vv vm vs ms :=
  ⟨hr, h.box.kept hk (by omega), hk.own h.vals fun g hg e => by have := (h.vals.lt g hg).1; omega, hk.own h.mail fun g hg e => by have := (h.mail.lt g hg).1; omega, h.low.trans (hk.below (by have := h.size; omega) fun k e => by omega), h.zero.kept hk (by omega), by have := h.size; omega⟩
theorem PsI.alloc (h : PsI w X B l a b c vv vm vs ms) (ob : Obj) : PsI w (X.alloc ob) B l a b c vv vm vs ms :=
  ⟨h.rd.kept ((Kept.refl (fun _ => False) X).alloc ob) (fun _ _ h => h), h.box.below (below_alloc _ _) h.box.lt, h.vals.alloc _, h.mail.alloc _, h.low.alloc (by have := h.size; omega) _, h.zero.below (below_alloc _ _) h.zero.lt, by have := h.size; simp; omega⟩
theorem PsI.setV (h : PsI w X B l a b c vv vm vs ms) (hg : X.grownBy X' vv.ownBlock) (ho : X'.ownsRow (B + 3) 43 2 v' l2.length (l2.flatMap encM)) : BX 26 X' (B + 2) #[.int .i64 a, .int .i64 b, .bool c, vv, vm] ∧ PsI w (X'.setCell ⟨B + 2, 3, none⟩ v') B l a b c v' vm l2 ms := by
  have hk : Kept (fun k => B + 3 ≤ k) X X' := (Kept.refl _ X).grown hg fun k e => .inl (h.vals.lt k e).1
  have hs := h.size
  have hb := h.box.kept hk (by omega)
  have hm := h.mail.kept hg (own_apart h.mail h.vals (by decide))
  have hl := h.low.trans (hk.below (B := B) (by omega) fun k e => by omega)
  exact ⟨hb, (h.rd.kept hk (fun k h1 h2 => by omega)).kept (Kept.box X' (B + 2) 3 v') (fun k h1 h2 => by omega), hb.set 3 v', hb.own ho (by decide), hb.own hm (by decide), hl.setCell (by simp) _, (h.zero.kept hk (by omega)).other (by omega), by have := hk.size; simp; omega⟩
theorem PsI.setM (h : PsI w X B l a b c vv vm vs ms) (hg : X.grownBy X' vm.ownBlock) (ho : X'.ownsRow (B + 3) 45 2 v' l2.length (l2.flatMap encM)) : BX 26 X' (B + 2) #[.int .i64 a, .int .i64 b, .bool c, vv, vm] ∧ PsI w (X'.setCell ⟨B + 2, 4, none⟩ v') B l a b c vv v' vs l2 := by
  have hk : Kept (fun k => B + 3 ≤ k) X X' := (Kept.refl _ X).grown hg fun k e => .inl (h.mail.lt k e).1
  have hs := h.size
  have hb := h.box.kept hk (by omega)
  have hm := h.vals.kept hg (own_apart h.vals h.mail (by decide))
  have hl := h.low.trans (hk.below (B := B) (by omega) fun k e => by omega)
  exact ⟨hb, (h.rd.kept hk (fun k h1 h2 => by omega)).kept (Kept.box X' (B + 2) 4 v') (fun k h1 h2 => by omega), hb.set 4 v', hb.own hm (by decide), hb.own ho (by decide), hl.setCell (by simp) _, (h.zero.kept hk (by omega)).other (by omega), by have := hk.size; simp; omega⟩
end

set_option maxHeartbeats 4000000 in
set_option maxRecDepth 100000 in
theorem parse_any (v : Value) (l : List Int) (w : World) (hr : Reads .u8 w v l) (hb : ∀ a n c, v = .slice (some a) n c → a.block < w.heap.size) (hx : ∀ x ∈ l, 0 ≤ x ∧ x ≤ 255) (hl : l.length ≤ 1000000) :
    Calls Try.prog 8 #[v] w fun e w' => ∃ v1 v2, e = .returned (.agg #[.int .i64 (parseC l).step, .int .i64 (parseC l).phase, .bool (parseC l).fresh, v1, v2]) ∧ w'.ownsRow w.heap.size 43 2 v1 (parseC l).vals.length ((parseC l).vals.flatMap encM) ∧ w'.ownsRow w.heap.size 45 2 v2 (parseC l).mail.length ((parseC l).mail.flatMap encM) ∧ Below w.heap.size w w' := by
  obtain ⟨va, vc, rfl⟩ : ∃ a c, v = .slice a l.length c := by obtain ⟨a, c, e, _⟩ := hr; exact ⟨a, c, e⟩
  have HN : Hid (∀ X l, RdC X (w.heap.size + 1) l → Calls Try.prog 16 #[.pointer (some ⟨w.heap.size + 1, 0, none⟩)] X fun e w' => ∃ v, e = .returned v ∧ (v = .int .i64 (numC l).1 ∧ RdC w' (w.heap.size + 1) (numC l).2 ∧ Kept (fun k => k = w.heap.size + 1) X w' ∧ w'.heap.size = X.heap.size)) := fun X l hX => (cNumber_any _ l X hX).mono fun e w' h => ⟨_, h.1, rfl, h.2⟩
  have HC : Hid (∀ X l, RdC X (w.heap.size + 1) l → Calls Try.prog 17 #[.pointer (some ⟨w.heap.size + 1, 0, none⟩)] X fun e w' => e = .returned (.int .i64 (cntC l).1) ∧ RdC w' (w.heap.size + 1) (cntC l).2 ∧ Kept (fun k => k = w.heap.size + 1) X w' ∧ w'.heap.size = X.heap.size) := fun X l hX => cCount_any _ l X hX
  have en : ∀ args w, (callFunc 16 args).run Try.prog w = .ok (.enter 16 args) w := enters_of Try.func16 (by kernel_rfl) rfl
  obtain ⟨W0, hW0⟩ : ∃ W0, W0 = (w.alloc (.cells #[.int .i64 0, .int .i64 0, .bool false, .slice none 0 0, .slice none 0 0] 26)).alloc (.cells #[.slice va l.length vc] 50) := ⟨_, rfl⟩
  obtain ⟨Z0, Q0, B0, s1, s2⟩ := boxes2 w #[.int .i64 0, .int .i64 0, .bool false, .slice none 0 0, .slice none 0 0] #[.slice va l.length vc] 26 50 W0 hW0
  have R0 : Hid (RdC W0 (w.heap.size + 1) l) := ⟨_, Q0, hr.below B0 (Nat.le_refl _), fun a n c e => by have := hb a n c e; omega, hx⟩
  have ZH : Hid (BX 26 W0 w.heap.size #[.int .i64 0, .int .i64 0, .bool false, .slice none 0 0, .slice none 0 0]) := Z0
  have BH : Hid (Below w.heap.size w W0) := B0
  have LL : Hid (l.length ≤ 1000000) := hl
  obtain ⟨R, hR⟩ : ∃ R, R = parseC l := ⟨_, rfl⟩
  have HP : Hid (R = ⟨(numC l).1, (numC (numC l).2).1, (numC (numC (numC l).2).2).1 == 1, (pairsK 1 (cntC (numC (numC (numC l).2).2).2).1.toNat (cntC (numC (numC (numC l).2).2).2).2).1, (pairsK 0 (cntC (pairsK 1 (cntC (numC (numC (numC l).2).2).2).1.toNat (cntC (numC (numC (numC l).2).2).2).2).2).1.toNat (cntC (pairsK 1 (cntC (numC (numC (numC l).2).2).2).1.toNat (cntC (numC (numC (numC l).2).2).2).2).2).2).1⟩) := hR
  rw [← hR]
  clear hR
  have L1 := numC_len l
  have L2 := numC_len (numC l).2
  have L3 := numC_len (numC (numC l).2).2
  clear Z0 Q0 B0 hr hb hx hl
  go_enter Try.func8, Try.ntmps8
  go_upto_region 2 with fail
  rw [← hW0]
  clear hW0
  have N1 : Hid (∀ X, RdC X (w.heap.size + 1) l → Calls Try.prog 16 #[.pointer (some ⟨w.heap.size + 1, 0, none⟩)] X fun e w' => e = .returned (.int .i64 (numC l).1) ∧ RdC w' (w.heap.size + 1) (numC l).2 ∧ Kept (fun k => k = w.heap.size + 1) X w' ∧ w'.heap.size = X.heap.size) := fun X hX => cNumber_any _ _ X hX
  have N2 : Hid (∀ X, RdC X (w.heap.size + 1) (numC l).2 → Calls Try.prog 16 #[.pointer (some ⟨w.heap.size + 1, 0, none⟩)] X fun e w' => e = .returned (.int .i64 (numC (numC l).2).1) ∧ RdC w' (w.heap.size + 1) (numC (numC l).2).2 ∧ Kept (fun k => k = w.heap.size + 1) X w' ∧ w'.heap.size = X.heap.size) := fun X hX => cNumber_any _ _ X hX
  have N3 : Hid (∀ X, RdC X (w.heap.size + 1) (numC (numC l).2).2 → Calls Try.prog 16 #[.pointer (some ⟨w.heap.size + 1, 0, none⟩)] X fun e w' => e = .returned (.int .i64 (numC (numC (numC l).2).2).1) ∧ RdC w' (w.heap.size + 1) (numC (numC (numC l).2).2).2 ∧ Kept (fun k => k = w.heap.size + 1) X w' ∧ w'.heap.size = X.heap.size) := fun X hX => cNumber_any _ _ X hX
  have C1 : Hid (∀ X, RdC X (w.heap.size + 1) (numC (numC (numC l).2).2).2 → Calls Try.prog 17 #[.pointer (some ⟨w.heap.size + 1, 0, none⟩)] X fun e w' => e = .returned (.int .i64 (cntC (numC (numC (numC l).2).2).2).1) ∧ RdC w' (w.heap.size + 1) (cntC (numC (numC (numC l).2).2).2).2 ∧ Kept (fun k => k = w.heap.size + 1) X w' ∧ w'.heap.size = X.heap.size) := fun X hX => cCount_any _ _ X hX
  have LC : (cntC (numC (numC (numC l).2).2).2).1.toNat ≤ 1000000 ∧ (cntC (numC (numC (numC l).2).2).2).2.length ≤ 1000000 := by
    have h1 := LL.out
    have h4 := numC_len (numC (numC (numC l).2).2).2
    refine ⟨?_, ?_⟩
    · show (min (numC (numC (numC (numC l).2).2).2).1 _).toNat ≤ _
      omega
    · show (numC (numC (numC (numC l).2).2).2).2.length ≤ _
      omega
  generalize numC l = n1 at *
  generalize numC n1.2 = n2 at *
  generalize numC n2.2 = n3 at *
  generalize cntC n3.2 = q1 at *
  obtain ⟨na, r1⟩ := n1
  obtain ⟨nb, r2⟩ := n2
  obtain ⟨nc, r3⟩ := n3
  obtain ⟨c1, l4⟩ := q1
  simp only at LC
  obtain ⟨LC1, LC2⟩ := LC
  clear L1 L2 L3
  go_wp2_with fail
  refine (N1.out _ R0.out).mono ?_
  rintro e w1 ⟨rfl, x1, k1, z1⟩
  have X1 : Hid (RdC w1 (w.heap.size + 1) r1) := x1
  have K1 : Hid (Kept (fun k => k = w.heap.size + 1) W0 w1) := k1
  have S1 : Hid (w1.heap.size = W0.heap.size) := z1
  clear x1 k1 z1
  go_wp2_with fail
  refine (N2.out _ X1.out).mono ?_
  rintro e w2 ⟨rfl, x1, k1, z1⟩
  have X2 : Hid (RdC w2 (w.heap.size + 1) r2) := x1
  have K2 : Hid (Kept (fun k => k = w.heap.size + 1) W0 w2) := K1.out.trans k1
  have S2 : Hid (w2.heap.size = W0.heap.size) := z1.trans S1.out
  clear x1 k1 z1
  go_wp2_with fail
  refine (N3.out _ X2.out).mono ?_
  rintro e w3 ⟨rfl, x1, k1, z1⟩
  have X3 : Hid (RdC w3 (w.heap.size + 1) r3) := x1
  have K3 : Kept (fun k => k = w.heap.size + 1) W0 w3 := K2.out.trans k1
  have z3 : w3.heap.size = w.heap.size + 2 := by have := S2.out; omega
  have S3 : Hid (w3.heap.size = w.heap.size + 2) := z3
  have B3 : Below w.heap.size w w3 := BH.out.trans (K3.below (by omega) fun k e => by omega)
  have I4 : Hid (PsI w (w3.alloc (.cells #[.int .i64 na, .int .i64 nb, .bool (nc == 1), .slice none 0 0, .slice none 0 0] 26)) w.heap.size r3 na nb (nc == 1) (.slice none 0 0) (.slice none 0 0) [] []) :=
    ⟨X3.out.kept ((Kept.refl (fun _ => False) w3).alloc _) (fun _ _ h => h), by have := BX.new 26 w3 #[.int .i64 na, .int .i64 nb, .bool (nc == 1), .slice none 0 0, .slice none 0 0]; rwa [z3] at this, World.ownsRow_nil _ _ _ _, World.ownsRow_nil _ _ _ _, B3.alloc (by omega) _, (ZH.out.kept K3 (by omega)).below (below_alloc _ _) (by omega), by simp; omega⟩
  clear x1 k1 z1 z3 B3 K3
  go_upto_region 3 with fail
  rw [S3.out]
  generalize w3.alloc (.cells #[.int .i64 na, .int .i64 nb, .bool (nc == 1), .slice none 0 0, .slice none 0 0] 26) = w4 at *
  generalize (nc == 1) = fc at *
  clear X1 X2 X3 K1 K2 S1 S2 S3 N1 N2 N3 ZH BH R0
  go_wp2_with fail
  refine (C1.out _ I4.out.rd).mono ?_
  rintro e w5 ⟨rfl, x1, k1, z1⟩
  have I5 : Hid (PsI w w5 w.heap.size l4 na nb fc (.slice none 0 0) (.slice none 0 0) [] []) := I4.out.num x1 k1 z1
  clear x1 k1 z1 I4 C1
  go_wp2_with fail
  go_loopw [13] (fun i wr => ∃ (k : Nat) (vv : Value), k ≤ c1.toNat ∧ i = .int .i64 k ∧ PsI w wr w.heap.size (pairsK 1 k l4).2 na nb fc vv (.slice none 0 0) (pairsK 1 k l4).1 []) (fun i _ => c1.toNat - (intOf i).toNat)
  case atStart => exact ⟨0, _, by omega, rfl, I5.out⟩

  case round =>
    obtain ⟨k, vx, hk, rfl, hi⟩ := hrel
    have PI0 : Hid (PsI w wr w.heap.size (pairsK 1 k l4).2 na nb fc vx (.slice none 0 0) (pairsK 1 k l4).1 []) := hi
    clear hi
    by_cases hlt : k < c1.toNat
    · have hlt' : (k : Int) < c1 := by omega
      have HS : Hid (pairsK 1 (k + 1) l4 = ((pairsK 1 k l4).1 ++ [(IntKind.i64.wrap ((numC (pairsK 1 k l4).2).1 - 1), IntKind.i64.wrap ((numC (numC (pairsK 1 k l4).2).2).1 - 1))], (numC (numC (pairsK 1 k l4).2).2).2)) := rfl
      have hG0 : (pairsK 1 k l4).1.length ≤ k ∧ k ≤ (pairsK 1 k l4).1.length := by have := pairsK_count 1 l4 k; omega
      have HN1 : Hid (∀ X, RdC X (w.heap.size + 1) (pairsK 1 k l4).2 → Calls Try.prog 16 #[.pointer (some ⟨w.heap.size + 1, 0, none⟩)] X fun e w' => ∃ v, e = .returned v ∧ (v = .int .i64 (numC (pairsK 1 k l4).2).1 ∧ RdC w' (w.heap.size + 1) (numC (pairsK 1 k l4).2).2 ∧ Kept (fun k => k = w.heap.size + 1) X w' ∧ w'.heap.size = X.heap.size)) := fun X hX => HN.out X _ hX
      have HN2 : Hid (∀ X, RdC X (w.heap.size + 1) (numC (pairsK 1 k l4).2).2 → Calls Try.prog 16 #[.pointer (some ⟨w.heap.size + 1, 0, none⟩)] X fun e w' => ∃ v, e = .returned v ∧ (v = .int .i64 (numC (numC (pairsK 1 k l4).2).2).1 ∧ RdC w' (w.heap.size + 1) (numC (numC (pairsK 1 k l4).2).2).2 ∧ Kept (fun k => k = w.heap.size + 1) X w' ∧ w'.heap.size = X.heap.size)) := fun X hX => HN.out X _ hX
      generalize pairsK 1 k l4 = G at *
      obtain ⟨g1, g2⟩ := G
      simp only at hG0
      generalize numC g2 = m1 at *
      obtain ⟨m1, t1⟩ := m1
      generalize numC t1 = m2 at *
      obtain ⟨m2, t2⟩ := m2
      obtain ⟨xa, xc, rfl⟩ := (RowK.own encM_len PI0.out.vals : MlR wr vx g1).shape
      have PD : Hid (PsI w wr.drew w.heap.size g2 na nb fc (.slice xa g1.length xc) (.slice none 0 0) g1 []) := PI0.out.drew
      clear PI0
      go_upto_region 5 with fail
      refine region_lastF (S := fun V => V.cell? ⟨w.heap.size + 2, 3, none⟩ = some (.slice xa g1.length xc)) (by kernel_rfl) (by kernel_rfl) (by kernel_rfl) (by kernel_rfl) ?_
      simp only [List.pop_toArray, List.dropLast_cons_cons, List.dropLast_singleton, List.size_toArray, List.length_cons, List.length_nil, Nat.reduceAdd]
      refine takeH (i := 0) (v := .pointer (some ⟨w.heap.size + 2, 3, none⟩)) (d := 15) rfl rfl (by kernel_rfl) (by kernel_rfl) (by kernel_rfl) (fun _ _ _ h => h) (by rfl) (fun V hV => by have v1 := hV; go_simp) PD.out.box.all5.2.2.2.1 ?_
      simp only [Act.put, List.setIfInBounds_toArray, List.set_cons_zero, List.set_cons_succ]
      refine takeH (i := 1) (v := .slice xa g1.length xc) (d := 16) rfl rfl (by kernel_rfl) (by kernel_rfl) (by kernel_rfl) (fun _ _ _ h => h) (by rfl) (fun V hV => by have v1 := hV; go_simp) PD.out.box.all5.2.2.2.1 ?_
      simp only [Act.put, List.setIfInBounds_toArray, List.set_cons_zero, List.set_cons_succ]
      refine oneH (i := 2) rfl (by kernel_rfl) rfl (call_gets (d := 17) (f := 16) (xs := #[.tmp 3]) (ats := #[50]) rfl rfl en (vs := #[.pointer (some ⟨w.heap.size + 1, 0, none⟩)]) (by simp [Act.eval]) (HN1.out wr.drew PD.out.rd) ?_)
      rintro _ wa ⟨rfl, x1, k1, z1⟩
      have PA : Hid (PsI w wa w.heap.size t1 na nb fc (.slice xa g1.length xc) (.slice none 0 0) g1 []) := PD.out.num x1 k1 z1
      clear x1 k1 z1
      refine ⟨PA.out.box.all5.2.2.2.1, ?_⟩
      simp only [Act.put, List.setIfInBounds_toArray, List.set_cons_zero, List.set_cons_succ]
      refine takeH (i := 3) (v := .int .i64 (IntKind.i64.wrap (m1 - 1))) (d := 18) rfl rfl (by kernel_rfl) (by kernel_rfl) (by kernel_rfl) (fun _ _ _ h => h) (by rfl) (fun V hV => by have v1 := hV; go_simp) PA.out.box.all5.2.2.2.1 ?_
      simp only [Act.put, List.setIfInBounds_toArray, List.set_cons_zero, List.set_cons_succ]
      refine oneH (i := 4) rfl (by kernel_rfl) rfl (call_gets (d := 19) (f := 16) (xs := #[.tmp 3]) (ats := #[50]) rfl rfl en (vs := #[.pointer (some ⟨w.heap.size + 1, 0, none⟩)]) (by simp [Act.eval]) (HN2.out wa PA.out.rd) ?_)
      rintro _ wb ⟨rfl, x1, k1, z1⟩
      have PB : Hid (PsI w wb w.heap.size t2 na nb fc (.slice xa g1.length xc) (.slice none 0 0) g1 []) := PA.out.num x1 k1 z1
      clear x1 k1 z1
      refine ⟨PB.out.box.all5.2.2.2.1, ?_⟩
      simp only [Act.put, List.setIfInBounds_toArray, List.set_cons_zero, List.set_cons_succ]
      refine takeH (i := 5) (v := .int .i64 (IntKind.i64.wrap (m2 - 1))) (d := 20) rfl rfl (by kernel_rfl) (by kernel_rfl) (by kernel_rfl) (fun _ _ _ h => h) (by rfl) (fun V hV => by have v1 := hV; go_simp) PB.out.box.all5.2.2.2.1 ?_
      simp only [Act.put, List.setIfInBounds_toArray, List.set_cons_zero, List.set_cons_succ]
      refine takeH (i := 6) (v := .agg #[.int .i64 (IntKind.i64.wrap (m1 - 1)), .int .i64 (IntKind.i64.wrap (m2 - 1))]) (d := 21) rfl rfl (by kernel_rfl) (by kernel_rfl) (by kernel_rfl) (fun _ _ _ h => h) (by rfl) (fun V hV => by have v1 := hV; go_simp) PB.out.box.all5.2.2.2.1 ?_
      simp only [Act.put, List.setIfInBounds_toArray, List.set_cons_zero, List.set_cons_succ]
      have PC : Hid (PsI w (wb.alloc (.cells #[.int .i64 (IntKind.i64.wrap (m1 - 1)), .int .i64 (IntKind.i64.wrap (m2 - 1))] 43)) w.heap.size t2 na nb fc (.slice xa g1.length xc) (.slice none 0 0) g1 []) := PB.out.alloc _
      obtain ⟨g, gc, wd, hrun, hown, hgr⟩ := run_append_newK kV (w := wb.alloc (.cells #[.int .i64 (IntKind.i64.wrap (m1 - 1)), .int .i64 (IntKind.i64.wrap (m2 - 1))] 43)) 23 (w.heap.size + 3) (.slice xa g1.length xc) g1 PC.out.vals wb.heap.size (IntKind.i64.wrap (m1 - 1), IntKind.i64.wrap (m2 - 1)) #[.int .i64 (IntKind.i64.wrap (m1 - 1)), .int .i64 (IntKind.i64.wrap (m2 - 1))] rfl (0, 0) (heap_alloc_new _ _) (by simp only [kV]; omega) (by unfold maxLen; omega) PC.out.size
      obtain ⟨bd, PF0⟩ := PC.out.setV hgr hown
      have PF : Hid (PsI w (wd.setCell ⟨w.heap.size + 2, 3, none⟩ (.slice (some ⟨g, 0, none⟩) (g1.length + 1) gc)) w.heap.size t2 na nb fc (.slice (some ⟨g, 0, none⟩) (g1.length + 1) gc) (.slice none 0 0) (g1 ++ [(IntKind.i64.wrap (m1 - 1), IntKind.i64.wrap (m2 - 1))]) []) := PF0
      have cd := bd.all5.2.2.2.1
      have fd := bd.frozen 3
      clear hgr hown bd PF0
      refine oneH (i := 7) rfl (by kernel_rfl) rfl (op_run (d := 22) (v' := .slice (some ⟨wb.heap.size, 0, none⟩) 1 1) (w' := wb.alloc (.cells #[.int .i64 (IntKind.i64.wrap (m1 - 1)), .int .i64 (IntKind.i64.wrap (m2 - 1))] 43)) rfl (by go_simp) ⟨PC.out.box.all5.2.2.2.1, ?_⟩)
      simp only [Act.put, List.setIfInBounds_toArray, List.set_cons_zero, List.set_cons_succ]
      refine oneH (i := 8) rfl (by kernel_rfl) rfl (call_append (d := 23) (s := .tmp 16) (x := .tmp 22) (t := 23) rfl rfl (v := .slice xa g1.length xc) (v2 := .slice (some ⟨wb.heap.size, 0, none⟩) 1 1) (by simp [Act.eval]) (by simp [Act.eval]) hrun ⟨cd, ?_⟩)
      simp only [Act.put, List.setIfInBounds_toArray, List.set_cons_zero, List.set_cons_succ]
      refine takeH (i := 9) (v := .pointer (some ⟨w.heap.size + 2, 3, none⟩)) (d := 24) rfl rfl (by kernel_rfl) (by kernel_rfl) (by kernel_rfl) (fun _ _ _ h => h) (by rfl) (fun V hV => by have v1 := hV; go_simp) cd ?_
      simp only [Act.put, List.setIfInBounds_toArray, List.set_cons_zero, List.set_cons_succ]
      refine wpAnyH_done (by kernel_rfl) ?_ _
      clear hrun PA PB PC PD HN1 HN2
      show Oper.wp _ _ _ _ _ _
      go_wp2_with fail
      go_roundw
      case rel => exact ⟨k + 1, _, by omega, by go_num, by rw [HS.out]; exact PF.out⟩
      case measure => simp [intOf]; omega
    · have hlt' : ¬ (k : Int) < c1 := by omega
      have e0 : k = c1.toNat := by omega
      have PE0 : Hid (PsI w wr w.heap.size (pairsK 1 c1.toNat l4).2 na nb fc vx (.slice none 0 0) (pairsK 1 c1.toNat l4).1 []) := by rw [← e0]; exact PI0.out
      have C2 : Hid (∀ X, RdC X (w.heap.size + 1) (pairsK 1 c1.toNat l4).2 → Calls Try.prog 17 #[.pointer (some ⟨w.heap.size + 1, 0, none⟩)] X fun e w' => e = .returned (.int .i64 (cntC (pairsK 1 c1.toNat l4).2).1) ∧ RdC w' (w.heap.size + 1) (cntC (pairsK 1 c1.toNat l4).2).2 ∧ Kept (fun k => k = w.heap.size + 1) X w' ∧ w'.heap.size = X.heap.size) := fun X hX => cCount_any _ _ X hX
      have LD : (cntC (pairsK 1 c1.toNat l4).2).1.toNat ≤ 1000000 := by
        have h4 := numC_len (pairsK 1 c1.toNat l4).2
        have h5 := pairsK_len 1 l4 c1.toNat
        show (min (numC (pairsK 1 c1.toNat l4).2).1 _).toNat ≤ _
        omega
      clear PI0 e0 hk hlt
      go_upto_region 7 with fail
      clear hlt'
      generalize pairsK 1 c1.toNat l4 = G at *
      obtain ⟨V, l5⟩ := G
      simp only at LD
      generalize cntC l5 = q2 at *
      obtain ⟨c2, l6⟩ := q2
      simp only at LD
      obtain ⟨ua, uc, rfl⟩ := (RowK.own encM_len PE0.out.vals : MlR wr vx V).shape
      go_wp2_with fail
      refine (C2.out _ PE0.out.rd).mono ?_
      rintro e w7 ⟨rfl, x1, k1, z1⟩
      have I7 : Hid (PsI w w7 w.heap.size l6 na nb fc (.slice ua V.length uc) (.slice none 0 0) V []) := PE0.out.num x1 k1 z1
      clear x1 k1 z1 PE0 C2 I5
      go_wp2_with fail
      go_loopw [27] (fun i wr => ∃ (k : Nat) (vx : Value), k ≤ c2.toNat ∧ i = .int .i64 k ∧ PsI w wr w.heap.size (pairsK 0 k l6).2 na nb fc (.slice ua V.length uc) vx V (pairsK 0 k l6).1) (fun i _ => c2.toNat - (intOf i).toNat)
      case atStart => exact ⟨0, _, by omega, rfl, I7.out⟩
      case round =>
        obtain ⟨k, vx, hk, rfl, hi⟩ := hrel
        have PI0 : Hid (PsI w wr w.heap.size (pairsK 0 k l6).2 na nb fc (.slice ua V.length uc) vx V (pairsK 0 k l6).1) := hi
        clear hi
        by_cases hlt : k < c2.toNat
        · have hlt' : (k : Int) < c2 := by omega
          have HS : Hid (pairsK 0 (k + 1) l6 = ((pairsK 0 k l6).1 ++ [((numC (pairsK 0 k l6).2).1, (numC (numC (pairsK 0 k l6).2).2).1)], (numC (numC (pairsK 0 k l6).2).2).2)) := pairsK_zero k l6
          have hG0 : (pairsK 0 k l6).1.length ≤ k ∧ k ≤ (pairsK 0 k l6).1.length := by have := pairsK_count 0 l6 k; omega
          have HN1 : Hid (∀ X, RdC X (w.heap.size + 1) (pairsK 0 k l6).2 → Calls Try.prog 16 #[.pointer (some ⟨w.heap.size + 1, 0, none⟩)] X fun e w' => ∃ v, e = .returned v ∧ (v = .int .i64 (numC (pairsK 0 k l6).2).1 ∧ RdC w' (w.heap.size + 1) (numC (pairsK 0 k l6).2).2 ∧ Kept (fun k => k = w.heap.size + 1) X w' ∧ w'.heap.size = X.heap.size)) := fun X hX => HN.out X _ hX
          have HN2 : Hid (∀ X, RdC X (w.heap.size + 1) (numC (pairsK 0 k l6).2).2 → Calls Try.prog 16 #[.pointer (some ⟨w.heap.size + 1, 0, none⟩)] X fun e w' => ∃ v, e = .returned v ∧ (v = .int .i64 (numC (numC (pairsK 0 k l6).2).2).1 ∧ RdC w' (w.heap.size + 1) (numC (numC (pairsK 0 k l6).2).2).2 ∧ Kept (fun k => k = w.heap.size + 1) X w' ∧ w'.heap.size = X.heap.size)) := fun X hX => HN.out X _ hX
          generalize pairsK 0 k l6 = G at *
          obtain ⟨g1, g2⟩ := G
          simp only at hG0
          generalize numC g2 = m1 at *
          obtain ⟨m1, t1⟩ := m1
          generalize numC t1 = m2 at *
          obtain ⟨m2, t2⟩ := m2
          obtain ⟨xa, xc, rfl⟩ := (RowK.own encM_len PI0.out.mail : MlR wr vx g1).shape
          have PD : Hid (PsI w wr.drew w.heap.size g2 na nb fc (.slice ua V.length uc) (.slice xa g1.length xc) V g1) := PI0.out.drew
          clear PI0
          go_upto_region 9 with fail
          refine region_lastF (S := fun V => V.cell? ⟨w.heap.size + 2, 4, none⟩ = some (.slice xa g1.length xc)) (by kernel_rfl) (by kernel_rfl) (by kernel_rfl) (by kernel_rfl) ?_
          simp only [List.pop_toArray, List.dropLast_cons_cons, List.dropLast_singleton, List.size_toArray, List.length_cons, List.length_nil, Nat.reduceAdd]
          refine takeH (i := 0) (v := .pointer (some ⟨w.heap.size + 2, 4, none⟩)) (d := 29) rfl rfl (by kernel_rfl) (by kernel_rfl) (by kernel_rfl) (fun _ _ _ h => h) (by rfl) (fun V hV => by have v1 := hV; go_simp) PD.out.box.all5.2.2.2.2 ?_
          simp only [Act.put, List.setIfInBounds_toArray, List.set_cons_zero, List.set_cons_succ]
          refine takeH (i := 1) (v := .slice xa g1.length xc) (d := 30) rfl rfl (by kernel_rfl) (by kernel_rfl) (by kernel_rfl) (fun _ _ _ h => h) (by rfl) (fun V hV => by have v1 := hV; go_simp) PD.out.box.all5.2.2.2.2 ?_
          simp only [Act.put, List.setIfInBounds_toArray, List.set_cons_zero, List.set_cons_succ]
          refine oneH (i := 2) rfl (by kernel_rfl) rfl (call_gets (d := 31) (f := 16) (xs := #[.tmp 3]) (ats := #[50]) rfl rfl en (vs := #[.pointer (some ⟨w.heap.size + 1, 0, none⟩)]) (by simp [Act.eval]) (HN1.out wr.drew PD.out.rd) ?_)
          rintro _ wa ⟨rfl, x1, k1, z1⟩
          have PA : Hid (PsI w wa w.heap.size t1 na nb fc (.slice ua V.length uc) (.slice xa g1.length xc) V g1) := PD.out.num x1 k1 z1
          clear x1 k1 z1
          refine ⟨PA.out.box.all5.2.2.2.2, ?_⟩
          simp only [Act.put, List.setIfInBounds_toArray, List.set_cons_zero, List.set_cons_succ]
          refine oneH (i := 3) rfl (by kernel_rfl) rfl (call_gets (d := 32) (f := 16) (xs := #[.tmp 3]) (ats := #[50]) rfl rfl en (vs := #[.pointer (some ⟨w.heap.size + 1, 0, none⟩)]) (by simp [Act.eval]) (HN2.out wa PA.out.rd) ?_)
          rintro _ wb ⟨rfl, x1, k1, z1⟩
          have PB : Hid (PsI w wb w.heap.size t2 na nb fc (.slice ua V.length uc) (.slice xa g1.length xc) V g1) := PA.out.num x1 k1 z1
          clear x1 k1 z1
          refine ⟨PB.out.box.all5.2.2.2.2, ?_⟩
          simp only [Act.put, List.setIfInBounds_toArray, List.set_cons_zero, List.set_cons_succ]
          refine takeH (i := 4) (v := .agg #[.int .i64 (m1), .int .i64 (m2)]) (d := 33) rfl rfl (by kernel_rfl) (by kernel_rfl) (by kernel_rfl) (fun _ _ _ h => h) (by rfl) (fun V hV => by have v1 := hV; go_simp) PB.out.box.all5.2.2.2.2 ?_
          simp only [Act.put, List.setIfInBounds_toArray, List.set_cons_zero, List.set_cons_succ]
          have PC : Hid (PsI w (wb.alloc (.cells #[.int .i64 (m1), .int .i64 (m2)] 45)) w.heap.size t2 na nb fc (.slice ua V.length uc) (.slice xa g1.length xc) V g1) := PB.out.alloc _
          obtain ⟨g, gc, wd, hrun, hown, hgr⟩ := run_append_newK kM (w := wb.alloc (.cells #[.int .i64 (m1), .int .i64 (m2)] 45)) 24 (w.heap.size + 3) (.slice xa g1.length xc) g1 PC.out.mail wb.heap.size (m1, m2) #[.int .i64 (m1), .int .i64 (m2)] rfl (0, 0) (heap_alloc_new _ _) (by simp only [kM]; omega) (by unfold maxLen; omega) PC.out.size
          obtain ⟨bd, PF0⟩ := PC.out.setM hgr hown
          have PF : Hid (PsI w (wd.setCell ⟨w.heap.size + 2, 4, none⟩ (.slice (some ⟨g, 0, none⟩) (g1.length + 1) gc)) w.heap.size t2 na nb fc (.slice ua V.length uc) (.slice (some ⟨g, 0, none⟩) (g1.length + 1) gc) V (g1 ++ [(m1, m2)])) := PF0
          have cd := bd.all5.2.2.2.2
          have fd := bd.frozen 4
          clear hgr hown bd PF0
          refine oneH (i := 5) rfl (by kernel_rfl) rfl (op_run (d := 34) (v' := .slice (some ⟨wb.heap.size, 0, none⟩) 1 1) (w' := wb.alloc (.cells #[.int .i64 (m1), .int .i64 (m2)] 45)) rfl (by go_simp) ⟨PC.out.box.all5.2.2.2.2, ?_⟩)
          simp only [Act.put, List.setIfInBounds_toArray, List.set_cons_zero, List.set_cons_succ]
          refine oneH (i := 6) rfl (by kernel_rfl) rfl (call_append (d := 35) (s := .tmp 30) (x := .tmp 34) (t := 24) rfl rfl (v := .slice xa g1.length xc) (v2 := .slice (some ⟨wb.heap.size, 0, none⟩) 1 1) (by simp [Act.eval]) (by simp [Act.eval]) hrun ⟨cd, ?_⟩)
          simp only [Act.put, List.setIfInBounds_toArray, List.set_cons_zero, List.set_cons_succ]
          refine takeH (i := 7) (v := .pointer (some ⟨w.heap.size + 2, 4, none⟩)) (d := 36) rfl rfl (by kernel_rfl) (by kernel_rfl) (by kernel_rfl) (fun _ _ _ h => h) (by rfl) (fun V hV => by have v1 := hV; go_simp) cd ?_
          simp only [Act.put, List.setIfInBounds_toArray, List.set_cons_zero, List.set_cons_succ]
          refine wpAnyH_done (by kernel_rfl) ?_ _
          clear hrun PA PB PC PD HN1 HN2
          show Oper.wp _ _ _ _ _ _
          go_wp2_with fail
          go_roundw
          case rel => exact ⟨k + 1, _, by omega, by go_num, by rw [HS.out]; exact PF.out⟩
          case measure => simp [intOf]; omega
        · have hlt' : ¬ (k : Int) < c2 := by omega
          have e0 : k = c2.toNat := by omega
          have PE : Hid (PsI w wr w.heap.size (pairsK 0 c2.toNat l6).2 na nb fc (.slice ua V.length uc) vx V (pairsK 0 c2.toNat l6).1) := by rw [← e0]; exact PI0.out
          clear PI0 e0 hk hlt
          go_upto_region 11 with fail
          clear hlt'
          generalize pairsK 0 c2.toNat l6 = G at *
          obtain ⟨M, l7⟩ := G
          obtain ⟨ya, yc, rfl⟩ := (RowK.own encM_len PE.out.mail : MlR wr vx M).shape
          have RX : Hid (BX 26 (putS wr w.heap.size (.int .i64 na) (.int .i64 nb) (.bool fc) (.slice ua V.length uc) (.slice ya M.length yc)) w.heap.size #[.int .i64 na, .int .i64 nb, .bool fc, .slice ua V.length uc, .slice ya M.length yc]) := PE.out.zero.putS
          have VE : Hid ((putS wr w.heap.size (.int .i64 na) (.int .i64 nb) (.bool fc) (.slice ua V.length uc) (.slice ya M.length yc)).ownsRow w.heap.size 43 2 (.slice ua V.length uc) V.length (V.flatMap encM)) := own_lower (own_off PE.out.vals PE.out.zero (by decide) (kept_putS wr w.heap.size _ _ _ _ _)) (by omega)
          have ME : Hid ((putS wr w.heap.size (.int .i64 na) (.int .i64 nb) (.bool fc) (.slice ua V.length uc) (.slice ya M.length yc)).ownsRow w.heap.size 45 2 (.slice ya M.length yc) M.length (M.flatMap encM)) := own_lower (own_off PE.out.mail PE.out.zero (by decide) (kept_putS wr w.heap.size _ _ _ _ _)) (by omega)
          have BE : Hid (Below w.heap.size w (putS wr w.heap.size (.int .i64 na) (.int .i64 nb) (.bool fc) (.slice ua V.length uc) (.slice ya M.length yc))) := ((((PE.out.low.setCell (by simp) _).setCell (by simp) _).setCell (by simp) _).setCell (by simp) _).setCell (by simp) _
          obtain ⟨d0, d1, d2, d3, d4⟩ := PE.out.box.all5
          obtain ⟨e0, e1, e2, e3, e4⟩ := PE.out.zero.all5
          obtain ⟨f0, f1, f2, f3, f4⟩ := PE.out.zero.all5f
          go_wp2_with fail
          obtain ⟨r0, r1, r2, r3, r4⟩ := RX.out.all5
          unfold putS at r0 r1 r2 r3 r4
          refine bodyPost_ret (v := .agg #[.int .i64 na, .int .i64 nb, .bool fc, .slice ua V.length uc, .slice ya M.length yc]) (by simp [results, Try.results8, go_sem, r0, r1, r2, r3, r4]) rfl ?_
          rw [HP.out]
          exact ⟨_, _, rfl, VE.out, ME.out, BE.out⟩
end Go.Proofs.Ytbfkmakfkbdafab

namespace Go.Proofs.Ytbfkmakfkbdafab
set_option maxRecDepth 100000
open Go.ChangeShapes Go.WideShapes Go.ChangeAt Go.RowKit

/-- What an append of bytes that read comes to. -/
theorem run_append_byt {w : World} (ty : TypeId) (base : Nat) (v : Value) (xs : List Int) (hown : w.ownsRow base 5 1 v xs.length (xs.map (Value.int .u8)))
    (v2 : Value) (ys : List Int) (hr : Reads .u8 w v2 ys) (hlen : xs.length + ys.length ≤ 140737488355328) (hbase : base ≤ w.heap.size) :
    ∃ v' w', (Builtin.append_ #[22, 22] ty #[v, v2]).run Try.prog w = .ok v' w' ∧ w'.ownsRow base 5 1 v' (xs ++ ys).length ((xs ++ ys).map (Value.int .u8)) ∧ w.grownBy w' v.ownBlock := by
  obtain ⟨i0, hi, hz0, hz1, hz2⟩ := info_parts Try.info5
  obtain ⟨ad, cap, rfl, hc, hm, ha, hcell⟩ := hr
  cases ad with
  | none =>
    have hcap := ha rfl
    have : ys = [] := List.eq_nil_of_length_eq_zero (by omega)
    subst this
    subst hcap
    have h := run_append_owned_none (P := Try.prog) (w := w) base 22 ty 5 i0 1 Try.underlying22 hi v _ _ hown
    exact ⟨v, w, h, by simpa using hown, World.grownBy.refl _ _⟩
  | some p =>
    obtain ⟨v', w', h1, h2, h3, _⟩ := run_append_own w base 22 ty 5 i0 (.int .u8 0) 1 1 Try.underlying22 hi hz0 hz1 hz2 rfl (by decide) v _ _ hown p ys.length cap (ys.map (Value.int .u8)) (by simp)
      (fun j u hj => by
        obtain ⟨hj1, rfl⟩ := getD_map hj
        exact hcell p rfl j hj1) (bytes_oneCell _) (by unfold maxLen; omega) (by omega) hbase
    exact ⟨v', w', h1, by simpa using h2, h3⟩
end Go.Proofs.Ytbfkmakfkbdafab

namespace Go.Proofs.Ytbfkmakfkbdafab
set_option maxRecDepth 100000
open Go.ChangeShapes Go.WideShapes Go.ChangeAt Go.RowKit

theorem own_ge {w : World} {base n size g : Nat} {e : TypeId} {v : Value} {xs : List Value} (h : w.ownsRow base e size v n xs) (hg : v.ownBlock = some g) : base ≤ g ∧ g < w.heap.size := h.lt g hg
/-- Two slices lie in other blocks. -/
def Apt (v u : Value) : Prop := ∀ g, v.ownBlock = some g → u.ownBlock = some g → False
theorem Apt.symm {v u : Value} (h : Apt v u) : Apt u v := fun g h1 h2 => h g h2 h1
theorem Apt.or {v u : Value} (h : Apt v u) : v.ownBlock = none ∨ v.ownBlock ≠ u.ownBlock := by
  cases hv : v.ownBlock with
  | none => exact .inl rfl
  | some g => exact .inr fun e => h g hv e.symm
theorem Apt.nil (u : Value) : Apt (.slice none 0 0) u := fun g h _ => by cases h
/-- A row that lay apart from one that has grown. -/
theorem Apt.grown {w : World} {v u : Value} {g n c : Nat} {base : Nat} {e : TypeId} {size m : Nat} {xs : List Value} (h : Apt v u) (hl : v.ownBlock = some g ∨ g = w.heap.size) (hu : w.ownsRow base e size u m xs) : Apt (.slice (some ⟨g, 0, none⟩) n c) u := by
  intro q h1 h2
  injection h1 with h1
  have h1' : g = q := h1
  subst h1'
  rcases hl with h3 | h3
  · exact h g h3 h2
  · have := (own_ge hu h2).2
    omega
end Go.Proofs.Ytbfkmakfkbdafab

namespace Go.Proofs.Ytbfkmakfkbdafab
set_option maxRecDepth 100000
open Go.ChangeShapes Go.WideShapes Go.ChangeAt Go.RowKit

/-- The payload in its box. -/
structure PyI (q : Nat) (L : List Int) (pv : Value) (w : World) : Prop where
  x : BX 22 w q #[pv]
  o : w.ownsRow q 5 1 pv L.length (L.map (Value.int .u8))
theorem PyI.shape {q : Nat} {L : List Int} {pv : Value} {w : World} (h : PyI q L pv w) : ∃ a n c, pv = .slice a n c := by
  rcases h.o.2 with ⟨hv, h0⟩ | ⟨g, cap, cur, hv, _⟩
  · exact ⟨none, 0, 0, hv⟩
  · exact ⟨_, _, _, hv⟩
theorem PyI.below {q : Nat} {L : List Int} {pv : Value} {w w' : World} (h : PyI q L pv w) (hb : Below w.heap.size w w') : PyI q L pv w' := ⟨h.x.below hb h.x.lt, own_below h.o hb (Nat.le_refl _)⟩
theorem putLen_le (n : Int) : (put n).length ≤ 10 := by have := put_len n; omega

set_option maxHeartbeats 2000000 in
set_option maxRecDepth 100000 in
theorem sPut_any (q : Nat) (pv : Value) (L : List Int) (av : Value) (ns : List Int) (w : World) (h : PyI q L pv w) (ha : w.ownsRow q 3 1 av ns.length (ns.flatMap encI)) (hn : ∀ n ∈ ns, 0 ≤ n ∧ n ≤ 9223372036854775807) (hl : L.length + 10 * ns.length ≤ 1000000) :
    Calls Try.prog 11 #[av, .pointer (some ⟨q, 0, none⟩)] w fun e w' => e = .returned (.tuple #[]) ∧ (∃ pv', PyI q (L ++ bytN ns) pv' w') ∧ Below q w w' := by
  have H0 : Hid (PyI q L pv w) := h
  have HA : Hid (w.ownsRow q 3 1 av ns.length (ns.flatMap encI)) := ha
  have HN : Hid (∀ n ∈ ns, 0 ≤ n ∧ n ≤ 9223372036854775807) := hn
  have HZ : Hid (L ++ bytN (ns.take 0) = L) := by show _ = _; simp [bytN]
  obtain ⟨aa, ac, rfl⟩ := (RowK.own encI_len ha : InR w av ns).shape
  have hq := h.x.lt
  clear h ha hn
  go_enter Try.func11, Try.ntmps11
  go_wp2_with fail
  go_loopw [7] (fun i wr => ∃ (k : Nat) (pv : Value), k ≤ ns.length ∧ i = .int .i64 k ∧ PyI q (L ++ bytN (ns.take k)) pv wr ∧ wr.ownsRow q 3 1 (.slice aa ns.length ac) ns.length (ns.flatMap encI) ∧ Below q w wr) (fun i _ => ns.length - (intOf i).toNat)
  case atStart => exact ⟨0, pv, by omega, rfl, by rw [HZ.out]; exact H0.out, HA.out, Below.refl _ _⟩
  case round =>
    clear H0 HA HZ
    obtain ⟨k, pv, hk, rfl, hpy, hoa, hbel⟩ := hrel
    have PY : Hid (PyI q (L ++ bytN (ns.take k)) pv wr) := hpy
    have OA : Hid (wr.ownsRow q 3 1 (.slice aa ns.length ac) ns.length (ns.flatMap encI)) := hoa
    have AB : Hid (Below q w wr) := hbel
    obtain ⟨pa, pn, pc, rfl⟩ := hpy.shape
    have hsr := hbel.size
    have hqr := hpy.x.lt
    clear hpy hoa hbel
    by_cases hlt : k < ns.length
    · obtain ⟨b, off, cap', e1, _, _, lt, hv⟩ := InR.at (RowK.own encI_len OA.out : InR wr (.slice aa ns.length ac) ns) (by omega)
      injection e1 with e1 _ e3
      subst e1 e3
      obtain ⟨x, hx⟩ := getX hlt
      have c1 := hv k x hx
      obtain ⟨hx0, hx1⟩ := HN.out x (List.mem_of_getElem? hx)
      have HT : Hid (L ++ bytN (ns.take (k + 1)) = (L ++ bytN (ns.take k)) ++ put x) := by show _ = _; rw [take_snoc hx, bytN_app, bytN_one, List.append_assoc]
      have hll : (L ++ bytN (ns.take k)).length ≤ 1000000 := by
        have h1 := bytN_len (ns.take k)
        have h2 : (ns.take k).length ≤ ns.length := by rw [List.length_take]; omega
        rw [List.length_append]
        omega
      have hpl := putLen_le x
      have p0 : (0 : Int) ≤ (k : Int) := by omega
      have p1 : (k : Int) < (ns.length : Int) := by omega
      have wx : IntKind.u64.wrap x = x := by rw [IntKind.wrap_u64]; omega
      have CP : Hid (∀ X, Calls Try.prog 12 #[.int .u64 x] X fun e w' => ∃ v, e = .returned v ∧ (w'.ownsRow X.heap.size 5 1 v (put x).length ((put x).map (Value.int .u8)) ∧ Below X.heap.size X w')) := fun X => put_any x X hx0 (by omega)
      have ep : ∀ args w, (callFunc 12 args).run Try.prog w = .ok (.enter 12 args) w := enters_of Try.func12 (by kernel_rfl) rfl
      have HS : Hid (∀ V, Below wr.heap.size wr V → (V.cell? ⟨q, 0, none⟩ = some (.slice pa pn pc))) := fun V hV => ((PY.out.below hV).x).cell 0
      generalize L ++ bytN (ns.take k) = M at *
      clear hv hx
      go_upto_region 3 with fail
      clear c1
      have bd : Below wr.heap.size wr wr.drew := (Below.refl _ _).drew
      have HS0 : Hid (wr.drew.cell? ⟨q, 0, none⟩ = some (.slice pa pn pc)) := HS.out _ bd
      refine region_lastF (S := fun V => (V.cell? ⟨q, 0, none⟩ = some (.slice pa pn pc))) (by kernel_rfl) rfl (by kernel_rfl) (by kernel_rfl) ?_
      simp only [List.pop_toArray, List.dropLast_cons_cons, List.dropLast_singleton, List.size_toArray, List.length_cons, List.length_nil, Nat.reduceAdd]
      refine takeH (i := 0) (v := .slice pa pn pc) (d := 11) rfl rfl (by kernel_rfl) (by kernel_rfl) (by kernel_rfl) (fun _ _ _ h => h) (by rfl) (fun V hV => by have v1 := hV; go_simp) HS0.out ?_
      simp only [Act.put, List.setIfInBounds_toArray, List.set_cons_zero, List.set_cons_succ]
      refine takeH (i := 1) (v := .int .i64 x) (d := 12) rfl rfl (by kernel_rfl) (by kernel_rfl) (by kernel_rfl) (fun _ _ _ h => h) (by rfl) (fun V hV => by have v1 := hV; go_simp) HS0.out ?_
      simp only [Act.put, List.setIfInBounds_toArray, List.set_cons_zero, List.set_cons_succ]
      refine takeH (i := 2) (v := .int .u64 x) (d := 13) rfl rfl (by kernel_rfl) (by kernel_rfl) (by kernel_rfl) (fun _ _ _ h => h) (by rfl) (fun V hV => by have v1 := hV; go_simp) HS0.out ?_
      simp only [Act.put, List.setIfInBounds_toArray, List.set_cons_zero, List.set_cons_succ]
      refine oneH (i := 3) rfl (by kernel_rfl) rfl (call_gets (d := 14) (f := 12) (xs := #[.tmp 13]) (ats := #[40]) rfl rfl ep (vs := #[.int .u64 x]) (by simp [Act.eval]) (CP.out _) ?_)
      rintro vr w3 ⟨ho3, hb3⟩
      have b3 : Below wr.heap.size wr w3 := bd.trans hb3
      have HS3 : Hid (w3.cell? ⟨q, 0, none⟩ = some (.slice pa pn pc)) := HS.out _ b3
      refine ⟨HS3.out, ?_⟩
      simp only [Act.put, List.setIfInBounds_toArray, List.set_cons_zero, List.set_cons_succ]
      have py3 := PY.out.below b3
      obtain ⟨v4, w4, hrun4, hown4, hg4⟩ := run_append_byt (w := w3) 22 q (.slice pa pn pc) M py3.o vr (put x) (reads_own ho3) (by omega) (by have := b3.size; omega)
      have x4 := py3.x.grown py3.o (by decide) hg4
      have HS4 : Hid (w4.cell? ⟨q, 0, none⟩ = some (.slice pa pn pc)) := x4.cell 0
      refine oneH (i := 4) rfl (by kernel_rfl) rfl (call_append (d := 15) (s := .tmp 11) (x := .tmp 14) (t := 22) rfl rfl rfl rfl hrun4 ⟨HS4.out, ?_⟩)
      simp only [Act.put, List.setIfInBounds_toArray, List.set_cons_zero, List.set_cons_succ]
      obtain ⟨ya, yn, yc, rfl⟩ : ∃ a n c, v4 = .slice a n c := by
        rcases hown4.2 with ⟨hv, h0⟩ | ⟨g, cap, cur, hv, _⟩
        · exact ⟨none, 0, 0, hv⟩
        · exact ⟨_, _, _, hv⟩
      have kp : Kept (fun k => k = q) w4 (w4.setCell ⟨q, 0, none⟩ (.slice ya yn yc)) := Kept.box _ _ _ _
      have oa4 : w4.ownsRow q 3 1 (.slice (some ⟨b, off, none⟩) ns.length ac) ns.length (ns.flatMap encI) := (own_below OA.out b3 (Nat.le_refl _)).kept hg4 (own_apart (own_below OA.out b3 (Nat.le_refl _)) py3.o (by decide))
      have b4 : Below q w w4 := AB.out.trans ((b3.mono (by omega)).grown hg4 (by have := b3.size; omega) (fun g hg => (own_ge py3.o hg).1))
      have NW : Hid (PyI q (M ++ put x) (.slice ya yn yc) (w4.setCell ⟨q, 0, none⟩ (.slice ya yn yc)) ∧ (w4.setCell ⟨q, 0, none⟩ (.slice ya yn yc)).ownsRow q 3 1 (.slice (some ⟨b, off, none⟩) ns.length ac) ns.length (ns.flatMap encI) ∧ Below q w (w4.setCell ⟨q, 0, none⟩ (.slice ya yn yc))) := ⟨⟨x4.set 0 _, own_off hown4 x4 (by decide) kp⟩, own_off oa4 x4 (by decide) kp, b4.trans (kp.below (by have := b4.size; omega) (fun g hg => by omega))⟩
      have f4 := x4.frozen 0
      have c4 := x4.cell 0
      refine wpAnyH_done (by kernel_rfl) ?_ _
      show Oper.wp _ _ _ _ _ _
      refine op_skip (w' := w4.setCell ⟨q, 0, none⟩ (.slice ya yn yc)) rfl (by go_simp) ?_
      clear HS0 HS3 HS4 HS f4 c4 b4 oa4 kp x4 hrun4 hown4 hg4 py3 ho3 hb3 b3 bd PY OA AB
      generalize w4.setCell ⟨q, 0, none⟩ (.slice ya yn yc) = w5 at *
      go_wp2_with fail
      go_roundw
      case rel => exact ⟨k + 1, _, by omega, by go_num, by rw [HT.out]; exact NW.out.1, NW.out.2.1, NW.out.2.2⟩
      case measure => simp [intOf]; omega
    · have ek : ns.take k = ns := List.take_of_length_le (by omega)
      rw [ek] at PY
      have HP : Hid ((∃ pv', PyI q (L ++ bytN ns) pv' wr) ∧ Below q w wr) := ⟨⟨_, PY.out⟩, AB.out⟩
      clear PY AB OA ek
      go_wp2_with fail
      go_end0
      exact ⟨rfl, HP.out⟩
end Go.Proofs.Ytbfkmakfkbdafab

namespace Go.Proofs.Ytbfkmakfkbdafab
set_option maxRecDepth 100000
open Go.ChangeShapes Go.WideShapes Go.ChangeAt Go.RowKit

theorem own_lit1 (w : World) (base : Nat) (hb : base ≤ w.heap.size) (x : Int) : (w.alloc (.cells #[.int .i64 x] 3)).ownsRow base 3 1 (.slice (some ⟨w.heap.size, 0, none⟩) 1 1) ([x] : List Int).length (([x] : List Int).flatMap encI) :=
  ⟨by simp [encI], .inr ⟨w.heap.size, 1, #[.int .i64 x], rfl, hb, heap_alloc_new w _, by simp, by simp [maxLen], by simp, by simp [encI]⟩⟩
theorem own_lit2 (w : World) (base : Nat) (hb : base ≤ w.heap.size) (x y : Int) : (w.alloc (.cells #[.int .i64 x, .int .i64 y] 3)).ownsRow base 3 1 (.slice (some ⟨w.heap.size, 0, none⟩) 2 2) ([x, y] : List Int).length (([x, y] : List Int).flatMap encI) :=
  ⟨by simp [encI], .inr ⟨w.heap.size, 2, #[.int .i64 x, .int .i64 y], rfl, hb, heap_alloc_new w _, by simp, by simp [maxLen], by simp, by simp [encI]⟩⟩
theorem own_lit4 (w : World) (base : Nat) (hb : base ≤ w.heap.size) (x y z u : Int) : (w.alloc (.cells #[.int .i64 x, .int .i64 y, .int .i64 z, .int .i64 u] 3)).ownsRow base 3 1 (.slice (some ⟨w.heap.size, 0, none⟩) 4 4) ([x, y, z, u] : List Int).length (([x, y, z, u] : List Int).flatMap encI) :=
  ⟨by simp [encI], .inr ⟨w.heap.size, 4, #[.int .i64 x, .int .i64 y, .int .i64 z, .int .i64 u], rfl, hb, heap_alloc_new w _, by simp, by simp [maxLen], by simp, by simp [encI]⟩⟩
theorem own_lenB {w : World} {base : Nat} {a : Option Addr} {n c : Nat} {l : List Int} (h : w.ownsRow base 5 1 (.slice a n c) l.length (l.map (Value.int .u8))) : n = l.length := by
  rcases h.2 with ⟨hv, h0⟩ | ⟨g, cap, cur, hv, _⟩
  · injection hv with _ h1 _; omega
  · injection hv with _ h1 _
/-- What Encode answers. -/
def BytP2 (w : World) (r : List Int × Int) (e : Ending) (w' : World) : Prop := ∃ v', e = .returned (.tuple #[v', .int .i64 r.2]) ∧ w'.ownsRow w.heap.size 5 1 v' r.1.length (r.1.map (Value.int .u8)) ∧ Below w.heap.size w w'
theorem BytP2.no {w w' : World} {f : Int} (hb : Below w.heap.size w w') : BytP2 w ([], f) (.returned (.tuple #[.slice none 0 0, .int .i64 f])) w' := ⟨_, rfl, World.ownsRow_nil _ _ _ _, hb⟩

set_option maxHeartbeats 8000000 in
set_option maxRecDepth 100000 in
theorem sEnc_any (s : SvS) (vv vm : Value) (w : World) (hv : MlR w vv s.vals) (hm : MlR w vm s.mail) (hB : ∀ x ∈ s.mail, mlB x) :
    Calls Try.prog 5 #[.agg #[.int .i64 s.step, .int .i64 s.phase, .bool s.fresh, vv, vm]] w (BytP2 w (encS s)) := by
  have HV : Hid (MlR w vv s.vals) := hv
  have HM : Hid (MlR w vm s.mail) := hm
  have CM : Hid (∀ X, MlR X vv s.vals → MlR X vm s.mail → Calls Try.prog 10 #[.agg #[.int .i64 s.step, .int .i64 s.phase, .bool s.fresh, vv, vm]] X fun e w' => e = .returned (.bool (svMay s)) ∧ Below X.heap.size X w') := fun X h1 h2 => sMayBe_any s vv vm X h1 h2 hB
  obtain ⟨va, vc, rfl, hvc, hvm, _, _⟩ := hv
  obtain ⟨ma, mc, rfl, hmc, hmm, _, _⟩ := hm
  unfold maxLen at hvm hmm
  have EN : Hid (svMay s = false → encS s = ([], 9)) := encS_no
  have EB : Hid (svMay s = true → ¬ (bytN (numsS s)).length ≤ 20000 → encS s = ([], 1)) := encS_big
  have EY : Hid (svMay s = true → (bytN (numsS s)).length ≤ 20000 → encS s = (wrap (bytN (numsS s)), 0)) := encS_yes
  have NI : Hid (svMay s = true → ∀ n ∈ numsS s, 0 ≤ n ∧ n ≤ 4398046511105) := numsS_in
  have NB : Hid (svMay s = true → (0 ≤ s.step ∧ s.step ≤ 100000) ∧ (s.phase = 0 ∨ s.phase = 1) ∧ s.vals.length ≤ 200 ∧ s.mail.length ≤ 5000 ∧ (∀ x ∈ s.vals, -1 ≤ x.1 ∧ x.1 ≤ 4398046511104 ∧ -1 ≤ x.2 ∧ x.2 < 200) ∧ (∀ x ∈ s.mail, 0 ≤ x.1 ∧ x.1 < 200 ∧ 0 ≤ x.2 ∧ x.2 ≤ 4398046511104)) := fun h => by
    obtain ⟨⟨h1, h2, h3⟩, h4, h5, h6, _, h7⟩ := svMay_iff.1 h
    exact ⟨⟨h1, h2⟩, h3, h4, h6, fun x hx => valS_iff.1 (valA_iff.1 h5 x hx), fun x hx => mayM_iff.1 (mayA_iff.1 h7 x hx)⟩
  have NE : Hid (bytN (numsS s) = (((bytN [s.step, s.phase, if s.fresh then 1 else 0, (s.vals.length : Int)]) ++ bytN (pairN 1 s.vals)) ++ bytN [(s.mail.length : Int)]) ++ bytN (pairN 0 s.mail)) := by
    show _ = _
    unfold numsS
    rw [bytN_app, bytN_app, bytN_app, List.append_assoc, List.append_assoc]
  have NL : Hid ((bytN (numsS s)).length ≤ 10 * (5 + 2 * s.vals.length + 2 * s.mail.length)) := by
    have := bytN_len (numsS s)
    rw [numsS_len] at this
    exact this
  have BY : Hid (svMay s = true → ∀ x ∈ bytN (numsS s), 0 ≤ x ∧ x ≤ 255) := fun h => bytN_bytes (fun n hn => ⟨(numsS_in h n hn).1, by have := (numsS_in h n hn).2; omega⟩)
  generalize encS s = R at *
  generalize svMay s = r at *
  generalize hNN : bytN (numsS s) = NN at *
  generalize numsS s = nums at *
  clear hNN
  obtain ⟨st, ph, fr, vs, ms⟩ := s
  simp only at HV HM CM hvc hvm hmc hmm NB NE NL ⊢
  clear hB
  have X0 : BX 26 (w.alloc (.cells #[.int .i64 st, .int .i64 ph, .bool fr, .slice va vs.length vc, .slice ma ms.length mc] 26)) w.heap.size #[.int .i64 st, .int .i64 ph, .bool fr, .slice va vs.length vc, .slice ma ms.length mc] := BX.new _ _ _
  have B0 : Below w.heap.size w (w.alloc (.cells #[.int .i64 st, .int .i64 ph, .bool fr, .slice va vs.length vc, .slice ma ms.length mc] 26)) := below_alloc _ _
  go_enter Try.func5, Try.ntmps5
  go_upto_region 1 with fail
  generalize w.alloc (.cells #[.int .i64 st, .int .i64 ph, .bool fr, .slice va vs.length vc, .slice ma ms.length mc] 26) = W0 at *
  have HK0 : Hid (∀ X, Below W0.heap.size W0 X → BX 26 X w.heap.size #[.int .i64 st, .int .i64 ph, .bool fr, .slice va vs.length vc, .slice ma ms.length mc] ∧ Below w.heap.size w X ∧ MlR X (.slice va vs.length vc) vs ∧ MlR X (.slice ma ms.length mc) ms) := fun X hX => ⟨X0.below hX X0.lt, B0.trans (hX.mono B0.size), HV.out.below (B0.trans (hX.mono B0.size)) (Nat.le_refl _), HM.out.below (B0.trans (hX.mono B0.size)) (Nat.le_refl _)⟩
  have A0 : Hid (Below W0.heap.size W0 W0) := Below.refl _ _
  obtain ⟨c0, c1, c2, c3, c4⟩ := X0.all5
  clear X0 B0 HV HM
  go_wp2_with fail
  refine (CM.out _ (HK0.out _ A0.out).2.2.1 (HK0.out _ A0.out).2.2.2).mono ?_
  rintro e W1 ⟨rfl, hb1⟩
  have A1 : Hid (Below W0.heap.size W0 W1) := hb1
  obtain ⟨Q1, bw1, _, _⟩ := HK0.out _ hb1
  have BW1 : Hid (Below w.heap.size w W1) := bw1
  clear c0 c1 c2 c3 c4 hb1 bw1 CM
  obtain ⟨c0, c1, c2, c3, c4⟩ := Q1.all5
  clear Q1
  cases r
  · have e := EN.out rfl
    subst e
    have HP : Hid (BytP2 w ([], 9) (.returned (.tuple #[.slice none 0 0, .int .i64 9])) W1) := BytP2.no BW1.out
    clear EN EB EY NI NB NE NL BY
    generalize BytP2 w ([], 9) = P at *
    go_wp2_with fail
    exact HP.out
  · obtain ⟨⟨hs0, hs1⟩, hph, hvl, hml, hvb, hmb⟩ := NB.out rfl
    have HVB : Hid (∀ x ∈ vs, -1 ≤ x.1 ∧ x.1 ≤ 4398046511104 ∧ -1 ≤ x.2 ∧ x.2 < 200) := hvb
    have HMB : Hid (∀ x ∈ ms, 0 ≤ x.1 ∧ x.1 < 200 ∧ 0 ≤ x.2 ∧ x.2 ≤ 4398046511104) := hmb
    have EB2 : Hid (¬ NN.length ≤ 20000 → R = ([], 1)) := EB.out rfl
    have EY2 : Hid (NN.length ≤ 20000 → R = (wrap NN, 0)) := EY.out rfl
    have hnl := NL.out
    have HNB : Hid (∀ x ∈ NN, 0 ≤ x ∧ x ≤ 255) := BY.out rfl
    have hphb : 0 ≤ ph ∧ ph ≤ 1 := by omega
    clear hph hvb hmb EN EB EY NI NB NL BY
    have W2 : Hid (PyI W1.heap.size [] (.slice none 0 0) (W1.alloc (.cells #[.slice none 0 0] 22)) ∧ Below W1.heap.size W1 (W1.alloc (.cells #[.slice none 0 0] 22))) := ⟨⟨BX.new _ _ _, World.ownsRow_nil _ _ _ _⟩, below_alloc _ _⟩
    go_upto_region 4 with fail
    generalize W1.alloc (.cells #[.slice none 0 0] 22) = W3 at *
    have HK : Hid (∀ X, Below W1.heap.size W1 X → BX 26 X w.heap.size #[.int .i64 st, .int .i64 ph, .bool fr, .slice va vs.length vc, .slice ma ms.length mc] ∧ Below w.heap.size w X ∧ MlR X (.slice va vs.length vc) vs ∧ MlR X (.slice ma ms.length mc) ms) := fun X hX => HK0.out X (A1.out.trans (hX.mono A1.out.size))
    have hqw := BW1.out.size
    clear HK0 A0 A1 BW1
    generalize hqe : W1.heap.size = q at *
    obtain ⟨py3, b3⟩ := W2.out
    have PY3 : Hid (PyI q [] (.slice none 0 0) W3) := py3
    have A3 : Hid (Below q W1 W3) := b3
    have HS1 : Hid (W1.heap.size = q) := hqe
    obtain ⟨Q3, _, _, _⟩ := HK.out _ b3
    clear c0 c1 c2 c3 c4 py3 b3 W2 hqe
    obtain ⟨c0, c1, c2, c3, c4⟩ := Q3.all5
    clear Q3
    go_upto_if 16 with fail
    obtain ⟨fz, hfz⟩ : ∃ z : Int, (if fr then (1 : Int) else 0) = z := ⟨_, rfl⟩
    have HFZ : Hid ((if fr then (1 : Int) else 0) = fz) := hfz
    have hfb : 0 ≤ fz ∧ fz ≤ 1 := by rw [← hfz]; cases fr <;> decide
    rw [hfz] at NE
    clear hfz
    go_cut [6] from 16 to 16 (fun t wx => t = .int .i64 fz ∧ W3 = wx)
    case first =>
      cases fr
      · have e : Hid (Value.int .i64 0 = .int .i64 fz) := by show _ = _; rw [← HFZ.out]; rfl
        clear HFZ
        go_wp2_with fail
        go_meet
        case rel => exact ⟨e.out, rfl⟩
      · have e : Hid (Value.int .i64 1 = .int .i64 fz) := by show _ = _; rw [← HFZ.out]; rfl
        clear HFZ
        go_wp2_with fail
        go_meet
        case rel => exact ⟨e.out, rfl⟩
    case rest =>
    obtain ⟨rfl, rfl⟩ := hcut
    clear HFZ
    have W4 : Hid (PyI q [] (.slice none 0 0) (W3.alloc (.cells #[.int .i64 st, .int .i64 ph, .int .i64 fz, .int .i64 (vs.length : Int)] 3)) ∧ (W3.alloc (.cells #[.int .i64 st, .int .i64 ph, .int .i64 fz, .int .i64 (vs.length : Int)] 3)).ownsRow q 3 1 (.slice (some ⟨W3.heap.size, 0, none⟩) 4 4) ([st, ph, fz, (vs.length : Int)] : List Int).length (([st, ph, fz, (vs.length : Int)] : List Int).flatMap encI) ∧ Below q W1 (W3.alloc (.cells #[.int .i64 st, .int .i64 ph, .int .i64 fz, .int .i64 (vs.length : Int)] 3))) := ⟨PY3.out.below (below_alloc _ _), own_lit4 W3 q (Nat.le_of_lt PY3.out.x.lt) _ _ _ _, A3.out.alloc (Nat.le_of_lt PY3.out.x.lt) _⟩
    go_wp2_with fail
    generalize W3.alloc (.cells #[.int .i64 st, .int .i64 ph, .int .i64 fz, .int .i64 (vs.length : Int)] 3) = W5 at *
    refine (sPut_any q _ [] _ [st, ph, fz, (vs.length : Int)] W5 W4.out.1 W4.out.2.1 (fun n hn => by simp only [List.mem_cons, List.not_mem_nil, or_false] at hn; omega) (by simp)).mono ?_
    rintro e W6 ⟨rfl, ⟨pv6, hpy6⟩, hb6⟩
    have PY6 : Hid (PyI q (bytN [st, ph, fz, (vs.length : Int)]) pv6 W6) := hpy6
    have A6 : Hid (Below q W1 W6) := W4.out.2.2.trans hb6
    have HL0 : Hid ((bytN [st, ph, fz, (vs.length : Int)]).length ≤ 40) := bytN_len _
    clear hpy6 hb6 W4 PY3 A3 c0 c1 c2 c3 c4
    obtain ⟨Q6, _, _, _⟩ := HK.out _ A6.out
    obtain ⟨c0, c1, c2, c3, c4⟩ := Q6.all5
    clear Q6
    generalize bytN [st, ph, fz, (vs.length : Int)] = N0 at *
    go_wp2_with fail
    have HZ0 : Hid (N0 ++ bytN (pairN 1 (vs.take 0)) = N0) := by show _ = _; simp [pairN, bytN]
    have HLV : Hid (∀ k, k ≤ vs.length → (N0 ++ bytN (pairN 1 (vs.take k))).length ≤ 40 + 20 * vs.length) := fun k hk => by
      have h1 := bytN_len (pairN 1 (vs.take k))
      have h2 := HL0.out
      rw [pairN_len, List.length_take] at h1
      rw [List.length_append]
      omega
    go_loopw [31] (fun i wr => ∃ (k : Nat) (pv : Value), k ≤ vs.length ∧ i = .int .i64 k ∧ PyI q (N0 ++ bytN (pairN 1 (vs.take k))) pv wr ∧ Below q W1 wr) (fun i _ => vs.length - (intOf i).toNat)
    case atStart => exact ⟨0, pv6, by omega, rfl, by rw [HZ0.out]; exact PY6.out, A6.out⟩
    case round =>
      clear PY6 A6 HZ0 c0 c1 c2 c3 c4
      obtain ⟨k, pv, hk, rfl, hpy, hbel⟩ := hrel
      have PY : Hid (PyI q (N0 ++ bytN (pairN 1 (vs.take k))) pv wr) := hpy
      have AB : Hid (Below q W1 wr) := hbel
      have hqr := hpy.x.lt
      have hll := HLV.out k hk
      obtain ⟨Q7, _, MV, _⟩ := HK.out _ hbel
      clear hpy hbel
      by_cases hlt : k < vs.length
      · obtain ⟨bv, ov, cv', e5, _, _, ltv, hvv⟩ := MlR.at MV (by omega)
        injection e5 with e5 _ e6
        subst e5 e6
        obtain ⟨x, hx⟩ := getX hlt
        obtain ⟨y0, y1⟩ := hvv k x hx
        obtain ⟨g1, g2, g3, g4⟩ := HVB.out x (List.mem_of_getElem? hx)
        have HT : Hid (N0 ++ bytN (pairN 1 (vs.take (k + 1))) = (N0 ++ bytN (pairN 1 (vs.take k))) ++ bytN [x.1 + 1, x.2 + 1]) := by show _ = _; rw [take_snoc hx, pairN_app, pairN_one, bytN_app, List.append_assoc]
        have p0 : (0 : Int) ≤ (k : Int) := by omega
        have p1 : (k : Int) < (vs.length : Int) := by omega
        have w1 : IntKind.i64.wrap (x.1 + 1) = x.1 + 1 := wrap_id64 (by omega) (by omega)
        have w2 : IntKind.i64.wrap (x.2 + 1) = x.2 + 1 := wrap_id64 (by omega) (by omega)
        obtain ⟨x1, x2⟩ := x
        simp only at y0 y1 g1 g2 g3 g4 HT w1 w2
        generalize N0 ++ bytN (pairN 1 (vs.take k)) = M at *
        have xb : BX 43 (wr.alloc (.cells #[.int .i64 x1, .int .i64 x2] 43)) wr.heap.size #[.int .i64 x1, .int .i64 x2] := BX.new _ _ _
        have W8 : Hid (PyI q M pv (wr.alloc (.cells #[.int .i64 x1, .int .i64 x2] 43)) ∧ Below q W1 (wr.alloc (.cells #[.int .i64 x1, .int .i64 x2] 43))) := ⟨PY.out.below (below_alloc _ _), AB.out.alloc (Nat.le_of_lt hqr) _⟩
        clear hvv hx Q7 MV PY AB
        go_upto_region 12 with fail
        obtain ⟨m0, m1, _⟩ := xb.all2
        generalize wr.alloc (.cells #[.int .i64 x1, .int .i64 x2] 43) = W9 at *
        generalize wr.heap.size = bx at *
        obtain ⟨py9, b9⟩ := W8.out
        have W10 : Hid (PyI q M pv (W9.alloc (.cells #[.int .i64 (x1 + 1), .int .i64 (x2 + 1)] 3)) ∧ (W9.alloc (.cells #[.int .i64 (x1 + 1), .int .i64 (x2 + 1)] 3)).ownsRow q 3 1 (.slice (some ⟨W9.heap.size, 0, none⟩) 2 2) ([x1 + 1, x2 + 1] : List Int).length (([x1 + 1, x2 + 1] : List Int).flatMap encI) ∧ Below q W1 (W9.alloc (.cells #[.int .i64 (x1 + 1), .int .i64 (x2 + 1)] 3))) := ⟨py9.below (below_alloc _ _), own_lit2 W9 q (Nat.le_of_lt py9.x.lt) _ _, b9.alloc (Nat.le_of_lt py9.x.lt) _⟩
        clear xb y0 y1 py9 b9 W8
        go_wp2_with fail
        generalize W9.alloc (.cells #[.int .i64 (x1 + 1), .int .i64 (x2 + 1)] 3) = W11 at *
        refine (sPut_any q _ M _ [x1 + 1, x2 + 1] W11 W10.out.1 W10.out.2.1 (fun n hn => by simp only [List.mem_cons, List.not_mem_nil, or_false] at hn; omega) (by simp only [List.length_cons, List.length_nil]; omega)).mono ?_
        rintro e W12 ⟨rfl, ⟨pv12, hpy12⟩, hb12⟩
        have PYN : Hid (PyI q (M ++ bytN [x1 + 1, x2 + 1]) pv12 W12) := hpy12
        have AN : Hid (Below q W1 W12) := W10.out.2.2.trans hb12
        clear hpy12 hb12 W10 m0 m1
        go_wp2_with fail
        go_roundw
        case rel => exact ⟨k + 1, pv12, by omega, by go_num, by rw [HT.out]; exact PYN.out, AN.out⟩
        case measure => simp [intOf]; omega
      · have ek : vs.take k = vs := List.take_of_length_le (by omega)
        rw [ek] at PY hll
        obtain ⟨V7, rfl⟩ : ∃ V, V = wr := ⟨wr, rfl⟩
        obtain ⟨c0, c1, c2, c3, c4⟩ := Q7.all5
        generalize N0 ++ bytN (pairN 1 vs) = N1 at *
        have W13 : Hid (PyI q N1 pv (V7.alloc (.cells #[.int .i64 (ms.length : Int)] 3)) ∧ (V7.alloc (.cells #[.int .i64 (ms.length : Int)] 3)).ownsRow q 3 1 (.slice (some ⟨V7.heap.size, 0, none⟩) 1 1) ([(ms.length : Int)] : List Int).length (([(ms.length : Int)] : List Int).flatMap encI) ∧ Below q W1 (V7.alloc (.cells #[.int .i64 (ms.length : Int)] 3))) := ⟨PY.out.below (below_alloc _ _), own_lit1 V7 q (Nat.le_of_lt hqr) _, AB.out.alloc (Nat.le_of_lt hqr) _⟩
        clear ek Q7 MV PY AB HLV HVB
        go_wp2_with fail
        generalize V7.alloc (.cells #[.int .i64 (ms.length : Int)] 3) = W14 at *
        refine (sPut_any q _ N1 _ [(ms.length : Int)] W14 W13.out.1 W13.out.2.1 (fun n hn => by simp only [List.mem_cons, List.not_mem_nil, or_false] at hn; omega) (by simp only [List.length_cons, List.length_nil]; omega)).mono ?_
        rintro e W15 ⟨rfl, ⟨pv15, hpy15⟩, hb15⟩
        have PY15 : Hid (PyI q (N1 ++ bytN [(ms.length : Int)]) pv15 W15) := hpy15
        have A15 : Hid (Below q W1 W15) := W13.out.2.2.trans hb15
        have HL1 : Hid ((N1 ++ bytN [(ms.length : Int)]).length ≤ 50 + 20 * vs.length) := by
          have h1 := bytN_len [(ms.length : Int)]
          show _ ≤ _
          rw [List.length_append]
          simp only [List.length_cons, List.length_nil] at h1
          omega
        clear hpy15 hb15 W13 c0 c1 c2 c3 c4
        obtain ⟨Q15, _, _, _⟩ := HK.out _ A15.out
        obtain ⟨c0, c1, c2, c3, c4⟩ := Q15.all5
        clear Q15
        generalize N1 ++ bytN [(ms.length : Int)] = N2 at *
        go_wp2_with fail
        have HZ2 : Hid (N2 ++ bytN (pairN 0 (ms.take 0)) = N2) := by show _ = _; simp [pairN, bytN]
        have HLM : Hid (∀ k, k ≤ ms.length → (N2 ++ bytN (pairN 0 (ms.take k))).length ≤ 50 + 20 * vs.length + 20 * ms.length) := fun k hk => by
          have h1 := bytN_len (pairN 0 (ms.take k))
          have h2 := HL1.out
          rw [pairN_len, List.length_take] at h1
          rw [List.length_append]
          omega
        go_loopw [54] (fun i wr => ∃ (k : Nat) (pv : Value), k ≤ ms.length ∧ i = .int .i64 k ∧ PyI q (N2 ++ bytN (pairN 0 (ms.take k))) pv wr ∧ Below q W1 wr) (fun i _ => ms.length - (intOf i).toNat)
        case atStart => exact ⟨0, pv15, by omega, rfl, by rw [HZ2.out]; exact PY15.out, A15.out⟩
        case round =>
          clear PY15 A15 HZ2 c0 c1 c2 c3 c4
          obtain ⟨k, pv, hk, rfl, hpy, hbel⟩ := hrel
          have PY : Hid (PyI q (N2 ++ bytN (pairN 0 (ms.take k))) pv wr) := hpy
          have AB : Hid (Below q W1 wr) := hbel
          have hqr := hpy.x.lt
          have hll2 := HLM.out k hk
          obtain ⟨Q7, BW7, _, MM⟩ := HK.out _ hbel
          have hpv := hpy.shape
          clear hpy hbel
          by_cases hlt : k < ms.length
          · obtain ⟨bv, ov, cv', e5, _, _, ltv, hvv⟩ := MlR.at MM (by omega)
            injection e5 with e5 _ e6
            subst e5 e6
            obtain ⟨x, hx⟩ := getX hlt
            obtain ⟨y0, y1⟩ := hvv k x hx
            obtain ⟨g1, g2, g3, g4⟩ := HMB.out x (List.mem_of_getElem? hx)
            have HT : Hid (N2 ++ bytN (pairN 0 (ms.take (k + 1))) = (N2 ++ bytN (pairN 0 (ms.take k))) ++ bytN [x.1, x.2]) := by show _ = _; rw [take_snoc hx, pairN_app, pairN_one, bytN_app, List.append_assoc, Int.add_zero, Int.add_zero]
            have p0 : (0 : Int) ≤ (k : Int) := by omega
            have p1 : (k : Int) < (ms.length : Int) := by omega
            obtain ⟨x1, x2⟩ := x
            simp only at y0 y1 g1 g2 g3 g4 HT
            generalize N2 ++ bytN (pairN 0 (ms.take k)) = M at *
            have xb : BX 45 (wr.alloc (.cells #[.int .i64 x1, .int .i64 x2] 45)) wr.heap.size #[.int .i64 x1, .int .i64 x2] := BX.new _ _ _
            have W8 : Hid (PyI q M pv (wr.alloc (.cells #[.int .i64 x1, .int .i64 x2] 45)) ∧ Below q W1 (wr.alloc (.cells #[.int .i64 x1, .int .i64 x2] 45))) := ⟨PY.out.below (below_alloc _ _), AB.out.alloc (Nat.le_of_lt hqr) _⟩
            clear hvv hx Q7 MM PY AB BW7 hpv
            go_upto_region 18 with fail
            obtain ⟨m0, m1, _⟩ := xb.all2
            generalize wr.alloc (.cells #[.int .i64 x1, .int .i64 x2] 45) = W9 at *
            generalize wr.heap.size = bx at *
            obtain ⟨py9, b9⟩ := W8.out
            have W10 : Hid (PyI q M pv (W9.alloc (.cells #[.int .i64 x1, .int .i64 x2] 3)) ∧ (W9.alloc (.cells #[.int .i64 x1, .int .i64 x2] 3)).ownsRow q 3 1 (.slice (some ⟨W9.heap.size, 0, none⟩) 2 2) ([x1, x2] : List Int).length (([x1, x2] : List Int).flatMap encI) ∧ Below q W1 (W9.alloc (.cells #[.int .i64 x1, .int .i64 x2] 3))) := ⟨py9.below (below_alloc _ _), own_lit2 W9 q (Nat.le_of_lt py9.x.lt) _ _, b9.alloc (Nat.le_of_lt py9.x.lt) _⟩
            clear xb y0 y1 py9 b9 W8
            go_wp2_with fail
            generalize W9.alloc (.cells #[.int .i64 x1, .int .i64 x2] 3) = W11 at *
            refine (sPut_any q _ M _ [x1, x2] W11 W10.out.1 W10.out.2.1 (fun n hn => by simp only [List.mem_cons, List.not_mem_nil, or_false] at hn; omega) (by simp only [List.length_cons, List.length_nil]; omega)).mono ?_
            rintro e W12 ⟨rfl, ⟨pv12, hpy12⟩, hb12⟩
            have PYN : Hid (PyI q (M ++ bytN [x1, x2]) pv12 W12) := hpy12
            have AN : Hid (Below q W1 W12) := W10.out.2.2.trans hb12
            clear hpy12 hb12 W10 m0 m1
            go_wp2_with fail
            go_roundw
            case rel => exact ⟨k + 1, pv12, by omega, by go_num, by rw [HT.out]; exact PYN.out, AN.out⟩
            case measure => simp [intOf]; omega
          · have ek : ms.take k = ms := List.take_of_length_le (by omega)
            rw [ek] at PY
            rw [← NE.out] at PY
            obtain ⟨pa, pn, pc, rfl⟩ := hpv
            have pq := PY.out.x.cell 0
            have hpn : pn = NN.length := own_lenB PY.out.o
            have HB7 : Hid (Below w.heap.size w wr) := BW7
            have RN : Hid (Reads .u8 wr (.slice pa pn pc) NN) := reads_own PY.out.o
            subst hpn
            clear ek Q7 MM AB NE HLM HMB
            by_cases hsz : NN.length ≤ 20000
            · have HRE : Hid (R = (wrap NN, 0)) := EY2.out hsz
              have CW : Hid (∀ X, X = wr → _) := fun X (_ : X = wr) => wrap_any (.slice pa NN.length pc) NN wr RN.out HNB.out hsz
              clear EB2 EY2
              go_wp2_with fail
              refine (CW.out _ rfl).mono ?_
              rintro e W9 ⟨v9, rfl, ho9, hb9⟩
              have HP : Hid (BytP2 w R (.returned (.tuple #[v9, .int .i64 0])) W9) := by
                show BytP2 _ _ _ _
                rw [HRE.out]
                exact ⟨_, rfl, own_lower ho9 HB7.out.size, HB7.out.trans (hb9.mono HB7.out.size)⟩
              clear ho9 hb9 CW
              generalize BytP2 w R = P at *
              go_wp2_with fail
              exact HP.out
            · have HRE : Hid (R = ([], 1)) := EB2.out hsz
              have CW : Hid (∀ X, X = wr → _) := fun X (_ : X = wr) => wrap_over pa NN.length pc wr (by omega)
              clear EB2 EY2
              go_wp2_with fail
              refine (CW.out _ rfl).mono ?_
              rintro e W9 ⟨rfl, rfl⟩
              have HP : Hid (BytP2 w R (.returned (.tuple #[.slice none 0 0, .int .i64 1])) W9) := by
                show BytP2 _ _ _ _
                rw [HRE.out]
                exact BytP2.no HB7.out
              clear CW
              generalize BytP2 w R = P at *
              go_wp2_with fail
              exact HP.out
end Go.Proofs.Ytbfkmakfkbdafab

namespace Go.Proofs.Ytbfkmakfkbdafab
set_option maxRecDepth 100000
open Go.ChangeShapes Go.WideShapes Go.ChangeAt Go.RowKit

theorem unwrap_any (v : Value) (xs : List Int) (w : World) (h : Reads .u8 w v xs) (hx : ∀ x ∈ xs, 0 ≤ x ∧ x ≤ 255) :
    Calls Try.prog 7 #[v] w fun e w' =>
      ∃ v', e = .returned (.tuple #[v', .int .i64 (unwrapF xs).2.1, .int .i64 (unwrapF xs).2.2]) ∧ w'.ownsRow w.heap.size 5 1 v' (unwrapF xs).1.length ((unwrapF xs).1.map (Value.int .u8)) ∧ Below w.heap.size w w' := by
  have HR : Hid (Reads .u8 w v xs) := h
  have HX : Hid (∀ x ∈ xs, 0 ≤ x ∧ x ≤ 255) := hx
  clear h hx
  generalize hu : unwrapF xs = q at *
  have HU : Hid (unwrapF xs = q) := hu
  clear hu
  obtain ⟨q1, q2, q3⟩ := q
  go_enter Try.func7, Try.ntmps7
  go_wp2_with fail
  refine (newTable_any _).mono ?_
  rintro e w1 ⟨rfl, hT, hbel, _⟩
  have HT : Hid (Tab w1 w.heap.size) := hT
  have hs := hbel.size
  clear hT
  go_wp2_with fail
  refine (unwrap_tab _ _ xs _ HT.out (HR.out.below hbel (Nat.le_refl _)) HX.out).mono ?_
  rintro e w2 ⟨v2, rfl, hown2, hbel2⟩
  rw [HU.out] at hown2 ⊢
  have O2 : Hid (w2.ownsRow w.heap.size 5 1 v2 q1.length (q1.map (Value.int .u8))) := own_lower hown2 hs
  have B2 : Hid (Below w.heap.size w w2) := hbel.trans (hbel2.mono hs)
  clear hown2 hbel2 hbel
  go_wp2
  go_ret3
  exact ⟨v2, rfl, O2.out, B2.out⟩
end Go.Proofs.Ytbfkmakfkbdafab

namespace Go.Proofs.Ytbfkmakfkbdafab
set_option maxRecDepth 100000
open Go.ChangeShapes Go.WideShapes Go.ChangeAt Go.RowKit

theorem unwrap_len (xs : List Int) : (unwrapF xs).1.length ≤ 20000 := by
  unfold unwrapF
  split
  · simp
  · split
    · simp
    · split
      · simp
      · split
        · simp only [List.length_take]; omega
        · simp
theorem wrap_i64B (x : Int) : i64B (IntKind.i64.wrap x) := by rw [IntKind.wrap_i64]; unfold i64B; omega
theorem pairsK_mlB (d : Int) (l : List Int) : ∀ k, ∀ x ∈ (pairsK d k l).1, mlB x
  | 0, x, hx => by cases hx
  | k + 1, x, hx => by
    rcases List.mem_append.1 hx with h | h
    · exact pairsK_mlB d l k x h
    · rw [List.mem_singleton.1 h]; exact ⟨wrap_i64B _, wrap_i64B _⟩
theorem parse_mlB (l : List Int) : ∀ x ∈ (parseC l).mail, mlB x := pairsK_mlB 0 _ _
/-- Something saved that is answered, and an error. -/
def SvdP (w : World) (r : SvS × Int) (e : Ending) (w' : World) : Prop :=
  ∃ v1 v2, e = .returned (.tuple #[.agg #[.int .i64 r.1.step, .int .i64 r.1.phase, .bool r.1.fresh, v1, v2], .int .i64 r.2]) ∧ w'.ownsRow w.heap.size 43 2 v1 r.1.vals.length (r.1.vals.flatMap encM) ∧ w'.ownsRow w.heap.size 45 2 v2 r.1.mail.length (r.1.mail.flatMap encM) ∧ Below w.heap.size w w'
theorem SvdP.no {w w' : World} {f : Int} (hb : Below w.heap.size w w') : SvdP w (sv0, f) (.returned (.tuple #[.agg #[.int .i64 0, .int .i64 0, .bool false, .slice none 0 0, .slice none 0 0], .int .i64 f])) w' :=
  ⟨_, _, rfl, World.ownsRow_nil _ _ _ _, World.ownsRow_nil _ _ _ _, hb⟩
theorem below_putS {B : Nat} {w0 w : World} {q : Nat} (h : Below B w0 w) (hq : B ≤ q) (a b c d e : Value) : Below B w0 (putS w q a b c d e) := ((((h.setCell (p := ⟨q, 0, none⟩) hq a).setCell (p := ⟨q, 1, none⟩) hq b).setCell (p := ⟨q, 2, none⟩) hq c).setCell (p := ⟨q, 3, none⟩) hq d).setCell (p := ⟨q, 4, none⟩) hq e

set_option maxHeartbeats 4000000 in
set_option maxRecDepth 100000 in
theorem ckDecode_any (v : Value) (b : List Int) (w : World) (hr : Reads .u8 w v b) (hx : ∀ x ∈ b, 0 ≤ x ∧ x ≤ 255) :
    Calls Try.prog 4 #[v] w (SvdP w (decS b)) := by
  have HR : Hid (Reads .u8 w v b) := hr
  have HX : Hid (∀ x ∈ b, 0 ≤ x ∧ x ≤ 255) := hx
  obtain ⟨va, vc, rfl⟩ : ∃ a c, v = .slice a b.length c := by obtain ⟨a, c, e, _⟩ := hr; exact ⟨a, c, e⟩
  obtain ⟨W0, hW0⟩ : ∃ W0, W0 = w.alloc (.cells #[.int .i64 0, .int .i64 0, .bool false, .slice none 0 0, .slice none 0 0] 26) := ⟨_, rfl⟩
  have Q0 : BX 26 W0 w.heap.size #[.int .i64 0, .int .i64 0, .bool false, .slice none 0 0, .slice none 0 0] := by rw [hW0]; exact BX.new _ _ _
  have s1 : w.heap.size + 1 ≤ W0.heap.size := by rw [hW0]; simp
  have B0 : Hid (Below w.heap.size w W0) := by show Below _ _ _; rw [hW0]; exact below_alloc _ _
  have ZX : Hid (∀ X, Below W0.heap.size W0 X → BX 26 X w.heap.size #[.int .i64 0, .int .i64 0, .bool false, .slice none 0 0, .slice none 0 0] ∧ Below w.heap.size w X) := fun X hX => ⟨Q0.below hX (by omega), B0.out.trans (hX.mono (by omega))⟩
  have DE : Hid (¬ (unwrapF b).2.2 = 0 → decS b = (sv0, (unwrapF b).2.2)) := decS_err
  have DI : Hid ((unwrapF b).2.2 = 0 → decS b = if encS (parseC (unwrapF b).1) = (b, 0) then (parseC (unwrapF b).1, 0) else (sv0, 3)) := fun h => by unfold decS; rw [if_pos h]
  have UL := unwrap_len b
  have UB : Hid (∀ x ∈ (unwrapF b).1, 0 ≤ x ∧ x ≤ 255) := unwrapF_bytes hx
  have CU : Hid (∀ X, Reads .u8 X (.slice va b.length vc) b → Calls Try.prog 7 #[.slice va b.length vc] X fun e w' => ∃ v', e = .returned (.tuple #[v', .int .i64 (unwrapF b).2.1, .int .i64 (unwrapF b).2.2]) ∧ w'.ownsRow X.heap.size 5 1 v' (unwrapF b).1.length ((unwrapF b).1.map (Value.int .u8)) ∧ Below X.heap.size X w') := fun X hX => unwrap_any _ b X hX HX.out
  have R0 : Hid (Reads .u8 W0 (.slice va b.length vc) b) := HR.out.below B0.out (Nat.le_refl _)
  clear Q0 hr hx HR
  generalize unwrapF b = U at *
  obtain ⟨pl, us, ue⟩ := U
  simp only at UL
  have PM : Hid (∀ x ∈ (parseC pl).mail, mlB x) := parse_mlB pl
  have CP : Hid (∀ X u, Reads .u8 X u pl → (∀ a n c, u = .slice (some a) n c → a.block < X.heap.size) → Calls Try.prog 8 #[u] X _) := fun X u h1 h2 => parse_any u pl X h1 h2 UB.out (by omega)
  have EB : Hid (∀ x ∈ (encS (parseC pl)).1, 0 ≤ x ∧ x ≤ 255) := encS_bd _
  generalize parseC pl = p at *
  generalize decS b = D at *
  have CE : Hid (∀ X v1 v2, MlR X v1 p.vals → MlR X v2 p.mail → Calls Try.prog 5 #[.agg #[.int .i64 p.step, .int .i64 p.phase, .bool p.fresh, v1, v2]] X (BytP2 X (encS p))) := fun X v1 v2 h1 h2 => sEnc_any p v1 v2 X h1 h2 PM.out
  generalize encS p = E at *
  obtain ⟨eb, ee⟩ := E
  go_enter Try.func4, Try.ntmps4
  go_upto_region 1 with fail
  rw [← hW0]
  clear hW0
  go_wp2_with fail
  refine (CU.out _ R0.out).mono ?_
  rintro e w1 ⟨v1, rfl, ho1, hb1⟩
  have A1 : Hid (Below W0.heap.size W0 w1) := hb1
  have hs1 := hb1.size
  obtain ⟨pa, pc, rfl⟩ := own_slice ho1
  have R1 : Hid (Reads .u8 w1 (.slice pa pl.length pc) pl) := reads_own ho1
  have LT1 : Hid (∀ a n c, (.slice pa pl.length pc : Value) = .slice (some a) n c → a.block < w1.heap.size) := fun a n c e => by
    injection e with e
    subst e
    rcases own_shapeK ho1 with ⟨e, _⟩ | ⟨g', c', e, _, h2, _⟩
    · injection e with e; cases e
    · injection e with e; injection e with e; subst e; exact h2
  clear ho1 hb1
  by_cases hu : ue = 0
  case neg =>
    have hd := DE.out hu
    have tz : (ue != 0) = true := by simp [hu]
    obtain ⟨zz, zb⟩ := ZX.out _ A1.out
    have ZR : Hid (BX 26 (putS w1 w.heap.size (.int .i64 0) (.int .i64 0) (.bool false) (.slice none 0 0) (.slice none 0 0)) w.heap.size #[.int .i64 0, .int .i64 0, .bool false, .slice none 0 0, .slice none 0 0] ∧ Below w.heap.size w (putS w1 w.heap.size (.int .i64 0) (.int .i64 0) (.bool false) (.slice none 0 0) (.slice none 0 0))) := ⟨zz.putS, below_putS zb (Nat.le_refl _) _ _ _ _ _⟩
    obtain ⟨e0, e1, e2, e3, e4⟩ := zz.all5
    obtain ⟨f0, f1, f2, f3, f4⟩ := zz.all5f
    have HDD : Hid (D = (sv0, ue)) := hd
    clear hd zz zb
    go_wp2_with fail
    obtain ⟨r0, r1, r2, r3, r4⟩ := ZR.out.1.all5
    unfold putS at r0 r1 r2 r3 r4
    refine bodyPost_ret (v := .tuple #[.agg #[.int .i64 0, .int .i64 0, .bool false, .slice none 0 0, .slice none 0 0], .int .i64 ue]) (by simp [results, Try.results4, go_sem, r0, r1, r2, r3, r4]) rfl ?_
    rw [HDD.out]
    exact SvdP.no ZR.out.2
  case pos =>
    subst hu
    have HDI : Hid (D = if (eb, ee) = (b, 0) then (p, 0) else (sv0, 3)) := DI.out rfl
    clear DE DI
    go_upto_region 4 with fail
    go_wp2_with fail
    refine (CP.out _ _ R1.out LT1.out).mono ?_
    rintro e w2 ⟨u1, u2, rfl, hu1, hu2, hb2⟩
    have V2 : MlR w2 u1 p.vals := RowK.own encM_len hu1
    have M2 : MlR w2 u2 p.mail := RowK.own encM_len hu2
    obtain ⟨vb, vd, rfl⟩ := V2.shape
    obtain ⟨mb, md, rfl⟩ := M2.shape
    have A2 : Below W0.heap.size W0 w2 := A1.out.trans (hb2.mono hs1)
    have N3 : Hid (Below W0.heap.size W0 (w2.alloc (.cells #[.int .i64 p.step, .int .i64 p.phase, .bool p.fresh, .slice vb p.vals.length vd, .slice mb p.mail.length md] 26)) ∧ BX 26 (w2.alloc (.cells #[.int .i64 p.step, .int .i64 p.phase, .bool p.fresh, .slice vb p.vals.length vd, .slice mb p.mail.length md] 26)) w2.heap.size #[.int .i64 p.step, .int .i64 p.phase, .bool p.fresh, .slice vb p.vals.length vd, .slice mb p.mail.length md] ∧ (w2.alloc (.cells #[.int .i64 p.step, .int .i64 p.phase, .bool p.fresh, .slice vb p.vals.length vd, .slice mb p.mail.length md] 26)).ownsRow W0.heap.size 43 2 (.slice vb p.vals.length vd) p.vals.length (p.vals.flatMap encM) ∧ (w2.alloc (.cells #[.int .i64 p.step, .int .i64 p.phase, .bool p.fresh, .slice vb p.vals.length vd, .slice mb p.mail.length md] 26)).ownsRow W0.heap.size 45 2 (.slice mb p.mail.length md) p.mail.length (p.mail.flatMap encM)) := ⟨A2.alloc A2.size _, BX.new _ _ _, own_lower (hu1.alloc _) hs1, own_lower (hu2.alloc _) hs1⟩
    clear hu1 hu2 hb2 V2 M2 A2 CP
    go_upto_region 5 with fail
    generalize (w2.alloc (.cells #[.int .i64 p.step, .int .i64 p.phase, .bool p.fresh, .slice vb p.vals.length vd, .slice mb p.mail.length md] 26)) = w3 at *
    generalize w2.heap.size = b3 at *
    obtain ⟨A3', X3', V3', M3'⟩ := N3.out
    have A3 : Hid (Below W0.heap.size W0 w3) := A3'
    have X3 : Hid (BX 26 w3 b3 #[.int .i64 p.step, .int .i64 p.phase, .bool p.fresh, .slice vb p.vals.length vd, .slice mb p.mail.length md]) := X3'
    have V3 : Hid (w3.ownsRow W0.heap.size 43 2 (.slice vb p.vals.length vd) p.vals.length (p.vals.flatMap encM)) := V3'
    have M3 : Hid (w3.ownsRow W0.heap.size 45 2 (.slice mb p.mail.length md) p.mail.length (p.mail.flatMap encM)) := M3'
    have hs3 := A3'.size
    obtain ⟨c0, c1, c2, c3, c4⟩ := X3'.all5
    clear A3' X3' V3' M3' N3
    go_wp2_with fail
    refine (CE.out _ _ _ (RowK.own encM_len V3.out) (RowK.own encM_len M3.out)).mono ?_
    rintro e w4 ⟨ve, rfl, ho4, hb4⟩
    obtain ⟨ea, ec, rfl⟩ := own_slice ho4
    have R4 : Hid (Reads .u8 w4 (.slice ea eb.length ec) eb) := reads_own ho4
    have A4 : Hid (Below W0.heap.size W0 w4) := A3.out.trans (hb4.mono hs3)
    have X4 : Hid (BX 26 w4 b3 #[.int .i64 p.step, .int .i64 p.phase, .bool p.fresh, .slice vb p.vals.length vd, .slice mb p.mail.length md]) := X3.out.below hb4 X3.out.lt
    have V4 : Hid (w4.ownsRow W0.heap.size 43 2 (.slice vb p.vals.length vd) p.vals.length (p.vals.flatMap encM)) := own_below V3.out hb4 (Nat.le_refl _)
    have M4 : Hid (w4.ownsRow W0.heap.size 45 2 (.slice mb p.mail.length md) p.mail.length (p.mail.flatMap encM)) := own_below M3.out hb4 (Nat.le_refl _)
    have RB : Hid (Reads .u8 w4 (.slice va b.length vc) b) := R0.out.below A4.out (Nat.le_refl _)
    obtain ⟨zz, zb⟩ := ZX.out _ A4.out
    have ZR : Hid (BX 26 (putS w4 w.heap.size (.int .i64 0) (.int .i64 0) (.bool false) (.slice none 0 0) (.slice none 0 0)) w.heap.size #[.int .i64 0, .int .i64 0, .bool false, .slice none 0 0, .slice none 0 0] ∧ Below w.heap.size w (putS w4 w.heap.size (.int .i64 0) (.int .i64 0) (.bool false) (.slice none 0 0) (.slice none 0 0))) := ⟨zz.putS, below_putS zb (Nat.le_refl _) _ _ _ _ _⟩
    have ZY : Hid (BX 26 (putS w4 w.heap.size (.int .i64 p.step) (.int .i64 p.phase) (.bool p.fresh) (.slice vb p.vals.length vd) (.slice mb p.mail.length md)) w.heap.size #[.int .i64 p.step, .int .i64 p.phase, .bool p.fresh, .slice vb p.vals.length vd, .slice mb p.mail.length md] ∧ (putS w4 w.heap.size (.int .i64 p.step) (.int .i64 p.phase) (.bool p.fresh) (.slice vb p.vals.length vd) (.slice mb p.mail.length md)).ownsRow w.heap.size 43 2 (.slice vb p.vals.length vd) p.vals.length (p.vals.flatMap encM) ∧ (putS w4 w.heap.size (.int .i64 p.step) (.int .i64 p.phase) (.bool p.fresh) (.slice vb p.vals.length vd) (.slice mb p.mail.length md)).ownsRow w.heap.size 45 2 (.slice mb p.mail.length md) p.mail.length (p.mail.flatMap encM) ∧ Below w.heap.size w (putS w4 w.heap.size (.int .i64 p.step) (.int .i64 p.phase) (.bool p.fresh) (.slice vb p.vals.length vd) (.slice mb p.mail.length md))) := ⟨zz.putS, own_lower (own_off V4.out zz (by decide) (kept_putS w4 w.heap.size _ _ _ _ _)) (by omega), own_lower (own_off M4.out zz (by decide) (kept_putS w4 w.heap.size _ _ _ _ _)) (by omega), below_putS zb (Nat.le_refl _) _ _ _ _ _⟩
    have ZZ : Hid (BX 26 w4 w.heap.size #[.int .i64 0, .int .i64 0, .bool false, .slice none 0 0, .slice none 0 0]) := zz
    clear c0 c1 c2 c3 c4 zz zb ho4 hb4 CE
    by_cases he : ee = 0
    case neg =>
      have HDD : Hid (D = (sv0, 3)) := by show _ = _; rw [HDI.out, if_neg (fun h => he (Prod.mk.inj h).2)]
      have tz : (ee != 0) = true := by simp [he]
      obtain ⟨e0, e1, e2, e3, e4⟩ := ZZ.out.all5
      obtain ⟨f0, f1, f2, f3, f4⟩ := ZZ.out.all5f
      go_wp2_with fail
      obtain ⟨r0, r1, r2, r3, r4⟩ := ZR.out.1.all5
      unfold putS at r0 r1 r2 r3 r4
      refine bodyPost_ret (v := .tuple #[.agg #[.int .i64 0, .int .i64 0, .bool false, .slice none 0 0, .slice none 0 0], .int .i64 3]) (by simp [results, Try.results4, go_sem, r0, r1, r2, r3, r4]) rfl ?_
      rw [HDD.out]
      exact SvdP.no ZR.out.2
    case pos =>
      subst he
      go_upto_region 6 with fail
      go_wp2_with fail
      refine (bytesEqual_any _ _ eb b _ R4.out RB.out EB.out HX.out).mono ?_
      rintro e w5 ⟨rfl, e5⟩
      have e5' : w4 = w5 := e5.symm
      subst e5'
      clear e5
      obtain ⟨e0, e1, e2, e3, e4⟩ := ZZ.out.all5
      obtain ⟨f0, f1, f2, f3, f4⟩ := ZZ.out.all5f
      by_cases hq : eb = b
      case neg =>
        have HDD : Hid (D = (sv0, 3)) := by show _ = _; rw [HDI.out, if_neg (fun h => hq (Prod.mk.inj h).1)]
        have tq : decide (eb = b) = false := by simp [hq]
        rw [tq]
        clear hq
        go_wp2_with fail
        obtain ⟨r0, r1, r2, r3, r4⟩ := ZR.out.1.all5
        unfold putS at r0 r1 r2 r3 r4
        refine bodyPost_ret (v := .tuple #[.agg #[.int .i64 0, .int .i64 0, .bool false, .slice none 0 0, .slice none 0 0], .int .i64 3]) (by simp [results, Try.results4, go_sem, r0, r1, r2, r3, r4]) rfl ?_
        rw [HDD.out]
        exact SvdP.no ZR.out.2
      case pos =>
        have HDD : Hid (D = (p, 0)) := by show _ = _; rw [HDI.out, if_pos (by rw [hq])]
        have tq : decide (eb = b) = true := by simp [hq]
        rw [tq]
        clear hq
        obtain ⟨c0, c1, c2, c3, c4⟩ := X4.out.all5
        go_wp2_with fail
        obtain ⟨r0, r1, r2, r3, r4⟩ := ZY.out.1.all5
        unfold putS at r0 r1 r2 r3 r4
        refine bodyPost_ret (v := .tuple #[.agg #[.int .i64 p.step, .int .i64 p.phase, .bool p.fresh, .slice vb p.vals.length vd, .slice mb p.mail.length md], .int .i64 0]) (by simp [results, Try.results4, go_sem, r0, r1, r2, r3, r4]) rfl ?_
        rw [HDD.out]
        exact ⟨_, _, rfl, ZY.out.2.1, ZY.out.2.2.1, ZY.out.2.2.2⟩
end Go.Proofs.Ytbfkmakfkbdafab

namespace Go.Proofs.Ytbfkmakfkbdafab
set_option maxRecDepth 100000
open Go.ChangeShapes Go.WideShapes Go.ChangeAt Go.RowKit

theorem open_bytes {H : Type} {enc : TypeId × Value → H} {W : World} {v0 : Value} {d0 : DataW H} {p0 : List MemPlace} (hv : ∃ a len cap, v0 = .slice a len cap) (h0 : DataW.Trod enc Try.prog W 0 (fun _ => true) true 22 v0 d0 p0)
    (hs : ∀ m ∈ d0.weights Try.prog 22, m ≤ reachBytes) : ∃ xs, Reads .u8 W v0 xs ∧ (∀ x ∈ xs, 0 ≤ x ∧ x ≤ 255) ∧ xs.length ≤ 140737488351232 := by
  have cells5 : Try.prog.cellsOf 5 = 1 := by kernel_rfl
  have bytes5 : Try.prog.bytesOf 5 = 1 := by kernel_rfl
  obtain ⟨a, len, cap, rfl⟩ := hv
  obtain ⟨fuel, hf⟩ := h0
  rcases open_ints Try.underlying22 Try.underlying5 cells5 hf with ⟨e1, _⟩ | ⟨x, l, c, zs, e1, _, hle, hm, hz, hx, hcell, hwf⟩
  · simp [Value.cells] at e1
    obtain ⟨rfl, rfl, rfl⟩ := e1
    exact ⟨[], ⟨none, 0, rfl, by simp, by simp [maxLen], fun _ => rfl, fun x hx => by cases hx⟩, by simp, by simp⟩
  · simp [Value.cells] at e1
    obtain ⟨rfl, rfl, rfl⟩ := e1
    have hz2 : zs.length = cap := by simpa using hz
    have el : (zs.take len).length = len := List.length_take_of_le (by omega)
    simp only [Prod.mk.injEq] at hx
    have hw : ((zs.take len).length + (zs.drop len).length) * Try.prog.bytesOf 5 ≤ reachBytes := by
      refine hs _ ?_
      rw [hx.1]
      simp [DataW.weights, Try.underlying22, lits]
    rw [bytes5] at hw
    simp only [List.length_take, List.length_drop, reachBytes] at hw
    refine ⟨zs.take len, ⟨some x, cap, by rw [el], by rw [el]; omega, hm, fun e => (by cases e), fun y hy j hj => ?_⟩, bytes_wf (fun n hn => hwf n (List.mem_of_mem_take hn)), by rw [el]; omega⟩
    injection hy with hy
    subst hy
    rw [el] at hj
    rw [hcell j (by omega), List.getD_eq_getElem?_getD, List.getD_eq_getElem?_getD, List.getElem?_take_of_lt hj]
end Go.Proofs.Ytbfkmakfkbdafab
