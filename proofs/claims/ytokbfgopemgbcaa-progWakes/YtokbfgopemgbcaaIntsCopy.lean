/-
  Contract of ints: a copy.
-/
import Derived.Test.YtokbfgopemgbcaaRowCore
import Derived.Laws.AppendOwnNone
namespace Go.Proofs.Ytokbfgopemgbcaa
set_option maxRecDepth 100000
open Go.ChangeShapes Go.WideShapes Go.ChangeAt Go.RowKit

theorem ints_oneCell' (l : List Int) : ∀ u ∈ l.map (Value.int .i64), u.oneCell' = true := by
  intro u hu
  obtain ⟨x, _, rfl⟩ := List.mem_map.1 hu
  rfl

set_option maxHeartbeats 400000 in
theorem ints_any (v : Value) (xs : List Int) (w : World) (h : Reads .i64 w v xs) (hl : xs.length * 8 ≤ 140737488355328) :
    Calls Try.prog 9 #[v] w fun e w' =>
      ∃ v', e = .returned v' ∧ w'.ownsRow w.heap.size 3 1 v' xs.length (xs.map (Value.int .i64)) ∧ Below w.heap.size w w' := by
  obtain ⟨i0, hi, hz0, hz1, hz2⟩ := info_parts Try.info3
  obtain ⟨a, cap, rfl, hc, hm, ha, hcell⟩ := h
  cases a with
  | none =>
    have hcap := ha rfl
    have : xs = [] := List.eq_nil_of_length_eq_zero (by omega)
    subst this
    subst hcap
    clear hcell ha
    go_enter Try.func9, Try.ntmps9
    go_wp2_with (at_builtin; refine wpList_append_own_none rfl _ _ 24 rfl w.heap.size 3 i0 1 Try.underlying24 hi _ 0 [] rfl (World.ownsRow_nil _ _ _ _) rfl ?_)
    go_ret
    exact ⟨_, rfl, World.ownsRow_nil _ _ _ _, Below.refl _ _⟩
  | some x =>
    have HN : Hid (∀ (j : Nat) (u : Value), (xs.map (Value.int IntKind.i64))[j]? = some u → w.cell? (x.add j) = some u) := fun j u hj => by
      obtain ⟨hj1, rfl⟩ := getD_map hj
      exact hcell x rfl j hj1
    clear hcell ha
    go_enter Try.func9, Try.ntmps9
    go_wp2_with (at_builtin; refine wpList_append_own _ rfl _ _ 24 rfl w.heap.size 3 i0 (.int .i64 0) 1 8 Try.underlying24 hi hz0 hz1 hz2 rfl (by decide) _ 0 [] rfl (World.ownsRow_nil _ _ _ _) x xs.length cap (xs.map (Value.int .i64)) rfl (by simp) HN.out (ints_oneCell' _) ?d3 ?d4 ?d5 ?_)
    case d3 => unfold maxLen; simp; omega
    case d4 => simp; omega
    case d5 => exact Nat.le_refl _
    intro v' w1 hown' hgrow _
    have hbel : Below w.heap.size w w1 := (Below.refl _ _).grown hgrow (Nat.le_refl _) (fun k hk => by simp [Value.ownBlock] at hk)
    clear HN
    go_wp2
    go_ret
    exact ⟨v', rfl, by simpa using hown', hbel⟩
/-- Numbers in slices, told in the other word. -/
theorem InR.nums {w : World} {v : Value} {xs : List Int} (h : InR w v xs) : Reads .i64 w v xs := by
  obtain ⟨a, cap, rfl, hc, hm, ha, hel⟩ := h
  refine ⟨a, cap, rfl, hc, hm, ha, fun x hx i hi => ?_⟩
  obtain ⟨b, off, e, _, hv⟩ := hel (by omega)
  rw [hx] at e
  injection e with e
  subst e
  have := hv i xs[i] (List.getElem?_eq_getElem hi) 0 _ rfl
  rw [Nat.mul_one, Nat.add_zero] at this
  rw [addr_plus, this, List.getD_eq_getElem?_getD, List.getElem?_eq_getElem hi]
  rfl
/-- ints: a copy that reads alike. -/
theorem ints_row (v : Value) (xs : List Int) (w : World) (h : InR w v xs) (hl : xs.length * 8 ≤ 140737488355328) :
    Calls Try.prog 9 #[v] w fun e w' => ∃ v', e = .returned v' ∧ InR w' v' xs ∧ Below w.heap.size w w' :=
  (ints_any v xs w h.nums hl).mono fun e w' ⟨v', h1, h2, h3⟩ => ⟨v', h1, RowK.own encI_len (by rw [flatI]; exact h2), h3⟩
end Go.Proofs.Ytokbfgopemgbcaa
