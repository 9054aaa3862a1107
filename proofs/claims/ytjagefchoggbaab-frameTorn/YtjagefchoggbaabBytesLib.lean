/-
  Contracts of bytes.Equal and bytes.Clone; what slices of a slice of bytes read as.
-/
import Derived.Test.YtjagefchoggbaabAppendReads
import Derived.Lib.Walk
namespace Go.Proofs.Ytjagefchoggbaab
open Go.ChangeShapes Go.WideShapes Go.ChangeAt Go.RowKit

set_option maxHeartbeats 400000 in
theorem bytesEqual_any (va vb : Value) (xs ys : List Int) (w : World) (ha : Reads .u8 w va xs) (hb : Reads .u8 w vb ys) (hx : ∀ x ∈ xs, 0 ≤ x ∧ x ≤ 255) (hy : ∀ x ∈ ys, 0 ≤ x ∧ x ≤ 255) :
    Calls Try.prog 19 #[va, vb] w fun e w' => e = .returned (.bool (decide (xs = ys))) ∧ w' = w := by
  have ca := ha.convert
  have cb := hb.convert
  clear ha hb
  go_enter Try.func19, Try.ntmps19
  go_wp2
  go_ret
  refine ⟨ret_bool ?_, rfl⟩
  have e := strOfNums_eq hx hy
  by_cases h : xs = ys
  · subst h; simp
  · have h2 : ¬ (strOfNums xs).toList = (strOfNums ys).toList := fun h3 => h (e.1 h3)
    simp [h, h2]

theorem own_new0 (w : World) (base : Nat) (hb : base ≤ w.heap.size) : (w.alloc (.cells #[] 5)).ownsRow base 5 1 (.slice (some ⟨w.heap.size, 0, none⟩) 0 0) ([] : List Int).length (([] : List Int).map (Value.int .u8)) :=
  ⟨by simp, .inr ⟨w.heap.size, 0, #[], rfl, hb, heap_alloc_new w _, by simp, by simp [maxLen], by simp, by simp⟩⟩

set_option maxHeartbeats 400000 in
theorem clone_any (v : Value) (xs : List Int) (w : World) (h : Reads .u8 w v xs) (hl : xs.length ≤ 140737488355328) :
    Calls Try.prog 20 #[v] w fun e w' =>
      ∃ v', e = .returned v' ∧ w'.ownsRow w.heap.size 5 1 v' xs.length (xs.map (Value.int .u8)) ∧ Below w.heap.size w w' := by
  have q22 : ∀ (w : World) (a : Option Addr) (n c n' c' : Nat), (binOp .eql 23 (.slice a n c) (.slice none n' c')).run Try.prog w = .ok (.bool a.isNone) w := fun w a n c n' c' => Lib.run_eql_slice_nil w _ _ a n c n' c' Try.underlying23
  have HR : Hid (Reads .u8 w v xs) := h
  obtain ⟨a, cap, rfl, hc, hm, ha, _⟩ := h
  cases a with
  | none =>
    have hcap := ha rfl
    have : xs = [] := List.eq_nil_of_length_eq_zero (by omega)
    subst this
    subst hcap
    clear ha
    go_enter Try.func20, Try.ntmps20
    go_wp2_with fail
    go_ret
    exact ⟨_, rfl, World.ownsRow_nil _ _ _ _, Below.refl _ _⟩
  | some x =>
    clear ha
    go_enter Try.func20, Try.ntmps20
    go_wp2_with (at_builtin; refine wpList_append_reads rfl _ _ rfl w.heap.size _ [] rfl (own_new0 w _ (Nat.le_refl _)) _ xs rfl (HR.out.below ((Below.refl _ _).alloc (Nat.le_refl _) _) (Nat.le_refl _)) (by simp; omega) (by simp) ?_)
    intro v2 w2 hown2 hbel2 _
    have B2 : Hid (Below w.heap.size w w2) := ((Below.refl _ _).alloc (Nat.le_refl _) _).trans hbel2
    have O2 : Hid (w2.ownsRow w.heap.size 5 1 v2 xs.length (xs.map (Value.int .u8))) := by simpa [Hid] using hown2
    clear hown2 hbel2
    go_wp2
    go_ret
    exact ⟨v2, rfl, O2.out, B2.out⟩

/-- s[:n], s[u:], s[u:n] read as the list's. -/
theorem reads_mid {k : IntKind} {w : World} {b off cap u n : Nat} {xs : List Int} (hc : xs.length ≤ cap) (hm : cap ≤ maxLen) (hu : u ≤ n) (hn : n ≤ xs.length) (h : ∀ i, i < xs.length → w.cell? ⟨b, off + i, none⟩ = some (.int k (xs.getD i 0))) :
    Reads k w (.slice (some ⟨b, off + u, none⟩) (n - u) (cap - u)) ((xs.drop u).take (n - u)) := by
  have hl : ((xs.drop u).take (n - u)).length = n - u := by rw [List.length_take, List.length_drop]; omega
  refine ⟨some ⟨b, off + u, none⟩, cap - u, by rw [hl], by rw [hl]; omega, by omega, fun hx => (by cases hx), ?_⟩
  intro x hx i hi
  injection hx with hx
  subst hx
  rw [hl] at hi
  have hadd : (⟨b, off + u, none⟩ : Addr).add i = ⟨b, off + (u + i), none⟩ := by unfold Addr.add; split <;> simp_all [Nat.add_assoc]
  rw [hadd, h (u + i) (by omega), List.getD_eq_getElem?_getD, List.getD_eq_getElem?_getD, List.getElem?_take_of_lt hi, List.getElem?_drop]
theorem reads_upto {k : IntKind} {w : World} {b off cap n : Nat} {xs : List Int} (hc : xs.length ≤ cap) (hm : cap ≤ maxLen) (hn : n ≤ xs.length) (h : ∀ i, i < xs.length → w.cell? ⟨b, off + i, none⟩ = some (.int k (xs.getD i 0))) :
    Reads k w (.slice (some ⟨b, off, none⟩) n cap) (xs.take n) := by
  have := reads_mid (u := 0) hc hm (Nat.zero_le n) hn h
  simpa using this
end Go.Proofs.Ytjagefchoggbaab
