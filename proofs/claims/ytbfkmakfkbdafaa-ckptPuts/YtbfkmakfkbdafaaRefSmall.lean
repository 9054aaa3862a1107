/-
  Contract of the document's own small.
-/
import Derived.Test.YtbfkmakfkbdafaaNumMath
import Derived.Test.YtbfkmakfkbdafaaUnpackedWalk
namespace Go.Proofs.Ytbfkmakfkbdafaa
set_option maxRecDepth 100000
open Go.ChangeShapes Go.WideShapes Go.ChangeAt Go.RowKit

/-- s[u:]. -/
def cutV (a : Option Addr) (len cap u : Nat) : Value := .slice (if cap = u then a else a.map (·.add u)) (len - u) (cap - u)
theorem run_cutV (a : Option Addr) (len cap u : Nat) (hu : u ≤ len) (w : World) : (Instr.slice 27 (.slice a len cap) (some (.int .i64 (u : Int))) none none).run Try.prog w = .ok (cutV a len cap u) w := by
  have hsz : (sizeOf (Try.prog.elem 27)).run Try.prog w = .ok 1 w := by kernel_rfl
  rw [run_slice_l (P := Try.prog) (w := w) 27 a len cap (by rw [Try.underlying27]; kernel_rfl) .i64 u (by omega) (by omega), hsz]
  simp only [Result.andThen, sliced, Int.toNat_natCast, Nat.mul_one, cutV]
theorem reads_cutV {w : World} {a : Option Addr} {cap u : Nat} {xs : List Int} (h : Reads .u8 w (.slice a xs.length cap) xs) (hu : u ≤ xs.length) : Reads .u8 w (cutV a xs.length cap u) (xs.drop u) := by
  have hl : (xs.drop u).length = xs.length - u := List.length_drop
  have hc : xs.length ≤ cap ∧ cap ≤ maxLen ∧ (a = none → cap = 0) := by
    obtain ⟨a', cap', e, h1, h2, h3, _⟩ := h
    injection e with e1 _ e3
    subst e1 e3
    exact ⟨h1, h2, h3⟩
  by_cases hn : u < xs.length
  · obtain ⟨b, off, cap', e, h1, h2, h3, h4⟩ := h.plain (by omega)
    injection e with e1 _ e3
    subst e1 e3
    have := reads_drop (u := u) h1 h2 h4
    unfold cutV
    rw [if_neg (by omega), Option.map_some, addr_plus]
    exact this
  · have e1 : xs.drop u = [] := List.drop_eq_nil_of_le (by omega)
    rw [e1]
    refine ⟨_, cap - u, by rw [show ([] : List Int).length = xs.length - u by simp; omega]; rfl, by simp, by omega, fun hx => ?_, fun x _ i hi => by simp at hi⟩
    cases a with
    | none => have := hc.2.2 rfl; omega
    | some x =>
      split at hx
      · cases hx
      · cases hx

/-- What small tells of a place: a number and the place behind it, or neither. -/
def SmlP (m : Int) (xs : List Int) (at_ : Nat) (e : Ending) : Prop :=
  (numF m (xs.drop at_) = none ∧ e = .returned (.tuple #[.int .i64 0, .int .i64 (-1)])) ∨
  ∃ (x : Int) (at2 : Nat), numF m (xs.drop at_) = some (x, xs.drop at2) ∧ at_ < at2 ∧ at2 ≤ xs.length ∧ e = .returned (.tuple #[.int .i64 x, .int .i64 at2])

set_option maxHeartbeats 400000 in
theorem small_neg (v : Value) (m : Int) (w : World) : Calls Try.prog 32 #[v, .int .i64 (-1), .int .i64 m] w fun e w' => e = .returned (.tuple #[.int .i64 0, .int .i64 (-1)]) ∧ w' = w := by
  go_enter Try.func32, Try.ntmps32
  go_wp2_with fail
  go_ret2
  exact ⟨rfl, rfl⟩

set_option maxHeartbeats 800000 in
set_option maxRecDepth 100000 in
theorem small_any (v : Value) (xs : List Int) (i : Nat) (m : Int) (w : World) (h : Reads .u8 w v xs) (hx : ∀ x ∈ xs, 0 ≤ x ∧ x ≤ 255) (hi : i ≤ xs.length) (hL : xs.length ≤ 140737488355328) (hm : 0 ≤ m ∧ m ≤ 1125899906842624) :
    Calls Try.prog 32 #[v, .int .i64 i, .int .i64 m] w fun e w' => SmlP m xs i e ∧ w' = w := by
  obtain ⟨a, cap, rfl, hc, hmx, _⟩ := id h
  have hcut := run_cutV a xs.length cap i hi
  have HR : Hid (Reads .u8 w (cutV a xs.length cap i) (xs.drop i)) := reads_cutV h hi
  have hx2 : ∀ x ∈ xs.drop i, 0 ≤ x ∧ x ≤ 255 := fun x h => hx x (List.mem_of_mem_drop h)
  have HG : Hid (∀ X, Reads .u8 X (cutV a xs.length cap i) (xs.drop i) → Calls Try.prog 56 #[cutV a xs.length cap i] X fun e w' => e = .returned (.tuple #[.int .u64 (get (xs.drop i)).1, .int .i64 (get (xs.drop i)).2.1, .int .i64 (get (xs.drop i)).2.2]) ∧ w' = X) := fun X hX => unpacked_any _ _ X hX hx2
  rcases get_inv hx2 with ⟨e, he, hne⟩ | ⟨n, t, he, hl, h0, h1⟩
  · have HN : Hid (numF m (xs.drop i) = none) := numF_err he hne
    rw [he] at HG
    have hne' : (e != 0) = true := by simpa using hne
    clear he hx hx2 h hne
    go_enter Try.func32, Try.ntmps32
    go_wp2_with fail
    refine (HG.out _ HR.out).mono ?_
    rintro e w1 ⟨rfl, rfl⟩
    go_wp2_with fail
    go_ret2
    exact ⟨.inl ⟨HN.out, rfl⟩, rfl⟩
  · by_cases hn : n ≤ m
    · have hp := put_len n
      have hpl : (put n).length ≤ xs.length - i := by rw [← List.length_drop, hl]; simp
      have HN : Hid (numF m (xs.drop i) = some (n, xs.drop (i + (put n).length))) := by show _ = _; rw [numF_yes he hn, List.drop_drop]
      have hw : IntKind.u64.wrap m = m := by rw [IntKind.wrap_u64]; omega
      rw [he] at HG
      clear he hl hx hx2 h
      generalize (put n).length = u at *
      go_enter Try.func32, Try.ntmps32
      go_wp2_with fail
      refine (HG.out _ HR.out).mono ?_
      rintro e w1 ⟨rfl, rfl⟩
      go_wp2_with fail
      go_ret2
      exact ⟨.inr ⟨n, i + u, HN.out, by omega, by omega, by go_num⟩, rfl⟩
    · have HN : Hid (numF m (xs.drop i) = none) := numF_big he (by omega)
      have hw : IntKind.u64.wrap m = m := by rw [IntKind.wrap_u64]; omega
      have hn2 : m < n := by omega
      rw [he] at HG
      clear he hl hx hx2 h
      generalize (put n).length = u at *
      go_enter Try.func32, Try.ntmps32
      go_wp2_with fail
      refine (HG.out _ HR.out).mono ?_
      rintro e w1 ⟨rfl, rfl⟩
      go_wp2_with fail
      go_ret2
      exact ⟨.inl ⟨HN.out, rfl⟩, rfl⟩
end Go.Proofs.Ytbfkmakfkbdafaa
