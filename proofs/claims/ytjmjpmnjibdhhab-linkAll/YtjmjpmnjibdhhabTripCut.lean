/-
  The first trips of a slice of trips.
-/
import Derived.Test.YtjmjpmnjibdhhabCutMail
namespace Go.Proofs.Ytjmjpmnjibdhhab
set_option maxRecDepth 100000
open Go.ChangeShapes Go.WideShapes Go.ChangeAt Go.RowKit

theorem run_cutT (a : Option Addr) (len cap hi : Nat) (h2 : hi ≤ cap) (w : World) : (Instr.slice 23 (.slice a len cap) none (some (.int .i64 (hi : Int))) none).run Try.prog w = .ok (cutP a 0 hi cap) w := by
  have hsz : (sizeOf (Try.prog.elem 23)).run Try.prog w = .ok 2 w := by kernel_rfl
  rw [run_slice_h (P := Try.prog) (w := w) 23 a len cap (by rw [Try.underlying23]; kernel_rfl) .i64 hi (by omega) (by omega), hsz]
  simp only [Result.andThen, sliced, Int.toNat_natCast, cutP]
theorem cut_first {α : Type} (l : List α) (n : Nat) : (l.drop 0).take (min l.length n - 0) = l.take n := by
  rw [List.drop_zero, Nat.sub_zero]
  rcases Nat.le_total l.length n with h | h
  · rw [Nat.min_eq_left h, List.take_of_length_le (Nat.le_refl _), List.take_of_length_le h]
  · rw [Nat.min_eq_right h]
end Go.Proofs.Ytjmjpmnjibdhhab
