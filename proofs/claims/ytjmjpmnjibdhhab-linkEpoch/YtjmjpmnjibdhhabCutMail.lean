/-
  Slices of a slice of mail: what they read as.
-/
import Derived.Test.YtjmjpmnjibdhhabMailMem
namespace Go.Proofs.Ytjmjpmnjibdhhab
set_option maxRecDepth 100000
open Go.ChangeShapes Go.WideShapes Go.ChangeAt Go.RowKit

/-- s[lo:hi:m]. -/
def cutP (a : Option Addr) (lo hi m : Nat) : Value := .slice (if m = lo then a else a.map (·.add (lo * 2))) (hi - lo) (m - lo)
theorem run_cutP (a : Option Addr) (len cap lo hi : Nat) (h1 : lo ≤ hi) (h2 : hi ≤ cap) (w : World) : (Instr.slice 24 (.slice a len cap) (some (.int .i64 (lo : Int))) (some (.int .i64 (hi : Int))) (some (.int .i64 (hi : Int)))).run Try.prog w = .ok (cutP a lo hi hi) w := by
  have hsz : (sizeOf (Try.prog.elem 24)).run Try.prog w = .ok 2 w := by kernel_rfl
  rw [run_slice_lhm (P := Try.prog) (w := w) 24 a len cap (by rw [Try.underlying24]; kernel_rfl) .i64 .i64 .i64 lo hi hi (by omega) (by omega) (by omega) (by omega), hsz]
  simp only [Result.andThen, sliced, Int.toNat_natCast, cutP]
theorem run_cutF (a : Option Addr) (len cap lo : Nat) (h1 : lo ≤ len) (w : World) : (Instr.slice 24 (.slice a len cap) (some (.int .i64 (lo : Int))) none none).run Try.prog w = .ok (cutP a lo len cap) w := by
  have hsz : (sizeOf (Try.prog.elem 24)).run Try.prog w = .ok 2 w := by kernel_rfl
  rw [run_slice_l (P := Try.prog) (w := w) 24 a len cap (by rw [Try.underlying24]; kernel_rfl) .i64 lo (by omega) (by omega), hsz]
  simp only [Result.andThen, sliced, Int.toNat_natCast, cutP]
theorem reads_cutP {w : World} {a : Option Addr} {cap lo hi m : Nat} {l : List Ml} (h : MlR w (.slice a l.length cap) l) (h1 : lo ≤ hi) (h2 : hi ≤ l.length) (h3 : hi ≤ m) (h4 : m ≤ cap) : MlR w (cutP a lo hi m) ((l.drop lo).take (hi - lo)) := by
  obtain ⟨a', cap', e, hc, hm, ha, hel⟩ := h
  injection e with e1 _ e3
  subst e1 e3
  have hll : ((l.drop lo).take (hi - lo)).length = hi - lo := by rw [List.length_take, List.length_drop]; omega
  unfold cutP
  refine ⟨_, m - lo, by rw [hll], by rw [hll]; omega, by omega, fun hx => ?_, fun hn => ?_⟩
  · split at hx
    · omega
    · cases a with
      | none => have := ha rfl; omega
      | some p => cases hx
  · rw [hll] at hn
    obtain ⟨b, off, rfl, hlt, hcell⟩ := hel (by omega)
    refine ⟨b, off + lo * 2, by rw [if_neg (by omega), Option.map_some, addr_plus], hlt, fun i x hx j u hu => ?_⟩
    have hi2 : i < hi - lo := by
      have := (List.getElem?_eq_some_iff.1 hx).1
      rw [hll] at this
      exact this
    rw [List.getElem?_take_of_lt hi2, List.getElem?_drop] at hx
    have := hcell (lo + i) x hx j u hu
    rw [show off + lo * 2 + i * 2 + j = off + (lo + i) * 2 + j by omega]
    exact this
theorem run_cutH (a : Option Addr) (len cap hi : Nat) (h2 : hi ≤ cap) (w : World) : (Instr.slice 24 (.slice a len cap) none (some (.int .i64 (hi : Int))) (some (.int .i64 (hi : Int)))).run Try.prog w = .ok (cutP a 0 hi hi) w := by
  have hsz : (sizeOf (Try.prog.elem 24)).run Try.prog w = .ok 2 w := by kernel_rfl
  rw [run_slice_hm (P := Try.prog) (w := w) 24 a len cap (by rw [Try.underlying24]; kernel_rfl) .i64 .i64 hi hi (by omega) (by omega) (by omega), hsz]
  simp only [Result.andThen, sliced, Int.toNat_natCast, cutP]
end Go.Proofs.Ytjmjpmnjibdhhab
