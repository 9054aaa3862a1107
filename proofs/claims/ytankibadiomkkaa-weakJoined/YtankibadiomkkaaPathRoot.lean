/-
  Contracts of paths.rootIn, its closure, joined and rootsOf.
-/
import Derived.Test.YtankibadiomkkaaRootMath
import Derived.Test.YtankibadiomkkaaRowMem
import Derived.Test.YtankibadiomkkaaNumsMake
import Derived.Test.YtankibadiomkkaaIntRow
import Derived.Test.YtankibadiomkkaaBoxMem
import Derived.Deep.LoopGhost
import Derived.Deep.CutRange
import Derived.BigQuiet
namespace Go.Proofs.Ytankibadiomkkaa
set_option maxRecDepth 100000
open Go.ChangeShapes Go.WideShapes Go.ChangeAt Go.RowKit

/-- The closure that tells a vertex's root; the slice of what stands above each lies in the block q. -/
def rtF (q : Nat) : Value := .func (.func 48) #[] #[.pointer (some ⟨q, 0, none⟩)]

set_option maxHeartbeats 400000 in
theorem rootIn_any (a : Option Addr) (k c : Nat) (w : World) :
    Calls Try.prog 41 #[.slice a k c] w fun e w' => e = .returned (rtF w.heap.size) ∧ w' = w.alloc (.cells #[.slice a k c] 26) := by
  have hmf := makeFunc_run
  go_enter Try.func41, Try.ntmps41
  go_wp2
  go_ret
  exact ⟨rfl, rfl⟩

theorem atD_some {l : List Int} {n : Nat} {v : Int} (hl : l.length = n) (hv : 0 ≤ v ∧ v < (n : Int)) : l[v.toNat]? = some (atD l v) := by
  have h : v.toNat < l.length := by omega
  unfold atD
  rw [List.getD_eq_getElem?_getD, List.getElem?_eq_getElem h]
  rfl

set_option maxHeartbeats 1000000 in
set_option maxRecDepth 100000 in
theorem root_any (q g n : Nat) (es : List Ed) (P : List Int) (i : Int) (w : World) (hq : w.cell? ⟨q, 0, none⟩ = some (.slice (some ⟨g, 0, none⟩) n n))
    (hc : ∀ j x, P[j]? = some x → w.cell? ⟨g, j, none⟩ = some (.int .i64 x)) (hU : UfI n es P) (hi : 0 ≤ i ∧ i < (n : Int)) :
    Calls Try.prog 48 #[.int .i64 i, .pointer (some ⟨q, 0, none⟩)] w fun e w' => e = .returned (.int .i64 (root P i)) ∧ w' = w := by
  have HC : Hid (∀ j x, P[j]? = some x → w.cell? ⟨g, j, none⟩ = some (.int .i64 x)) := hc
  have HU : Hid (UfI n es P) := hU
  obtain ⟨i0, rfl⟩ : ∃ j : Nat, i = j := ⟨i.toNat, by omega⟩
  have hi0 : i0 < n := by omega
  obtain ⟨R, hR⟩ : ∃ R, R = root P (i0 : Int) := ⟨_, rfl⟩
  rw [← hR]
  have HRR : Hid (R = root P (i0 : Int)) := hR
  clear hc hU hR hi
  go_enter Try.func48, Try.ntmps48
  go_wp2_with fail
  go_loopw [0] (fun u wr => ∃ k : Nat, k < n ∧ u = .int .i64 k ∧ root P (k : Int) = R ∧ wr = w) (fun u _ => (intOf u).toNat)
  case atStart => exact ⟨i0, hi0, rfl, HRR.out.symm, rfl⟩
  case round =>
    obtain ⟨k, hk, rfl, hr, hw⟩ := hrel
    replace hw := hw.symm
    subst hw
    have HRK : Hid (root P (k : Int) = R) := hr
    clear hr
    have hkn : 0 ≤ (k : Int) ∧ (k : Int) < (n : Int) := by omega
    have hU := (HU.out.2 (k : Int) hkn).1
    obtain ⟨j, hj⟩ : ∃ j : Nat, atD P (k : Int) = j := ⟨(atD P (k : Int)).toNat, by omega⟩
    have hg := atD_some HU.out.1 hkn
    rw [hj, Int.toNat_natCast] at hg
    have c0 := HC.out k _ hg
    have HNX : Hid (root P (j : Int) = R) := by
      show _ = _
      rw [← hj, root_next HU.out hkn]; exact HRK.out
    have hjk : j ≤ k := by omega
    have p0 : (0 : Int) ≤ (k : Int) := by omega
    have p1 : (k : Int) < (n : Int) := by omega
    by_cases e : j = k
    · subst e
      have HE : Hid (R = (j : Int)) := by
        show _ = _
        rw [← HRK.out, root_self hj]
      have t0 : ((j : Int) != (j : Int)) = false := by simp
      clear hU hj hg hkn
      go_wp2_with fail
      go_ret
      exact ⟨by rw [HE.out]; rfl, rfl⟩
    · have t0 : ((j : Int) != (k : Int)) = true := by simp; omega
      clear hU hj hg hkn
      go_wp2_with fail
      go_roundw
      case rel => exact ⟨j, by omega, rfl, HNX.out, trivial⟩
      case measure => simp [intOf]; omega
end Go.Proofs.Ytankibadiomkkaa
