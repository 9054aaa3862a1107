/-
  Contract of the law's own sameInts, of lists that read alike.
-/
import Derived.Test.YtpikfiegmnmbmaaRowCore
import Derived.Deep.QuietTactic
import Derived.BigQuiet
namespace Go.Proofs.Ytpikfiegmnmbmaa
set_option maxRecDepth 100000
open Go.ChangeShapes Go.WideShapes Go.ChangeAt Go.RowKit

set_option maxHeartbeats 1000000 in
set_option maxRecDepth 100000 in
theorem sameInts_yes (va vb : Value) (es : List Int) (w : World) (ha : InR w va es) (hb : InR w vb es) :
    Calls Try.prog 31 #[va, vb] w fun e w' => e = .returned (.bool true) ∧ Below w.heap.size w w' := by
  have HA : Hid (InR w va es) := ha
  have HB : Hid (InR w vb es) := hb
  obtain ⟨a, ca, rfl, hca, hma, _, _⟩ := ha
  obtain ⟨b, cb, rfl, hcb, hmb, _, _⟩ := hb
  unfold maxLen at hma hmb
  have hll : ((es.length : Int) != (es.length : Int)) = false := by simp
  go_enter Try.func31, Try.ntmps31
  go_wp2_with fail
  go_loopw [5] (fun i wr => ∃ k : Nat, k ≤ es.length ∧ i = .int .i64 k ∧ Below w.heap.size w wr) (fun i _ => es.length - (intOf i).toNat)
  case atStart => exact ⟨0, by omega, rfl, Below.refl _ _⟩
  case round =>
    obtain ⟨k, hk, rfl, hbel⟩ := hrel
    have HBL : Hid (Below w.heap.size w wr) := hbel
    clear hbel
    by_cases hlt : k < es.length
    · obtain ⟨xa, oa, cap', e1, _, _, la, hva⟩ := InR.at (HA.out.below HBL.out (Nat.le_refl _)) (by omega)
      injection e1 with e1 _ e3
      subst e1 e3
      obtain ⟨xb, ob, cap', e1, _, _, lb, hvb⟩ := InR.at (HB.out.below HBL.out (Nat.le_refl _)) (by omega)
      injection e1 with e1 _ e3
      subst e1 e3
      obtain ⟨x, hx⟩ := getX hlt
      have p0 : (0 : Int) ≤ (k : Int) := by omega
      have p1 : (k : Int) < (es.length : Int) := by omega
      have c1 := hva k x hx
      have d1 := hvb k x hx
      have hxx : (x != x) = false := by simp
      clear hva hvb hx
      go_wp2_with fail
      go_quiet (fail)
      go_wp2_with fail
      go_roundw
      case rel => exact ⟨k + 1, by omega, by go_num, below_drewN HBL.out _⟩
      case measure => simp [intOf]; omega
    · go_wp2_with fail
      go_ret
      exact ⟨rfl, HBL.out⟩
end Go.Proofs.Ytpikfiegmnmbmaa
