/-
  Contracts of the law's own sameList and sameQueue: what reads alike.
-/
import Derived.Test.YtihghhmhgakkaaaQueueMem
import Derived.Test.YtihghhmhgakkaaaMailSame
import Derived.Deep.QuietTactic
import Derived.BigQuiet
import Derived.Lib.QuietBelow
namespace Go.Proofs.Ytihghhmhgakkaaa
set_option maxRecDepth 100000
open Go.ChangeShapes Go.WideShapes Go.ChangeAt Go.RowKit

set_option maxHeartbeats 1000000 in
set_option maxRecDepth 100000 in
theorem sameList_yes (va vb : Value) (f : List (List Int)) (w : World) (ha : BsR w va f) (hb : BsR w vb f) (hby : ∀ l ∈ f, ∀ x ∈ l, 0 ≤ x ∧ x ≤ 255) :
    Calls Try.prog 35 #[va, vb] w fun e w' => e = .returned (.bool true) ∧ Below w.heap.size w w' := by
  have HA : Hid (BsR w va f) := ha
  have HB : Hid (BsR w vb f) := hb
  have HY : Hid (∀ l ∈ f, ∀ x ∈ l, 0 ≤ x ∧ x ≤ 255) := hby
  obtain ⟨a, ca, rfl, hca, hma, _⟩ := ha
  obtain ⟨b, cb, rfl, hcb, hmb, _⟩ := hb
  unfold maxLen at hma hmb
  have hll : ((f.length : Int) != (f.length : Int)) = false := by simp
  clear hby
  go_enter Try.func35, Try.ntmps35
  go_wp2_with fail
  go_loopw [5] (fun i wr => ∃ k : Nat, k ≤ f.length ∧ i = .int .i64 k ∧ Below w.heap.size w wr) (fun i _ => f.length - (intOf i).toNat)
  case atStart => exact ⟨0, by omega, rfl, Below.refl _ _⟩
  case round =>
    obtain ⟨k, hk, rfl, hbel⟩ := hrel
    have HBL : Hid (Below w.heap.size w wr) := hbel
    have hsr := hbel.size
    clear hbel
    by_cases hlt : k < f.length
    · obtain ⟨xa, oa, cap', e1, la, _, _, hva⟩ := (HA.out.below HBL.out (Nat.le_refl _)).at (by omega)
      injection e1 with e1 e2 e3
      subst e1 e3
      clear e2
      obtain ⟨xb, ob, cap', e1, lb, _, _, hvb⟩ := (HB.out.below HBL.out (Nat.le_refl _)).at (by omega)
      injection e1 with e1 e2 e3
      subst e1 e3
      clear e2
      obtain ⟨l, hl⟩ := getX hlt
      obtain ⟨u, hu, hur⟩ := hva k l hl
      obtain ⟨t, ht, htr⟩ := hvb k l hl
      have UR : Hid (Reads .u8 wr u l) := hur
      have TR : Hid (Reads .u8 wr t l) := htr
      have BY : Hid (∀ x ∈ l, 0 ≤ x ∧ x ≤ 255) := HY.out l (List.mem_of_getElem? hl)
      obtain ⟨ua, uc, rfl, _⟩ := id hur
      obtain ⟨ta, tc, rfl, _⟩ := id htr
      have p0 : (0 : Int) ≤ (k : Int) := by omega
      have p1 : (k : Int) < (f.length : Int) := by omega
      clear hva hvb hl hur htr
      go_wp2_with fail
      go_quiet ((go_at_call 49; exact Calls.quiet_of_same (sameBytes_any _ _ l l _ UR.out TR.out BY.out BY.out)))
      go_wp2_with fail
      go_roundw
      case rel => exact ⟨k + 1, by omega, by go_num, below_drewN HBL.out _⟩
      case measure => simp [intOf]; omega
    · go_wp2_with fail
      go_ret
      exact ⟨rfl, HBL.out⟩

set_option maxHeartbeats 1000000 in
set_option maxRecDepth 100000 in
theorem sameQueue_yes (n : Int) (vl vr xl xr : Value) (lo : List Ml) (rs : List (List Int)) (w : World) (ha : QuR w vl vr lo rs) (hb : QuR w xl xr lo rs) (hby : ∀ l ∈ rs, ∀ x ∈ l, 0 ≤ x ∧ x ≤ 255) :
    Calls Try.prog 12 #[.agg #[.int .i64 n, vl, vr], .agg #[.int .i64 n, xl, xr]] w fun e w' => e = .returned (.bool true) ∧ Below w.heap.size w w' := by
  have HA : Hid (QuR w vl vr lo rs) := ha
  have HB : Hid (QuR w xl xr lo rs) := hb
  have HY : Hid (∀ l ∈ rs, ∀ x ∈ l, 0 ≤ x ∧ x ≤ 255) := hby
  obtain ⟨a1, c1, rfl⟩ := ha.1.shape
  obtain ⟨a2, c2, rfl, _⟩ := id ha.2
  obtain ⟨a3, c3, rfl⟩ := hb.1.shape
  obtain ⟨a4, c4, rfl, _⟩ := id hb.2
  clear ha hb hby
  have hnn : (n == n) = true := by simp
  go_enter Try.func12, Try.ntmps12
  go_wp2_with fail
  have B0 : Below (w.heap.size + 2) ((w.alloc (.cells #[.int .i64 n, .slice a1 lo.length c1, .slice a2 rs.length c2] 25)).alloc (.cells #[.int .i64 n, .slice a3 lo.length c3, .slice a4 rs.length c4] 25)) ((w.alloc (.cells #[.int .i64 n, .slice a1 lo.length c1, .slice a2 rs.length c2] 25)).alloc (.cells #[.int .i64 n, .slice a3 lo.length c3, .slice a4 rs.length c4] 25)) := Below.refl _ _
  refine (sameMails_yes _ _ lo _ (HA.out.1.below (below_two B0) (Nat.le_refl _)) (HB.out.1.below (below_two B0) (Nat.le_refl _))).mono ?_
  rintro e w1 ⟨rfl, hb1⟩
  have hb1' : Below (w.heap.size + 2) ((w.alloc (.cells #[.int .i64 n, .slice a1 lo.length c1, .slice a2 rs.length c2] 25)).alloc (.cells #[.int .i64 n, .slice a3 lo.length c3, .slice a4 rs.length c4] 25)) w1 := by simpa using hb1
  have B1 : Hid (Below w.heap.size w w1) := below_two hb1'
  have hs1 := B1.out.size
  have Q1 : QX w1 w.heap.size (.int .i64 n) (.slice a1 lo.length c1) (.slice a2 rs.length c2) := ((QX.new w (.int .i64 n) (.slice a1 lo.length c1) (.slice a2 rs.length c2)).below (below_alloc _ _) (by simp)).below hb1' (by omega)
  have Q2 : QX w1 (w.heap.size + 1) (.int .i64 n) (.slice a3 lo.length c3) (.slice a4 rs.length c4) := by
    have h := QX.new (w.alloc (.cells #[.int .i64 n, .slice a1 lo.length c1, .slice a2 rs.length c2] 25)) (.int .i64 n) (.slice a3 lo.length c3) (.slice a4 rs.length c4)
    rw [show (w.alloc (.cells #[.int .i64 n, .slice a1 lo.length c1, .slice a2 rs.length c2] 25)).heap.size = w.heap.size + 1 by simp] at h
    exact h.below hb1' (by omega)
  obtain ⟨_, _, g2⟩ := Q1.cells
  obtain ⟨_, _, g4⟩ := Q2.cells
  clear hb1 hb1' B0 Q1 Q2
  go_wp2_with fail
  refine (sameList_yes _ _ rs _ (HA.out.2.below B1.out (Nat.le_refl _)) (HB.out.2.below B1.out (Nat.le_refl _)) HY.out).mono ?_
  rintro e w2 ⟨rfl, hb2⟩
  have B2 : Hid (Below w.heap.size w w2) := B1.out.trans (hb2.mono hs1)
  clear hb2
  go_wp2_with fail
  go_ret
  exact ⟨rfl, B2.out⟩
end Go.Proofs.Ytihghhmhgakkaaa
