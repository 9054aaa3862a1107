/-
  Contracts of the law's own moves (a copy) and sameMoves (of moves that read alike).
-/
import Derived.Test.YtdeghndcglgfkaaDoorPlayMem
import Derived.Deep.QuietTactic
import Derived.BigQuiet
namespace Go.Proofs.YtdeghndcglgfkaaDoor
set_option maxRecDepth 100000
open Go.ChangeShapes Go.WideShapes Go.ChangeAt Go.RowKit
attribute [local go_sem ↓] exec_append

set_option maxHeartbeats 1000000 in
theorem moves_any (v : Value) (l : List Mv) (w : World) (h : EdR w v l) (hl : l.length * 24 ≤ 140737488351232) :
    Calls Tryd.prog 7 #[v] w fun e w' => ∃ v', e = .returned v' ∧ EdR w' v' l ∧ Below w.heap.size w w' := by
  have HR : Hid (EdR w v l) := h
  obtain ⟨a, cap, rfl, hc, hm, _, _⟩ := h
  unfold maxLen at hm
  obtain ⟨v', w', a1, a2, a3, hown, hbel, _⟩ := app_rowK kMv 22 w.heap.size (.slice none 0 0) ([] : List Mv) (World.ownsRow_nil _ _ _ _) _ l HR.out (by simp [kMv]; omega) (by unfold maxLen; simp; omega) (Nat.le_refl _)
  have OW : Hid (EdR w' v' l) := RowK.own encE_len (by simpa [kMv] using hown)
  have HB : Hid (Below w.heap.size w w') := hbel
  unfold kMv at a1 a2 a3
  simp only at a1 a2 a3
  clear hown hbel
  go_enter Tryd.func7, Tryd.ntmps7
  go_wp2_with fail
  go_ret
  exact ⟨_, rfl, OW.out, HB.out⟩

set_option maxHeartbeats 1000000 in
set_option maxRecDepth 100000 in
theorem sameMoves_yes (va vb : Value) (l : List Mv) (w : World) (ha : EdR w va l) (hb : EdR w vb l) :
    Calls Tryd.prog 10 #[va, vb] w fun e w' => e = .returned (.bool true) ∧ Below w.heap.size w w' := by
  have HA : Hid (EdR w va l) := ha
  have HB : Hid (EdR w vb l) := hb
  obtain ⟨a, ca, rfl, hca, hma, _, _⟩ := ha
  obtain ⟨b, cb, rfl, hcb, hmb, _, _⟩ := hb
  unfold maxLen at hma hmb
  have hll : ((l.length : Int) != (l.length : Int)) = false := by simp
  go_enter Tryd.func10, Tryd.ntmps10
  go_wp2_with fail
  go_loopw [5] (fun i wr => ∃ k : Nat, k ≤ l.length ∧ i = .int .i64 k ∧ Below w.heap.size w wr) (fun i _ => l.length - (intOf i).toNat)
  case atStart => exact ⟨0, by omega, rfl, Below.refl _ _⟩
  case round =>
    obtain ⟨k, hk, rfl, hbel⟩ := hrel
    have HBL : Hid (Below w.heap.size w wr) := hbel
    clear hbel
    by_cases hlt : k < l.length
    · obtain ⟨xa, oa, cap', e1, _, _, la, hva⟩ := EdR.at (HA.out.below HBL.out (Nat.le_refl _)) (by omega)
      injection e1 with e1 _ e3
      subst e1 e3
      obtain ⟨xb, ob, cap', e1, _, _, lb, hvb⟩ := EdR.at (HB.out.below HBL.out (Nat.le_refl _)) (by omega)
      injection e1 with e1 _ e3
      subst e1 e3
      obtain ⟨x, hx⟩ := getE hlt
      obtain ⟨c1, c2, c3⟩ := hva k x hx
      obtain ⟨d1, d2, d3⟩ := hvb k x hx
      obtain ⟨xf, xt, xc⟩ := x
      simp only at c1 c2 c3 d1 d2 d3
      have p0 : (0 : Int) ≤ (k : Int) := by omega
      have p1 : (k : Int) < (l.length : Int) := by omega
      clear hva hvb hx
      go_wp2_with fail
      go_quiet (fail)
      go_wp2_with fail
      go_roundw
      case rel => exact ⟨k + 1, by omega, by go_num, below_drewN HBL.out _⟩
      case measure => simp [intOf]; omega
    · go_wp2_with fail
      go_ret
      exact ⟨rfl, HBL.out⟩
end Go.Proofs.YtdeghndcglgfkaaDoor
