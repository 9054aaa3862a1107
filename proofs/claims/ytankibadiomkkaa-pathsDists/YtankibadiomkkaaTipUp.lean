/-
  Contract of container/heap's up, on a heap of tips.
-/
import Derived.Test.YtankibadiomkkaaTipDown
namespace Go.Proofs.Ytankibadiomkkaa
set_option maxRecDepth 100000
open Go.ChangeShapes Go.WideShapes Go.ChangeAt Go.RowKit

/-- What up leaves. -/
def UpY (w : World) (q : Nat) (hs : List Tp) (w' : World) : Prop := ∃ hs', TX w' q hs' ∧ hs'.Perm hs ∧ TpF hs' 0 hs'.length ∧ TK q w w'

set_option maxHeartbeats 4000000 in
set_option maxRecDepth 100000 in
theorem yUp_any (q : Nat) (hs : List Tp) (j : Nat) (w : World) (h : TX w q hs) (hj : j < hs.length) (hl : hs.length ≤ 6000) (hp : TpU hs hs.length j) :
    Calls Try.prog 45 #[tpV q, .int .i64 j] w fun e w' => e = .returned (.tuple #[]) ∧ UpY w q hs w' := by
  unfold tpV
  have H0 : Hid (TX w q hs) := h
  have HP : Hid (TpU hs hs.length j) := hp
  have mL := nilLessY q
  have mS := nilSwapY q
  obtain ⟨N, hN⟩ : ∃ N, N = hs.length := ⟨_, rfl⟩
  have HN : Hid (N = hs.length) := hN
  have hl2 : N ≤ 6000 := by omega
  have hj2 : j < N := by omega
  clear h hp hN hl hj
  go_enter Try.func45, Try.ntmps45
  go_wp2_with fail
  go_loopw [1] (fun u wr => ∃ (i : Nat) (hr : List Tp), u = .int .i64 i ∧ i < N ∧ TX wr q hr ∧ hr.Perm hs ∧ TpU hr N i ∧ TK q w wr) (fun u _ => (intOf u).toNat)
  case atStart => exact ⟨j, hs, rfl, hj2, H0.out, List.Perm.refl _, by rw [HN.out]; exact HP.out, TK.refl _ _⟩
  case round =>
    obtain ⟨k, hr, rfl, hk, hX, hpm, hU, hK⟩ := hrel
    have HX' : Hid (TX wr q hr) := hX
    have HU : Hid (TpU hr N k) := hU
    have HPM : Hid (hr.Perm hs) := hpm
    have HKW : Hid (TK q w wr) := hK
    have hrl1 : hr.length ≤ N := by rw [HN.out]; exact Nat.le_of_eq hpm.length_eq
    have hrl2 : N ≤ hr.length := by rw [HN.out]; exact Nat.le_of_eq hpm.length_eq.symm
    have HRL : Hid (N = hr.length) := by show _ = _; omega
    clear hX hU hpm hK
    by_cases h0 : k = 0
    · subst h0
      have HFN : Hid (TpF hr 0 hr.length) := by
        show TpF hr 0 hr.length
        rw [← HRL.out]
        exact HU.out.stop fun p x y h => by omega
      clear hrl1 hrl2
      go_wp2_with fail
      go_end0
      exact ⟨rfl, hr, HX'.out, HPM.out, HFN.out, HKW.out⟩
    · obtain ⟨i, ei1, ei2⟩ : ∃ i, 2 * i + 1 ≤ k ∧ k ≤ 2 * i + 2 := ⟨(k - 1) / 2, by omega, by omega⟩
      have a1 : IntKind.i64.wrap ((k : Int) - 1) = (k : Int) - 1 := wrap_id64 (by omega) (by omega)
      have a2 : Int.tdiv ((k : Int) - 1) 2 = (i : Int) := by rw [Int.tdiv_eq_ediv_of_nonneg (by omega)]; omega
      have a3 : IntKind.i64.wrap (i : Int) = (i : Int) := wrap_id64 (by omega) (by omega)
      have a4 : ((i : Int) == (k : Int)) = false := by simp; omega
      obtain ⟨x, hx⟩ := getX (es := hr) (i := i) (by omega)
      obtain ⟨y, hy⟩ := getX (es := hr) (i := k) (by omega)
      have HL3 : Hid (∀ X, TX X q hr → Calls Try.prog 89 #[.pointer (some ⟨q, 0, none⟩), .int .i64 (k : Nat), .int .i64 (i : Nat)] X fun e w' => e = .returned (.bool (ltYb y x)) ∧ Below X.heap.size X w') := fun X hX => yLess_any q hr k i y x X hX hy hx
      have HSW : Hid (∀ X, TX X q hr → Calls Try.prog 92 #[.pointer (some ⟨q, 0, none⟩), .int .i64 (i : Nat), .int .i64 (k : Nat)] X fun e w' => e = .returned (.tuple #[]) ∧ TX w' q ((hr.set i y).set k x) ∧ TK q X w') := fun X hX => ySwap_any q hr i k x y X hX hx hy
      have HNP : Hid (((hr.set i y).set k x).Perm hs) := (swapY_perm hx hy).trans HPM.out
      have HND : Hid (ltY y x → TpU ((hr.set i y).set k x) N i) := fun hlt => HU.out.up (by omega) (by omega) hx hy hlt hk
      have HST : Hid (¬ ltY y x → TpF hr 0 hr.length) := fun hlt => by
        rw [← HRL.out]
        refine HU.out.stop fun p u v k0 k1 hu hv => ?_
        have : p = i := by omega
        subst this
        rw [hx] at hu
        rw [hy] at hv
        injection hu with hu
        injection hv with hv
        subst hu hv
        exact hlt
      clear hrl1 hrl2 hx hy
      generalize (hr.set i y).set k x = hr2 at *
      go_wp2_with fail
      refine (HL3.out _ HX'.out).mono ?_
      rintro e w3 ⟨rfl, hb3⟩
      have HX3 : Hid (TX w3 q hr) := HX'.out.below hb3
      have HK3 : Hid (TK q w w3) := HKW.out.trans (TK.of hb3)
      clear hb3 HL3
      by_cases hlt : ltY y x
      · have et : ltYb y x = true := ltYb_true.2 hlt
        rw [et]
        have HN2 : Hid (TpU hr2 N i) := HND.out hlt
        clear et hlt
        go_wp2_with fail
        refine (HSW.out _ HX3.out).mono ?_
        rintro e w4 ⟨rfl, hx4, hk4⟩
        have HX4 : Hid (TX w4 q hr2) := hx4
        have HK4 : Hid (TK q w w4) := HK3.out.trans hk4
        clear hx4 hk4 HSW
        go_wp2_with fail
        go_roundw
        case rel => exact ⟨i, hr2, rfl, by omega, HX4.out, HNP.out, HN2.out, HK4.out⟩
        case measure => simp [intOf]; omega
      · have et : ltYb y x = false := ltYb_false.2 hlt
        rw [et]
        have HFN : Hid (TpF hr 0 hr.length) := HST.out hlt
        clear et hlt
        go_wp2_with fail
        go_end0
        exact ⟨rfl, hr, HX3.out, HPM.out, HFN.out, HK3.out⟩
end Go.Proofs.Ytankibadiomkkaa
