/-
  Contract of container/heap's down, on a heap of tips.
-/
import Derived.Test.YtankibadiomkkaaTipMath
import Derived.Test.YtankibadiomkkaaTipLess
import Derived.Test.YtankibadiomkkaaTipSwap
namespace Go.Proofs.Ytankibadiomkkaa
set_option maxRecDepth 100000
open Go.ChangeShapes Go.WideShapes Go.ChangeAt Go.RowKit

/-- The heap as an interface value. -/
abbrev tpV (q : Nat) : Value := .iface 61 (.pointer (some ⟨q, 0, none⟩))
theorem nilLessY (q : Nat) (w : World) : (method 231 61 (.pointer (some ⟨q, 0, none⟩)) "Less").run Try.prog w = .ok (89, .pointer (some ⟨q, 0, none⟩)) w := by kernel_rfl
theorem nilSwapY (q : Nat) (w : World) : (method 231 61 (.pointer (some ⟨q, 0, none⟩)) "Swap").run Try.prog w = .ok (92, .pointer (some ⟨q, 0, none⟩)) w := by kernel_rfl
theorem nilLenY (q : Nat) (w : World) : (method 231 61 (.pointer (some ⟨q, 0, none⟩)) "Len").run Try.prog w = .ok (35, .pointer (some ⟨q, 0, none⟩)) w := by kernel_rfl
theorem nilPushY (q : Nat) (w : World) : (method 231 61 (.pointer (some ⟨q, 0, none⟩)) "Push").run Try.prog w = .ok (91, .pointer (some ⟨q, 0, none⟩)) w := by kernel_rfl
theorem nilPopY (q : Nat) (w : World) : (method 231 61 (.pointer (some ⟨q, 0, none⟩)) "Pop").run Try.prog w = .ok (90, .pointer (some ⟨q, 0, none⟩)) w := by kernel_rfl
/-- It answers a bool. -/
def RetY (e : Ending) : Prop := ∃ b, e = .returned (.bool b)
/-- What down leaves. -/
def DownY (w : World) (q : Nat) (hs : List Tp) (m n : Nat) (w' : World) : Prop := ∃ hs', TX w' q hs' ∧ hs'.Perm hs ∧ TpF hs' m n ∧ (∀ k, n ≤ k → hs'[k]? = hs[k]?) ∧ TK q w w'

set_option maxHeartbeats 4000000 in
set_option maxRecDepth 100000 in
theorem yDown_any (q : Nat) (hs : List Tp) (m n : Nat) (w : World) (h : TX w q hs) (hn : n ≤ hs.length) (hl : hs.length ≤ 5000) (hm : m ≤ 5000) (hp : TpF hs (m + 1) n) :
    Calls Try.prog 44 #[tpV q, .int .i64 m, .int .i64 n] w fun e w' => RetY e ∧ DownY w q hs m n w' := by
  unfold tpV
  have H0 : Hid (TX w q hs) := h
  have HP : Hid (TpF hs (m + 1) n) := hp
  have mL := nilLessY q
  have mS := nilSwapY q
  clear h hp
  go_enter Try.func44, Try.ntmps44
  go_wp2_with fail
  go_loopw [7] (fun u wr => ∃ (i : Nat) (hr : List Tp), u = .int .i64 i ∧ m ≤ i ∧ (i = m ∨ i < n) ∧ TX wr q hr ∧ hr.Perm hs ∧ TpD hr m n i ∧ (∀ k, n ≤ k → hr[k]? = hs[k]?) ∧ TK q w wr) (fun u _ => n - (intOf u).toNat)
  case atStart => exact ⟨m, hs, rfl, Nat.le_refl _, .inl rfl, H0.out, List.Perm.refl _, TpD.start HP.out, fun _ _ => rfl, TK.refl _ _⟩
  case round =>
    obtain ⟨i, hr, rfl, hmi, hin, hX, hpm, hD, hk, hK⟩ := hrel
    have HX' : Hid (TX wr q hr) := hX
    have HD : Hid (TpD hr m n i) := hD
    have HPM : Hid (hr.Perm hs) := hpm
    have HKK : Hid (∀ k, n ≤ k → hr[k]? = hs[k]?) := hk
    have HKW : Hid (TK q w wr) := hK
    have hrl1 : hr.length ≤ hs.length := Nat.le_of_eq hpm.length_eq
    have hrl2 : hs.length ≤ hr.length := Nat.le_of_eq hpm.length_eq.symm
    have hi5 : i ≤ 5000 := by omega
    have a1 : IntKind.i64.wrap (2 * (i : Int)) = 2 * (i : Int) := wrap_id64 (by omega) (by omega)
    obtain ⟨j1, ej1, ej3⟩ : ∃ j1, 2 * i + 1 ≤ j1 ∧ j1 < 2 * i + 2 := ⟨2 * i + 1, by omega, by omega⟩
    obtain ⟨j2, ej2, ej4⟩ : ∃ j2, 2 * i + 2 ≤ j2 ∧ j2 < 2 * i + 3 := ⟨2 * i + 2, by omega, by omega⟩
    have a2 : IntKind.i64.wrap (2 * (i : Int) + 1) = (j1 : Int) := by rw [wrap_id64 (by omega) (by omega)]; omega
    have a3 : IntKind.i64.wrap ((j1 : Int) + 1) = (j2 : Int) := by rw [wrap_id64 (by omega) (by omega)]; omega
    have a4 : ¬ (j1 : Int) < 0 := by omega
    clear hX hD hpm hk hK
    by_cases hj1 : j1 < n
    · have b1 : ¬ (j1 : Int) ≥ (n : Int) := by omega
      obtain ⟨x, hx⟩ := getX (es := hr) (i := i) (by omega)
      obtain ⟨y, hy⟩ := getX (es := hr) (i := j1) (by omega)
      by_cases hj2 : j2 < n
      · have b2 : (j2 : Int) < (n : Int) := by omega
        obtain ⟨z, hz⟩ := getX (es := hr) (i := j2) (by omega)
        have HL2 : Hid (∀ X, TX X q hr → Calls Try.prog 89 #[.pointer (some ⟨q, 0, none⟩), .int .i64 (j2 : Nat), .int .i64 (j1 : Nat)] X fun e w' => e = .returned (.bool (ltYb z y)) ∧ Below X.heap.size X w') := fun X hX => yLess_any q hr j2 j1 z y X hX hz hy
        go_wp2_with fail
        refine (HL2.out _ HX'.out).mono ?_
        rintro e w2 ⟨rfl, hb2⟩
        have HX2 : Hid (TX w2 q hr) := HX'.out.below hb2
        have HK2 : Hid (TK q w w2) := HKW.out.trans (TK.of hb2)
        clear hb2 HL2
        by_cases hzy : ltY z y
        · have et : ltYb z y = true := ltYb_true.2 hzy
          rw [et]
          have HC : Hid (∀ k u, 0 < k → k < n → (k - 1) / 2 = i → hr[k]? = some u → leY z u) := fun k u k0 k1 k2 hu => by
            by_cases e : k = j2
            · subst e
              rw [hz] at hu
              injection hu with hu
              subst hu
              exact leY_refl _
            · have : k = j1 := by omega
              subst this
              rw [hy] at hu
              injection hu with hu
              subst hu
              exact leY_of_lt hzy
          clear et hzy
          go_wp2_with fail
          have HL3 : Hid (∀ X, TX X q hr → Calls Try.prog 89 #[.pointer (some ⟨q, 0, none⟩), .int .i64 (j2 : Nat), .int .i64 (i : Nat)] X fun e w' => e = .returned (.bool (ltYb z x)) ∧ Below X.heap.size X w') := fun X hX => yLess_any q hr j2 i z x X hX hz hx
          refine (HL3.out _ HX2.out).mono ?_
          rintro e w3 ⟨rfl, hb3⟩
          have HX3 : Hid (TX w3 q hr) := HX2.out.below hb3
          have HK3 : Hid (TK q w w3) := HK2.out.trans (TK.of hb3)
          clear hb3 HL3
          by_cases hlt : ltY z x
          · have et : ltYb z x = true := ltYb_true.2 hlt
            rw [et]
            have HSW : Hid (∀ X, TX X q hr → Calls Try.prog 92 #[.pointer (some ⟨q, 0, none⟩), .int .i64 (i : Nat), .int .i64 (j2 : Nat)] X fun e w' => e = .returned (.tuple #[]) ∧ TX w' q ((hr.set i z).set j2 x) ∧ TK q X w') := fun X hX => ySwap_any q hr i j2 x z X hX hx hz
            have HND : Hid (TpD ((hr.set i z).set j2 x) m n j2) := HD.out.down hmi (by omega) (by omega) (by omega) hx hz hlt HC.out
            have HNP : Hid (((hr.set i z).set j2 x).Perm hs) := (swapY_perm hx hz).trans HPM.out
            have HNK : Hid (∀ k, n ≤ k → ((hr.set i z).set j2 x)[k]? = hs[k]?) := fun k hk => by
              rw [swapY_at hx hz, if_neg (by omega), if_neg (by omega)]
              exact HKK.out k hk
            clear et hlt
            generalize (hr.set i z).set j2 x = hr2 at *
            go_wp2_with fail
            refine (HSW.out _ HX3.out).mono ?_
            rintro e w4 ⟨rfl, hx4, hk4⟩
            have HX4 : Hid (TX w4 q hr2) := hx4
            have HK4 : Hid (TK q w w4) := HK3.out.trans hk4
            clear hx4 hk4 HSW
            go_wp2_with fail
            go_roundw
            case rel => exact ⟨j2, hr2, rfl, by omega, .inr (by omega), HX4.out, HNP.out, HND.out, HNK.out, HK4.out⟩
            case measure => simp [intOf]; omega
          · have et : ltYb z x = false := ltYb_false.2 hlt
            rw [et]
            have HFN : Hid (TpF hr m n) := HD.out.stop fun k u v k0 k1 k2 hu hv => by
              rw [hx] at hu
              injection hu with hu
              subst hu
              exact leY_trans (show leY x z from hlt) (HC.out k v k0 k1 k2 hv)
            clear et hlt
            go_wp2_with fail
            go_ret
            exact ⟨⟨_, rfl⟩, hr, HX3.out, HPM.out, HFN.out, HKK.out, HK3.out⟩
        · have et : ltYb z y = false := ltYb_false.2 hzy
          rw [et]
          have HC : Hid (∀ k u, 0 < k → k < n → (k - 1) / 2 = i → hr[k]? = some u → leY y u) := fun k u k0 k1 k2 hu => by
            by_cases e : k = j1
            · subst e
              rw [hy] at hu
              injection hu with hu
              subst hu
              exact leY_refl _
            · have : k = j2 := by omega
              subst this
              rw [hz] at hu
              injection hu with hu
              subst hu
              exact hzy
          clear et hzy
          go_wp2_with fail
          have HL3 : Hid (∀ X, TX X q hr → Calls Try.prog 89 #[.pointer (some ⟨q, 0, none⟩), .int .i64 (j1 : Nat), .int .i64 (i : Nat)] X fun e w' => e = .returned (.bool (ltYb y x)) ∧ Below X.heap.size X w') := fun X hX => yLess_any q hr j1 i y x X hX hy hx
          refine (HL3.out _ HX2.out).mono ?_
          rintro e w3 ⟨rfl, hb3⟩
          have HX3 : Hid (TX w3 q hr) := HX2.out.below hb3
          have HK3 : Hid (TK q w w3) := HK2.out.trans (TK.of hb3)
          clear hb3 HL3
          by_cases hlt : ltY y x
          · have et : ltYb y x = true := ltYb_true.2 hlt
            rw [et]
            have HSW : Hid (∀ X, TX X q hr → Calls Try.prog 92 #[.pointer (some ⟨q, 0, none⟩), .int .i64 (i : Nat), .int .i64 (j1 : Nat)] X fun e w' => e = .returned (.tuple #[]) ∧ TX w' q ((hr.set i y).set j1 x) ∧ TK q X w') := fun X hX => ySwap_any q hr i j1 x y X hX hx hy
            have HND : Hid (TpD ((hr.set i y).set j1 x) m n j1) := HD.out.down hmi (by omega) (by omega) (by omega) hx hy hlt HC.out
            have HNP : Hid (((hr.set i y).set j1 x).Perm hs) := (swapY_perm hx hy).trans HPM.out
            have HNK : Hid (∀ k, n ≤ k → ((hr.set i y).set j1 x)[k]? = hs[k]?) := fun k hk => by
              rw [swapY_at hx hy, if_neg (by omega), if_neg (by omega)]
              exact HKK.out k hk
            clear et hlt
            generalize (hr.set i y).set j1 x = hr2 at *
            go_wp2_with fail
            refine (HSW.out _ HX3.out).mono ?_
            rintro e w4 ⟨rfl, hx4, hk4⟩
            have HX4 : Hid (TX w4 q hr2) := hx4
            have HK4 : Hid (TK q w w4) := HK3.out.trans hk4
            clear hx4 hk4 HSW
            go_wp2_with fail
            go_roundw
            case rel => exact ⟨j1, hr2, rfl, by omega, .inr (by omega), HX4.out, HNP.out, HND.out, HNK.out, HK4.out⟩
            case measure => simp [intOf]; omega
          · have et : ltYb y x = false := ltYb_false.2 hlt
            rw [et]
            have HFN : Hid (TpF hr m n) := HD.out.stop fun k u v k0 k1 k2 hu hv => by
              rw [hx] at hu
              injection hu with hu
              subst hu
              exact leY_trans (show leY x y from hlt) (HC.out k v k0 k1 k2 hv)
            clear et hlt
            go_wp2_with fail
            go_ret
            exact ⟨⟨_, rfl⟩, hr, HX3.out, HPM.out, HFN.out, HKK.out, HK3.out⟩
      · have b2 : ¬ (j2 : Int) < (n : Int) := by omega
        have HC : Hid (∀ k u, 0 < k → k < n → (k - 1) / 2 = i → hr[k]? = some u → leY y u) := fun k u k0 k1 k2 hu => by
          have : k = j1 := by omega
          subst this
          rw [hy] at hu
          injection hu with hu
          subst hu
          exact leY_refl _
        go_wp2_with fail
        have HL3 : Hid (∀ X, TX X q hr → Calls Try.prog 89 #[.pointer (some ⟨q, 0, none⟩), .int .i64 (j1 : Nat), .int .i64 (i : Nat)] X fun e w' => e = .returned (.bool (ltYb y x)) ∧ Below X.heap.size X w') := fun X hX => yLess_any q hr j1 i y x X hX hy hx
        refine (HL3.out _ HX'.out).mono ?_
        rintro e w3 ⟨rfl, hb3⟩
        have HX3 : Hid (TX w3 q hr) := HX'.out.below hb3
        have HK3 : Hid (TK q w w3) := HKW.out.trans (TK.of hb3)
        clear hb3 HL3
        by_cases hlt : ltY y x
        · have et : ltYb y x = true := ltYb_true.2 hlt
          rw [et]
          have HSW : Hid (∀ X, TX X q hr → Calls Try.prog 92 #[.pointer (some ⟨q, 0, none⟩), .int .i64 (i : Nat), .int .i64 (j1 : Nat)] X fun e w' => e = .returned (.tuple #[]) ∧ TX w' q ((hr.set i y).set j1 x) ∧ TK q X w') := fun X hX => ySwap_any q hr i j1 x y X hX hx hy
          have HND : Hid (TpD ((hr.set i y).set j1 x) m n j1) := HD.out.down hmi (by omega) (by omega) (by omega) hx hy hlt HC.out
          have HNP : Hid (((hr.set i y).set j1 x).Perm hs) := (swapY_perm hx hy).trans HPM.out
          have HNK : Hid (∀ k, n ≤ k → ((hr.set i y).set j1 x)[k]? = hs[k]?) := fun k hk => by
            rw [swapY_at hx hy, if_neg (by omega), if_neg (by omega)]
            exact HKK.out k hk
          clear et hlt
          generalize (hr.set i y).set j1 x = hr2 at *
          go_wp2_with fail
          refine (HSW.out _ HX3.out).mono ?_
          rintro e w4 ⟨rfl, hx4, hk4⟩
          have HX4 : Hid (TX w4 q hr2) := hx4
          have HK4 : Hid (TK q w w4) := HK3.out.trans hk4
          clear hx4 hk4 HSW
          go_wp2_with fail
          go_roundw
          case rel => exact ⟨j1, hr2, rfl, by omega, .inr (by omega), HX4.out, HNP.out, HND.out, HNK.out, HK4.out⟩
          case measure => simp [intOf]; omega
        · have et : ltYb y x = false := ltYb_false.2 hlt
          rw [et]
          have HFN : Hid (TpF hr m n) := HD.out.stop fun k u v k0 k1 k2 hu hv => by
            rw [hx] at hu
            injection hu with hu
            subst hu
            exact leY_trans (show leY x y from hlt) (HC.out k v k0 k1 k2 hv)
          clear et hlt
          go_wp2_with fail
          go_ret
          exact ⟨⟨_, rfl⟩, hr, HX3.out, HPM.out, HFN.out, HKK.out, HK3.out⟩
    · have b1 : (j1 : Int) ≥ (n : Int) := by omega
      have HFN : Hid (TpF hr m n) := HD.out.stop fun k u v k0 k1 k2 hu hv => by omega
      go_wp2_with fail
      go_ret
      exact ⟨⟨_, rfl⟩, hr, HX'.out, HPM.out, HFN.out, HKK.out, HKW.out⟩
end Go.Proofs.Ytankibadiomkkaa
