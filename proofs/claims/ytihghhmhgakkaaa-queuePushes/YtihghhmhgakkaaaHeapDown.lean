/-
  Contract of container/heap's down, on a heap of heads.
-/
import Derived.Test.YtihghhmhgakkaaaHeapMath
import Derived.Test.YtihghhmhgakkaaaHeapLess
import Derived.Test.YtihghhmhgakkaaaHeapSwap
namespace Go.Proofs.Ytihghhmhgakkaaa
set_option maxRecDepth 100000
open Go.ChangeShapes Go.WideShapes Go.ChangeAt Go.RowKit

/-- The heap as an interface value. -/
abbrev hpV (q : Nat) : Value := .iface 93 (.pointer (some ⟨q, 0, none⟩))
theorem nilLess (q : Nat) (w : World) : (method 250 93 (.pointer (some ⟨q, 0, none⟩)) "Less").run Try.prog w = .ok (118, .pointer (some ⟨q, 0, none⟩)) w := by kernel_rfl
theorem nilSwap (q : Nat) (w : World) : (method 250 93 (.pointer (some ⟨q, 0, none⟩)) "Swap").run Try.prog w = .ok (120, .pointer (some ⟨q, 0, none⟩)) w := by kernel_rfl
theorem nilLen (q : Nat) (w : World) : (method 250 93 (.pointer (some ⟨q, 0, none⟩)) "Len").run Try.prog w = .ok (72, .pointer (some ⟨q, 0, none⟩)) w := by kernel_rfl
theorem nilPush (q : Nat) (w : World) : (method 250 93 (.pointer (some ⟨q, 0, none⟩)) "Push").run Try.prog w = .ok (69, .pointer (some ⟨q, 0, none⟩)) w := by kernel_rfl
theorem nilPop (q : Nat) (w : World) : (method 250 93 (.pointer (some ⟨q, 0, none⟩)) "Pop").run Try.prog w = .ok (119, .pointer (some ⟨q, 0, none⟩)) w := by kernel_rfl
/-- It answers a bool. -/
def RetB (e : Ending) : Prop := ∃ b, e = .returned (.bool b)
/-- What down leaves. -/
def DownP (w : World) (q : Nat) (hs : List Hd) (m n : Nat) (w' : World) : Prop := ∃ hs', HX w' q hs' ∧ hs'.Perm hs ∧ HpF hs' m n ∧ (∀ k, n ≤ k → hs'[k]? = hs[k]?) ∧ HK q w w'

set_option maxHeartbeats 4000000 in
set_option maxRecDepth 100000 in
theorem down_any (q : Nat) (hs : List Hd) (m n : Nat) (w : World) (h : HX w q hs) (hn : n ≤ hs.length) (hl : hs.length ≤ 5000) (hm : m ≤ 5000) (hp : HpF hs (m + 1) n) :
    Calls Try.prog 91 #[hpV q, .int .i64 m, .int .i64 n] w fun e w' => RetB e ∧ DownP w q hs m n w' := by
  unfold hpV
  have H0 : Hid (HX w q hs) := h
  have HP : Hid (HpF hs (m + 1) n) := hp
  have mL := nilLess q
  have mS := nilSwap q
  clear h hp
  go_enter Try.func91, Try.ntmps91
  go_wp2_with fail
  go_loopw [7] (fun u wr => ∃ (i : Nat) (hr : List Hd), u = .int .i64 i ∧ m ≤ i ∧ (i = m ∨ i < n) ∧ HX wr q hr ∧ hr.Perm hs ∧ HpD hr m n i ∧ (∀ k, n ≤ k → hr[k]? = hs[k]?) ∧ HK q w wr) (fun u _ => n - (intOf u).toNat)
  case atStart => exact ⟨m, hs, rfl, Nat.le_refl _, .inl rfl, H0.out, List.Perm.refl _, HpD.start HP.out, fun _ _ => rfl, HK.refl _ _⟩
  case round =>
    obtain ⟨i, hr, rfl, hmi, hin, hX, hpm, hD, hk, hK⟩ := hrel
    have HX' : Hid (HX wr q hr) := hX
    have HD : Hid (HpD hr m n i) := hD
    have HPM : Hid (hr.Perm hs) := hpm
    have HKK : Hid (∀ k, n ≤ k → hr[k]? = hs[k]?) := hk
    have HKW : Hid (HK q w wr) := hK
    have hrl1 : hr.length ≤ hs.length := Nat.le_of_eq hpm.length_eq
    have hrl2 : hs.length ≤ hr.length := Nat.le_of_eq hpm.length_eq.symm
    have hi5 : i ≤ 5000 := by omega
    have a1 : IntKind.i64.wrap (2 * (i : Int)) = 2 * (i : Int) := wrap_id64 (by omega) (by omega)
    obtain ⟨j1, ej1, ej3⟩ : ∃ j1, 2 * i + 1 ≤ j1 ∧ j1 < 2 * i + 2 := ⟨2 * i + 1, by omega, by omega⟩
    obtain ⟨j2, ej2, ej4⟩ : ∃ j2, 2 * i + 2 ≤ j2 ∧ j2 < 2 * i + 3 := ⟨2 * i + 2, by omega, by omega⟩
    have a2 : IntKind.i64.wrap (2 * (i : Int) + 1) = (j1 : Int) := by rw [wrap_id64 (by omega) (by omega)]; omega
    have a3 : IntKind.i64.wrap ((j1 : Int) + 1) = (j2 : Int) := by rw [wrap_id64 (by omega) (by omega)]; omega
    have a4 : ¬ (j1 : Int) < 0 := by omega
    clear hX hD hpm hk hK
    by_cases hj1 : j1 < n
    · have b1 : ¬ (j1 : Int) ≥ (n : Int) := by omega
      obtain ⟨x, hx⟩ := getX (es := hr) (i := i) (by omega)
      obtain ⟨y, hy⟩ := getX (es := hr) (i := j1) (by omega)
      by_cases hj2 : j2 < n
      · have b2 : (j2 : Int) < (n : Int) := by omega
        obtain ⟨z, hz⟩ := getX (es := hr) (i := j2) (by omega)
        have HL2 : Hid (∀ X, HX X q hr → Calls Try.prog 118 #[.pointer (some ⟨q, 0, none⟩), .int .i64 (j2 : Nat), .int .i64 (j1 : Nat)] X fun e w' => e = .returned (.bool (ltMb z.x y.x)) ∧ Below X.heap.size X w') := fun X hX => hLess_any q hr j2 j1 z y X hX hz hy
        go_wp2_with fail
        refine (HL2.out _ HX'.out).mono ?_
        rintro e w2 ⟨rfl, hb2⟩
        have HX2 : Hid (HX w2 q hr) := HX'.out.below hb2
        have HK2 : Hid (HK q w w2) := HKW.out.trans (HK.of hb2)
        clear hb2 HL2
        by_cases hzy : ltM z.x y.x
        · have et : ltMb z.x y.x = true := ltMb_true.2 hzy
          rw [et]
          have HC : Hid (∀ k u, 0 < k → k < n → (k - 1) / 2 = i → hr[k]? = some u → leD z u) := fun k u k0 k1 k2 hu => by
            by_cases e : k = j2
            · subst e
              rw [hz] at hu
              injection hu with hu
              subst hu
              exact leD_refl _
            · have : k = j1 := by omega
              subst this
              rw [hy] at hu
              injection hu with hu
              subst hu
              exact leD_of_lt hzy
          clear et hzy
          go_wp2_with fail
          have HL3 : Hid (∀ X, HX X q hr → Calls Try.prog 118 #[.pointer (some ⟨q, 0, none⟩), .int .i64 (j2 : Nat), .int .i64 (i : Nat)] X fun e w' => e = .returned (.bool (ltMb z.x x.x)) ∧ Below X.heap.size X w') := fun X hX => hLess_any q hr j2 i z x X hX hz hx
          refine (HL3.out _ HX2.out).mono ?_
          rintro e w3 ⟨rfl, hb3⟩
          have HX3 : Hid (HX w3 q hr) := HX2.out.below hb3
          have HK3 : Hid (HK q w w3) := HK2.out.trans (HK.of hb3)
          clear hb3 HL3
          by_cases hlt : ltM z.x x.x
          · have et : ltMb z.x x.x = true := ltMb_true.2 hlt
            rw [et]
            have HSW : Hid (∀ X, HX X q hr → Calls Try.prog 120 #[.pointer (some ⟨q, 0, none⟩), .int .i64 (i : Nat), .int .i64 (j2 : Nat)] X fun e w' => e = .returned (.tuple #[]) ∧ HX w' q ((hr.set i z).set j2 x) ∧ HK q X w') := fun X hX => hSwap_any q hr i j2 x z X hX hx hz
            have HND : Hid (HpD ((hr.set i z).set j2 x) m n j2) := HD.out.down hmi (by omega) (by omega) (by omega) hx hz hlt HC.out
            have HNP : Hid (((hr.set i z).set j2 x).Perm hs) := (swap_perm hx hz).trans HPM.out
            have HNK : Hid (∀ k, n ≤ k → ((hr.set i z).set j2 x)[k]? = hs[k]?) := fun k hk => by
              rw [swap_at hx hz, if_neg (by omega), if_neg (by omega)]
              exact HKK.out k hk
            clear et hlt
            generalize (hr.set i z).set j2 x = hr2 at *
            go_wp2_with fail
            refine (HSW.out _ HX3.out).mono ?_
            rintro e w4 ⟨rfl, hx4, hk4⟩
            have HX4 : Hid (HX w4 q hr2) := hx4
            have HK4 : Hid (HK q w w4) := HK3.out.trans hk4
            clear hx4 hk4 HSW
            go_wp2_with fail
            go_roundw
            case rel => exact ⟨j2, hr2, rfl, by omega, .inr (by omega), HX4.out, HNP.out, HND.out, HNK.out, HK4.out⟩
            case measure => simp [intOf]; omega
          · have et : ltMb z.x x.x = false := ltMb_false.2 hlt
            rw [et]
            have HFN : Hid (HpF hr m n) := HD.out.stop fun k u v k0 k1 k2 hu hv => by
              rw [hx] at hu
              injection hu with hu
              subst hu
              exact leD_trans (show leD x z from hlt) (HC.out k v k0 k1 k2 hv)
            clear et hlt
            go_wp2_with fail
            go_ret
            exact ⟨⟨_, rfl⟩, hr, HX3.out, HPM.out, HFN.out, HKK.out, HK3.out⟩
        · have et : ltMb z.x y.x = false := ltMb_false.2 hzy
          rw [et]
          have HC : Hid (∀ k u, 0 < k → k < n → (k - 1) / 2 = i → hr[k]? = some u → leD y u) := fun k u k0 k1 k2 hu => by
            by_cases e : k = j1
            · subst e
              rw [hy] at hu
              injection hu with hu
              subst hu
              exact leD_refl _
            · have : k = j2 := by omega
              subst this
              rw [hz] at hu
              injection hu with hu
              subst hu
              exact hzy
          clear et hzy
          go_wp2_with fail
          have HL3 : Hid (∀ X, HX X q hr → Calls Try.prog 118 #[.pointer (some ⟨q, 0, none⟩), .int .i64 (j1 : Nat), .int .i64 (i : Nat)] X fun e w' => e = .returned (.bool (ltMb y.x x.x)) ∧ Below X.heap.size X w') := fun X hX => hLess_any q hr j1 i y x X hX hy hx
          refine (HL3.out _ HX2.out).mono ?_
          rintro e w3 ⟨rfl, hb3⟩
          have HX3 : Hid (HX w3 q hr) := HX2.out.below hb3
          have HK3 : Hid (HK q w w3) := HK2.out.trans (HK.of hb3)
          clear hb3 HL3
          by_cases hlt : ltM y.x x.x
          · have et : ltMb y.x x.x = true := ltMb_true.2 hlt
            rw [et]
            have HSW : Hid (∀ X, HX X q hr → Calls Try.prog 120 #[.pointer (some ⟨q, 0, none⟩), .int .i64 (i : Nat), .int .i64 (j1 : Nat)] X fun e w' => e = .returned (.tuple #[]) ∧ HX w' q ((hr.set i y).set j1 x) ∧ HK q X w') := fun X hX => hSwap_any q hr i j1 x y X hX hx hy
            have HND : Hid (HpD ((hr.set i y).set j1 x) m n j1) := HD.out.down hmi (by omega) (by omega) (by omega) hx hy hlt HC.out
            have HNP : Hid (((hr.set i y).set j1 x).Perm hs) := (swap_perm hx hy).trans HPM.out
            have HNK : Hid (∀ k, n ≤ k → ((hr.set i y).set j1 x)[k]? = hs[k]?) := fun k hk => by
              rw [swap_at hx hy, if_neg (by omega), if_neg (by omega)]
              exact HKK.out k hk
            clear et hlt
            generalize (hr.set i y).set j1 x = hr2 at *
            go_wp2_with fail
            refine (HSW.out _ HX3.out).mono ?_
            rintro e w4 ⟨rfl, hx4, hk4⟩
            have HX4 : Hid (HX w4 q hr2) := hx4
            have HK4 : Hid (HK q w w4) := HK3.out.trans hk4
            clear hx4 hk4 HSW
            go_wp2_with fail
            go_roundw
            case rel => exact ⟨j1, hr2, rfl, by omega, .inr (by omega), HX4.out, HNP.out, HND.out, HNK.out, HK4.out⟩
            case measure => simp [intOf]; omega
          · have et : ltMb y.x x.x = false := ltMb_false.2 hlt
            rw [et]
            have HFN : Hid (HpF hr m n) := HD.out.stop fun k u v k0 k1 k2 hu hv => by
              rw [hx] at hu
              injection hu with hu
              subst hu
              exact leD_trans (show leD x y from hlt) (HC.out k v k0 k1 k2 hv)
            clear et hlt
            go_wp2_with fail
            go_ret
            exact ⟨⟨_, rfl⟩, hr, HX3.out, HPM.out, HFN.out, HKK.out, HK3.out⟩
      · have b2 : ¬ (j2 : Int) < (n : Int) := by omega
        have HC : Hid (∀ k u, 0 < k → k < n → (k - 1) / 2 = i → hr[k]? = some u → leD y u) := fun k u k0 k1 k2 hu => by
          have : k = j1 := by omega
          subst this
          rw [hy] at hu
          injection hu with hu
          subst hu
          exact leD_refl _
        go_wp2_with fail
        have HL3 : Hid (∀ X, HX X q hr → Calls Try.prog 118 #[.pointer (some ⟨q, 0, none⟩), .int .i64 (j1 : Nat), .int .i64 (i : Nat)] X fun e w' => e = .returned (.bool (ltMb y.x x.x)) ∧ Below X.heap.size X w') := fun X hX => hLess_any q hr j1 i y x X hX hy hx
        refine (HL3.out _ HX'.out).mono ?_
        rintro e w3 ⟨rfl, hb3⟩
        have HX3 : Hid (HX w3 q hr) := HX'.out.below hb3
        have HK3 : Hid (HK q w w3) := HKW.out.trans (HK.of hb3)
        clear hb3 HL3
        by_cases hlt : ltM y.x x.x
        · have et : ltMb y.x x.x = true := ltMb_true.2 hlt
          rw [et]
          have HSW : Hid (∀ X, HX X q hr → Calls Try.prog 120 #[.pointer (some ⟨q, 0, none⟩), .int .i64 (i : Nat), .int .i64 (j1 : Nat)] X fun e w' => e = .returned (.tuple #[]) ∧ HX w' q ((hr.set i y).set j1 x) ∧ HK q X w') := fun X hX => hSwap_any q hr i j1 x y X hX hx hy
          have HND : Hid (HpD ((hr.set i y).set j1 x) m n j1) := HD.out.down hmi (by omega) (by omega) (by omega) hx hy hlt HC.out
          have HNP : Hid (((hr.set i y).set j1 x).Perm hs) := (swap_perm hx hy).trans HPM.out
          have HNK : Hid (∀ k, n ≤ k → ((hr.set i y).set j1 x)[k]? = hs[k]?) := fun k hk => by
            rw [swap_at hx hy, if_neg (by omega), if_neg (by omega)]
            exact HKK.out k hk
          clear et hlt
          generalize (hr.set i y).set j1 x = hr2 at *
          go_wp2_with fail
          refine (HSW.out _ HX3.out).mono ?_
          rintro e w4 ⟨rfl, hx4, hk4⟩
          have HX4 : Hid (HX w4 q hr2) := hx4
          have HK4 : Hid (HK q w w4) := HK3.out.trans hk4
          clear hx4 hk4 HSW
          go_wp2_with fail
          go_roundw
          case rel => exact ⟨j1, hr2, rfl, by omega, .inr (by omega), HX4.out, HNP.out, HND.out, HNK.out, HK4.out⟩
          case measure => simp [intOf]; omega
        · have et : ltMb y.x x.x = false := ltMb_false.2 hlt
          rw [et]
          have HFN : Hid (HpF hr m n) := HD.out.stop fun k u v k0 k1 k2 hu hv => by
            rw [hx] at hu
            injection hu with hu
            subst hu
            exact leD_trans (show leD x y from hlt) (HC.out k v k0 k1 k2 hv)
          clear et hlt
          go_wp2_with fail
          go_ret
          exact ⟨⟨_, rfl⟩, hr, HX3.out, HPM.out, HFN.out, HKK.out, HK3.out⟩
    · have b1 : (j1 : Int) ≥ (n : Int) := by omega
      have HFN : Hid (HpF hr m n) := HD.out.stop fun k u v k0 k1 k2 hu hv => by omega
      go_wp2_with fail
      go_ret
      exact ⟨⟨_, rfl⟩, hr, HX'.out, HPM.out, HFN.out, HKK.out, HKW.out⟩
end Go.Proofs.Ytihghhmhgakkaaa
