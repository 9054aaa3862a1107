/-
  Contract of the heap's Swap.
  Contract of container/heap's down, on a heap of heads.
  Contract of container/heap's up, on a heap of heads.
  Contracts of the heap's Push and Pop, and of headOf.
  Contracts of container/heap's Init, Push and Pop, on a heap of heads.
  Merging in plain mathematics: all mail of the heads, and what is out already.
  Contract of merge's merged: lists in order, made one.
  Contracts of merge.Least and merge.Lists.
-/
import Derived.Test.YtihghhmhgakkaaaHeapMem
import Derived.BigRegion
import Derived.Test.YtihghhmhgakkaaaHeapMath
import Derived.Test.YtihghhmhgakkaaaHeapLess
import Derived.Test.YtihghhmhgakkaaaMailLists
import Derived.Test.YtihghhmhgakkaaaMailCmp
import Derived.Test.YtihghhmhgakkaaaMailRes

namespace Go.Proofs.Ytihghhmhgakkaaa
set_option maxRecDepth 100000
open Go.ChangeShapes Go.WideShapes Go.ChangeAt Go.RowKit

set_option maxHeartbeats 4000000 in
set_option maxRecDepth 100000 in
theorem hSwap_any (q : Nat) (hs : List Hd) (i j : Nat) (x y : Hd) (w : World) (h : HX w q hs) (hx : hs[i]? = some x) (hy : hs[j]? = some y) :
    Calls Try.prog 120 #[.pointer (some ⟨q, 0, none⟩), .int .i64 i, .int .i64 j] w fun e w' => e = .returned (.tuple #[]) ∧ HX w' q ((hs.set i y).set j x) ∧ HK q w w' := by
  obtain ⟨a, c, hq, ho, c0, c1, hc, hm, hat⟩ := h.at
  unfold maxLen at hm
  have hi : i < hs.length := (List.getElem?_eq_some_iff.1 hx).1
  have hj : j < hs.length := (List.getElem?_eq_some_iff.1 hy).1
  obtain ⟨g, rfl, hqg, hgl, hcell⟩ := hat (by omega)
  obtain ⟨x1, x2, x3⟩ := hcell _ _ hx
  obtain ⟨y1, y2, y3⟩ := hcell _ _ hy
  have fz : ∀ k, w.frozen? ⟨g, k, none⟩ = false := fun k => frozenK ho k
  have i1 : (0 : Int) ≤ (i : Int) := by omega
  have i2 : (i : Int) < (hs.length : Int) := by omega
  have i3 : (0 : Int) ≤ (j : Int) := by omega
  have i4 : (j : Int) < (hs.length : Int) := by omega
  have HS : Hid (HX (putD (putD w g (i * 3) y) g (j * 3) x) q ((hs.set i y).set j x) ∧ HK q w (putD (putD w g (i * 3) y) g (j * 3) x)) := HX.swap hq ho hqg hi hj
  clear h hcell hat ho hq
  by_cases hne : i = j
  · subst hne
    obtain rfl : x = y := by rw [hx] at hy; injection hy
    clear hx hy
    go_enter Try.func120, Try.ntmps120
    go_wp2_with fail
    go_region
    go_end0
    refine ⟨rfl, ?_⟩
    have hh := HS.out
    unfold putD at hh
    exact ⟨hh.1.drew, hh.2.drew⟩
  · clear hx hy
    go_enter Try.func120, Try.ntmps120
    go_wp2_with fail
    go_region
    go_end0
    refine ⟨rfl, ?_⟩
    have hh := HS.out
    unfold putD at hh
    exact ⟨hh.1.drew, hh.2.drew⟩
end Go.Proofs.Ytihghhmhgakkaaa

namespace Go.Proofs.Ytihghhmhgakkaaa
set_option maxRecDepth 100000
open Go.ChangeShapes Go.WideShapes Go.ChangeAt Go.RowKit

/-- The heap as an interface value. -/
abbrev hpV (q : Nat) : Value := .iface 93 (.pointer (some ⟨q, 0, none⟩))
theorem nilLess (q : Nat) (w : World) : (method 250 93 (.pointer (some ⟨q, 0, none⟩)) "Less").run Try.prog w = .ok (118, .pointer (some ⟨q, 0, none⟩)) w := by kernel_rfl
theorem nilSwap (q : Nat) (w : World) : (method 250 93 (.pointer (some ⟨q, 0, none⟩)) "Swap").run Try.prog w = .ok (120, .pointer (some ⟨q, 0, none⟩)) w := by kernel_rfl
theorem nilLen (q : Nat) (w : World) : (method 250 93 (.pointer (some ⟨q, 0, none⟩)) "Len").run Try.prog w = .ok (72, .pointer (some ⟨q, 0, none⟩)) w := by kernel_rfl
theorem nilPush (q : Nat) (w : World) : (method 250 93 (.pointer (some ⟨q, 0, none⟩)) "Push").run Try.prog w = .ok (69, .pointer (some ⟨q, 0, none⟩)) w := by kernel_rfl
theorem nilPop (q : Nat) (w : World) : (method 250 93 (.pointer (some ⟨q, 0, none⟩)) "Pop").run Try.prog w = .ok (119, .pointer (some ⟨q, 0, none⟩)) w := by kernel_rfl
/-- It answers a bool. -/
def RetB (e : Ending) : Prop := ∃ b, e = .returned (.bool b)
/-- What down leaves. -/
def DownP (w : World) (q : Nat) (hs : List Hd) (m n : Nat) (w' : World) : Prop := ∃ hs', HX w' q hs' ∧ hs'.Perm hs ∧ HpF hs' m n ∧ (∀ k, n ≤ k → hs'[k]? = hs[k]?) ∧ HK q w w'

set_option maxHeartbeats 4000000 in
set_option maxRecDepth 100000 in
theorem down_any (q : Nat) (hs : List Hd) (m n : Nat) (w : World) (h : HX w q hs) (hn : n ≤ hs.length) (hl : hs.length ≤ 5000) (hm : m ≤ 5000) (hp : HpF hs (m + 1) n) :
    Calls Try.prog 91 #[hpV q, .int .i64 m, .int .i64 n] w fun e w' => RetB e ∧ DownP w q hs m n w' := by
  unfold hpV
  have H0 : Hid (HX w q hs) := h
  have HP : Hid (HpF hs (m + 1) n) := hp
  have mL := nilLess q
  have mS := nilSwap q
  clear h hp
  go_enter Try.func91, Try.ntmps91
  go_wp2_with fail
  go_loopw [7] (fun u wr => ∃ (i : Nat) (hr : List Hd), u = .int .i64 i ∧ m ≤ i ∧ (i = m ∨ i < n) ∧ HX wr q hr ∧ hr.Perm hs ∧ HpD hr m n i ∧ (∀ k, n ≤ k → hr[k]? = hs[k]?) ∧ HK q w wr) (fun u _ => n - (intOf u).toNat)
  case atStart => exact ⟨m, hs, rfl, Nat.le_refl _, .inl rfl, H0.out, List.Perm.refl _, HpD.start HP.out, fun _ _ => rfl, HK.refl _ _⟩
  case round =>
    obtain ⟨i, hr, rfl, hmi, hin, hX, hpm, hD, hk, hK⟩ := hrel
    have HX' : Hid (HX wr q hr) := hX
    have HD : Hid (HpD hr m n i) := hD
    have HPM : Hid (hr.Perm hs) := hpm
    have HKK : Hid (∀ k, n ≤ k → hr[k]? = hs[k]?) := hk
    have HKW : Hid (HK q w wr) := hK
    have hrl1 : hr.length ≤ hs.length := Nat.le_of_eq hpm.length_eq
    have hrl2 : hs.length ≤ hr.length := Nat.le_of_eq hpm.length_eq.symm
    have hi5 : i ≤ 5000 := by omega
    have a1 : IntKind.i64.wrap (2 * (i : Int)) = 2 * (i : Int) := wrap_id64 (by omega) (by omega)
    obtain ⟨j1, ej1, ej3⟩ : ∃ j1, 2 * i + 1 ≤ j1 ∧ j1 < 2 * i + 2 := ⟨2 * i + 1, by omega, by omega⟩
    obtain ⟨j2, ej2, ej4⟩ : ∃ j2, 2 * i + 2 ≤ j2 ∧ j2 < 2 * i + 3 := ⟨2 * i + 2, by omega, by omega⟩
    have a2 : IntKind.i64.wrap (2 * (i : Int) + 1) = (j1 : Int) := by rw [wrap_id64 (by omega) (by omega)]; omega
    have a3 : IntKind.i64.wrap ((j1 : Int) + 1) = (j2 : Int) := by rw [wrap_id64 (by omega) (by omega)]; omega
    have a4 : ¬ (j1 : Int) < 0 := by omega
    clear hX hD hpm hk hK
    by_cases hj1 : j1 < n
    · have b1 : ¬ (j1 : Int) ≥ (n : Int) := by omega
      obtain ⟨x, hx⟩ := getX (es := hr) (i := i) (by omega)
      obtain ⟨y, hy⟩ := getX (es := hr) (i := j1) (by omega)
      by_cases hj2 : j2 < n
      · have b2 : (j2 : Int) < (n : Int) := by omega
        obtain ⟨z, hz⟩ := getX (es := hr) (i := j2) (by omega)
        have HL2 : Hid (∀ X, HX X q hr → Calls Try.prog 118 #[.pointer (some ⟨q, 0, none⟩), .int .i64 (j2 : Nat), .int .i64 (j1 : Nat)] X fun e w' => e = .returned (.bool (ltMb z.x y.x)) ∧ Below X.heap.size X w') := fun X hX => hLess_any q hr j2 j1 z y X hX hz hy
        go_wp2_with fail
        refine (HL2.out _ HX'.out).mono ?_
        rintro e w2 ⟨rfl, hb2⟩
        have HX2 : Hid (HX w2 q hr) := HX'.out.below hb2
        have HK2 : Hid (HK q w w2) := HKW.out.trans (HK.of hb2)
        clear hb2 HL2
        by_cases hzy : ltM z.x y.x
        · have et : ltMb z.x y.x = true := ltMb_true.2 hzy
          rw [et]
          have HC : Hid (∀ k u, 0 < k → k < n → (k - 1) / 2 = i → hr[k]? = some u → leD z u) := fun k u k0 k1 k2 hu => by
            by_cases e : k = j2
            · subst e
              rw [hz] at hu
              injection hu with hu
              subst hu
              exact leD_refl _
            · have : k = j1 := by omega
              subst this
              rw [hy] at hu
              injection hu with hu
              subst hu
              exact leD_of_lt hzy
          clear et hzy
          go_wp2_with fail
          have HL3 : Hid (∀ X, HX X q hr → Calls Try.prog 118 #[.pointer (some ⟨q, 0, none⟩), .int .i64 (j2 : Nat), .int .i64 (i : Nat)] X fun e w' => e = .returned (.bool (ltMb z.x x.x)) ∧ Below X.heap.size X w') := fun X hX => hLess_any q hr j2 i z x X hX hz hx
          refine (HL3.out _ HX2.out).mono ?_
          rintro e w3 ⟨rfl, hb3⟩
          have HX3 : Hid (HX w3 q hr) := HX2.out.below hb3
          have HK3 : Hid (HK q w w3) := HK2.out.trans (HK.of hb3)
          clear hb3 HL3
          by_cases hlt : ltM z.x x.x
          · have et : ltMb z.x x.x = true := ltMb_true.2 hlt
            rw [et]
            have HSW : Hid (∀ X, HX X q hr → Calls Try.prog 120 #[.pointer (some ⟨q, 0, none⟩), .int .i64 (i : Nat), .int .i64 (j2 : Nat)] X fun e w' => e = .returned (.tuple #[]) ∧ HX w' q ((hr.set i z).set j2 x) ∧ HK q X w') := fun X hX => hSwap_any q hr i j2 x z X hX hx hz
            have HND : Hid (HpD ((hr.set i z).set j2 x) m n j2) := HD.out.down hmi (by omega) (by omega) (by omega) hx hz hlt HC.out
            have HNP : Hid (((hr.set i z).set j2 x).Perm hs) := (swap_perm hx hz).trans HPM.out
            have HNK : Hid (∀ k, n ≤ k → ((hr.set i z).set j2 x)[k]? = hs[k]?) := fun k hk => by
              rw [swap_at hx hz, if_neg (by omega), if_neg (by omega)]
              exact HKK.out k hk
            clear et hlt
            generalize (hr.set i z).set j2 x = hr2 at *
            go_wp2_with fail
            refine (HSW.out _ HX3.out).mono ?_
            rintro e w4 ⟨rfl, hx4, hk4⟩
            have HX4 : Hid (HX w4 q hr2) := hx4
            have HK4 : Hid (HK q w w4) := HK3.out.trans hk4
            clear hx4 hk4 HSW
            go_wp2_with fail
            go_roundw
            case rel => exact ⟨j2, hr2, rfl, by omega, .inr (by omega), HX4.out, HNP.out, HND.out, HNK.out, HK4.out⟩
            case measure => simp [intOf]; omega
          · have et : ltMb z.x x.x = false := ltMb_false.2 hlt
            rw [et]
            have HFN : Hid (HpF hr m n) := HD.out.stop fun k u v k0 k1 k2 hu hv => by
              rw [hx] at hu
              injection hu with hu
              subst hu
              exact leD_trans (show leD x z from hlt) (HC.out k v k0 k1 k2 hv)
            clear et hlt
            go_wp2_with fail
            go_ret
            exact ⟨⟨_, rfl⟩, hr, HX3.out, HPM.out, HFN.out, HKK.out, HK3.out⟩
        · have et : ltMb z.x y.x = false := ltMb_false.2 hzy
          rw [et]
          have HC : Hid (∀ k u, 0 < k → k < n → (k - 1) / 2 = i → hr[k]? = some u → leD y u) := fun k u k0 k1 k2 hu => by
            by_cases e : k = j1
            · subst e
              rw [hy] at hu
              injection hu with hu
              subst hu
              exact leD_refl _
            · have : k = j2 := by omega
              subst this
              rw [hz] at hu
              injection hu with hu
              subst hu
              exact hzy
          clear et hzy
          go_wp2_with fail
          have HL3 : Hid (∀ X, HX X q hr → Calls Try.prog 118 #[.pointer (some ⟨q, 0, none⟩), .int .i64 (j1 : Nat), .int .i64 (i : Nat)] X fun e w' => e = .returned (.bool (ltMb y.x x.x)) ∧ Below X.heap.size X w') := fun X hX => hLess_any q hr j1 i y x X hX hy hx
          refine (HL3.out _ HX2.out).mono ?_
          rintro e w3 ⟨rfl, hb3⟩
          have HX3 : Hid (HX w3 q hr) := HX2.out.below hb3
          have HK3 : Hid (HK q w w3) := HK2.out.trans (HK.of hb3)
          clear hb3 HL3
          by_cases hlt : ltM y.x x.x
          · have et : ltMb y.x x.x = true := ltMb_true.2 hlt
            rw [et]
            have HSW : Hid (∀ X, HX X q hr → Calls Try.prog 120 #[.pointer (some ⟨q, 0, none⟩), .int .i64 (i : Nat), .int .i64 (j1 : Nat)] X fun e w' => e = .returned (.tuple #[]) ∧ HX w' q ((hr.set i y).set j1 x) ∧ HK q X w') := fun X hX => hSwap_any q hr i j1 x y X hX hx hy
            have HND : Hid (HpD ((hr.set i y).set j1 x) m n j1) := HD.out.down hmi (by omega) (by omega) (by omega) hx hy hlt HC.out
            have HNP : Hid (((hr.set i y).set j1 x).Perm hs) := (swap_perm hx hy).trans HPM.out
            have HNK : Hid (∀ k, n ≤ k → ((hr.set i y).set j1 x)[k]? = hs[k]?) := fun k hk => by
              rw [swap_at hx hy, if_neg (by omega), if_neg (by omega)]
              exact HKK.out k hk
            clear et hlt
            generalize (hr.set i y).set j1 x = hr2 at *
            go_wp2_with fail
            refine (HSW.out _ HX3.out).mono ?_
            rintro e w4 ⟨rfl, hx4, hk4⟩
            have HX4 : Hid (HX w4 q hr2) := hx4
            have HK4 : Hid (HK q w w4) := HK3.out.trans hk4
            clear hx4 hk4 HSW
            go_wp2_with fail
            go_roundw
            case rel => exact ⟨j1, hr2, rfl, by omega, .inr (by omega), HX4.out, HNP.out, HND.out, HNK.out, HK4.out⟩
            case measure => simp [intOf]; omega
          · have et : ltMb y.x x.x = false := ltMb_false.2 hlt
            rw [et]
            have HFN : Hid (HpF hr m n) := HD.out.stop fun k u v k0 k1 k2 hu hv => by
              rw [hx] at hu
              injection hu with hu
              subst hu
              exact leD_trans (show leD x y from hlt) (HC.out k v k0 k1 k2 hv)
            clear et hlt
            go_wp2_with fail
            go_ret
            exact ⟨⟨_, rfl⟩, hr, HX3.out, HPM.out, HFN.out, HKK.out, HK3.out⟩
      · have b2 : ¬ (j2 : Int) < (n : Int) := by omega
        have HC : Hid (∀ k u, 0 < k → k < n → (k - 1) / 2 = i → hr[k]? = some u → leD y u) := fun k u k0 k1 k2 hu => by
          have : k = j1 := by omega
          subst this
          rw [hy] at hu
          injection hu with hu
          subst hu
          exact leD_refl _
        go_wp2_with fail
        have HL3 : Hid (∀ X, HX X q hr → Calls Try.prog 118 #[.pointer (some ⟨q, 0, none⟩), .int .i64 (j1 : Nat), .int .i64 (i : Nat)] X fun e w' => e = .returned (.bool (ltMb y.x x.x)) ∧ Below X.heap.size X w') := fun X hX => hLess_any q hr j1 i y x X hX hy hx
        refine (HL3.out _ HX'.out).mono ?_
        rintro e w3 ⟨rfl, hb3⟩
        have HX3 : Hid (HX w3 q hr) := HX'.out.below hb3
        have HK3 : Hid (HK q w w3) := HKW.out.trans (HK.of hb3)
        clear hb3 HL3
        by_cases hlt : ltM y.x x.x
        · have et : ltMb y.x x.x = true := ltMb_true.2 hlt
          rw [et]
          have HSW : Hid (∀ X, HX X q hr → Calls Try.prog 120 #[.pointer (some ⟨q, 0, none⟩), .int .i64 (i : Nat), .int .i64 (j1 : Nat)] X fun e w' => e = .returned (.tuple #[]) ∧ HX w' q ((hr.set i y).set j1 x) ∧ HK q X w') := fun X hX => hSwap_any q hr i j1 x y X hX hx hy
          have HND : Hid (HpD ((hr.set i y).set j1 x) m n j1) := HD.out.down hmi (by omega) (by omega) (by omega) hx hy hlt HC.out
          have HNP : Hid (((hr.set i y).set j1 x).Perm hs) := (swap_perm hx hy).trans HPM.out
          have HNK : Hid (∀ k, n ≤ k → ((hr.set i y).set j1 x)[k]? = hs[k]?) := fun k hk => by
            rw [swap_at hx hy, if_neg (by omega), if_neg (by omega)]
            exact HKK.out k hk
          clear et hlt
          generalize (hr.set i y).set j1 x = hr2 at *
          go_wp2_with fail
          refine (HSW.out _ HX3.out).mono ?_
          rintro e w4 ⟨rfl, hx4, hk4⟩
          have HX4 : Hid (HX w4 q hr2) := hx4
          have HK4 : Hid (HK q w w4) := HK3.out.trans hk4
          clear hx4 hk4 HSW
          go_wp2_with fail
          go_roundw
          case rel => exact ⟨j1, hr2, rfl, by omega, .inr (by omega), HX4.out, HNP.out, HND.out, HNK.out, HK4.out⟩
          case measure => simp [intOf]; omega
        · have et : ltMb y.x x.x = false := ltMb_false.2 hlt
          rw [et]
          have HFN : Hid (HpF hr m n) := HD.out.stop fun k u v k0 k1 k2 hu hv => by
            rw [hx] at hu
            injection hu with hu
            subst hu
            exact leD_trans (show leD x y from hlt) (HC.out k v k0 k1 k2 hv)
          clear et hlt
          go_wp2_with fail
          go_ret
          exact ⟨⟨_, rfl⟩, hr, HX3.out, HPM.out, HFN.out, HKK.out, HK3.out⟩
    · have b1 : (j1 : Int) ≥ (n : Int) := by omega
      have HFN : Hid (HpF hr m n) := HD.out.stop fun k u v k0 k1 k2 hu hv => by omega
      go_wp2_with fail
      go_ret
      exact ⟨⟨_, rfl⟩, hr, HX'.out, HPM.out, HFN.out, HKK.out, HKW.out⟩
end Go.Proofs.Ytihghhmhgakkaaa

namespace Go.Proofs.Ytihghhmhgakkaaa
set_option maxRecDepth 100000
open Go.ChangeShapes Go.WideShapes Go.ChangeAt Go.RowKit

/-- What up leaves. -/
def UpP (w : World) (q : Nat) (hs : List Hd) (w' : World) : Prop := ∃ hs', HX w' q hs' ∧ hs'.Perm hs ∧ HpF hs' 0 hs'.length ∧ HK q w w'

set_option maxHeartbeats 4000000 in
set_option maxRecDepth 100000 in
theorem up_any (q : Nat) (hs : List Hd) (j : Nat) (w : World) (h : HX w q hs) (hj : j < hs.length) (hl : hs.length ≤ 6000) (hp : HpU hs hs.length j) :
    Calls Try.prog 92 #[hpV q, .int .i64 j] w fun e w' => e = .returned (.tuple #[]) ∧ UpP w q hs w' := by
  unfold hpV
  have H0 : Hid (HX w q hs) := h
  have HP : Hid (HpU hs hs.length j) := hp
  have mL := nilLess q
  have mS := nilSwap q
  obtain ⟨N, hN⟩ : ∃ N, N = hs.length := ⟨_, rfl⟩
  have HN : Hid (N = hs.length) := hN
  have hl2 : N ≤ 6000 := by omega
  have hj2 : j < N := by omega
  clear h hp hN hl hj
  go_enter Try.func92, Try.ntmps92
  go_wp2_with fail
  go_loopw [1] (fun u wr => ∃ (i : Nat) (hr : List Hd), u = .int .i64 i ∧ i < N ∧ HX wr q hr ∧ hr.Perm hs ∧ HpU hr N i ∧ HK q w wr) (fun u _ => (intOf u).toNat)
  case atStart => exact ⟨j, hs, rfl, hj2, H0.out, List.Perm.refl _, by rw [HN.out]; exact HP.out, HK.refl _ _⟩
  case round =>
    obtain ⟨k, hr, rfl, hk, hX, hpm, hU, hK⟩ := hrel
    have HX' : Hid (HX wr q hr) := hX
    have HU : Hid (HpU hr N k) := hU
    have HPM : Hid (hr.Perm hs) := hpm
    have HKW : Hid (HK q w wr) := hK
    have hrl1 : hr.length ≤ N := by rw [HN.out]; exact Nat.le_of_eq hpm.length_eq
    have hrl2 : N ≤ hr.length := by rw [HN.out]; exact Nat.le_of_eq hpm.length_eq.symm
    have HRL : Hid (N = hr.length) := by show _ = _; omega
    clear hX hU hpm hK
    by_cases h0 : k = 0
    · subst h0
      have HFN : Hid (HpF hr 0 hr.length) := by
        show HpF hr 0 hr.length
        rw [← HRL.out]
        exact HU.out.stop fun p x y h => by omega
      clear hrl1 hrl2
      go_wp2_with fail
      go_end0
      exact ⟨rfl, hr, HX'.out, HPM.out, HFN.out, HKW.out⟩
    · obtain ⟨i, ei1, ei2⟩ : ∃ i, 2 * i + 1 ≤ k ∧ k ≤ 2 * i + 2 := ⟨(k - 1) / 2, by omega, by omega⟩
      have a1 : IntKind.i64.wrap ((k : Int) - 1) = (k : Int) - 1 := wrap_id64 (by omega) (by omega)
      have a2 : Int.tdiv ((k : Int) - 1) 2 = (i : Int) := by rw [Int.tdiv_eq_ediv_of_nonneg (by omega)]; omega
      have a3 : IntKind.i64.wrap (i : Int) = (i : Int) := wrap_id64 (by omega) (by omega)
      have a4 : ((i : Int) == (k : Int)) = false := by simp; omega
      obtain ⟨x, hx⟩ := getX (es := hr) (i := i) (by omega)
      obtain ⟨y, hy⟩ := getX (es := hr) (i := k) (by omega)
      have HL3 : Hid (∀ X, HX X q hr → Calls Try.prog 118 #[.pointer (some ⟨q, 0, none⟩), .int .i64 (k : Nat), .int .i64 (i : Nat)] X fun e w' => e = .returned (.bool (ltMb y.x x.x)) ∧ Below X.heap.size X w') := fun X hX => hLess_any q hr k i y x X hX hy hx
      have HSW : Hid (∀ X, HX X q hr → Calls Try.prog 120 #[.pointer (some ⟨q, 0, none⟩), .int .i64 (i : Nat), .int .i64 (k : Nat)] X fun e w' => e = .returned (.tuple #[]) ∧ HX w' q ((hr.set i y).set k x) ∧ HK q X w') := fun X hX => hSwap_any q hr i k x y X hX hx hy
      have HNP : Hid (((hr.set i y).set k x).Perm hs) := (swap_perm hx hy).trans HPM.out
      have HND : Hid (ltM y.x x.x → HpU ((hr.set i y).set k x) N i) := fun hlt => HU.out.up (by omega) (by omega) hx hy hlt hk
      have HST : Hid (¬ ltM y.x x.x → HpF hr 0 hr.length) := fun hlt => by
        rw [← HRL.out]
        refine HU.out.stop fun p u v k0 k1 hu hv => ?_
        have : p = i := by omega
        subst this
        rw [hx] at hu
        rw [hy] at hv
        injection hu with hu
        injection hv with hv
        subst hu hv
        exact hlt
      clear hrl1 hrl2 hx hy
      generalize (hr.set i y).set k x = hr2 at *
      go_wp2_with fail
      refine (HL3.out _ HX'.out).mono ?_
      rintro e w3 ⟨rfl, hb3⟩
      have HX3 : Hid (HX w3 q hr) := HX'.out.below hb3
      have HK3 : Hid (HK q w w3) := HKW.out.trans (HK.of hb3)
      clear hb3 HL3
      by_cases hlt : ltM y.x x.x
      · have et : ltMb y.x x.x = true := ltMb_true.2 hlt
        rw [et]
        have HN2 : Hid (HpU hr2 N i) := HND.out hlt
        clear et hlt
        go_wp2_with fail
        refine (HSW.out _ HX3.out).mono ?_
        rintro e w4 ⟨rfl, hx4, hk4⟩
        have HX4 : Hid (HX w4 q hr2) := hx4
        have HK4 : Hid (HK q w w4) := HK3.out.trans hk4
        clear hx4 hk4 HSW
        go_wp2_with fail
        go_roundw
        case rel => exact ⟨i, hr2, rfl, by omega, HX4.out, HNP.out, HN2.out, HK4.out⟩
        case measure => simp [intOf]; omega
      · have et : ltMb y.x x.x = false := ltMb_false.2 hlt
        rw [et]
        have HFN : Hid (HpF hr 0 hr.length) := HST.out hlt
        clear et hlt
        go_wp2_with fail
        go_end0
        exact ⟨rfl, hr, HX3.out, HPM.out, HFN.out, HK3.out⟩
end Go.Proofs.Ytihghhmhgakkaaa

namespace Go.Proofs.Ytihghhmhgakkaaa
set_option maxRecDepth 100000
open Go.ChangeShapes Go.WideShapes Go.ChangeAt Go.RowKit
attribute [local go_sem ↓] exec_append

theorem assertD (v : Value) (w : World) : (Instr.typeAssert (.iface 99 v) 20 99 false).run Try.prog w = .ok v w := by kernel_rfl
theorem boxD_set {w : World} {q : Nat} {v u f : Value} {t : TypeId} (h : w.heap[q]? = some (.cells #[v, f] t (0, 0))) : (w.setCell ⟨q, 0, none⟩ u).heap[q]? = some (.cells #[u, f] t (0, 0)) := by
  simp only [World.setCell, Array.getElem?_modify, if_true]
  rw [h]
  rfl
/-- The heap's row is another one. -/
theorem HX.store {w : World} {q : Nat} {v u : Value} {hs : List Hd} (hq : w.heap[q]? = some (.cells #[v, fnM] 96 (0, 0))) (ho : w.ownsRow q 99 3 u hs.length (hs.flatMap encD)) : HX (w.setCell ⟨q, 0, none⟩ u) q hs :=
  ⟨u, boxD_set hq, (Kept.box w q 0 u).own ho fun g hg => own_block ho hg hq (by decide)⟩

set_option maxHeartbeats 2000000 in
set_option maxRecDepth 100000 in
theorem hPush_any (q : Nat) (hs : List Hd) (x : Hd) (w : World) (h : HX w q hs) (hl : hs.length ≤ 5000) :
    Calls Try.prog 69 #[.pointer (some ⟨q, 0, none⟩), .iface 99 (.agg #[.int .i64 x.x.1, .int .i64 x.x.2, .slice x.a x.n x.c])] w fun e w' => e = .returned (.tuple #[]) ∧ HX w' q (hs ++ [x]) ∧ HK q w w' := by
  obtain ⟨a, c, hq, ho, c0, c1, hc, hm, hat⟩ := h.at
  have hql := h.lt
  unfold maxLen at hm
  have hbq : w.frozen? ⟨q, 0, none⟩ = false := box_frozen hq 0
  have hsz : (w.alloc (.cells #[.int .i64 x.x.1, .int .i64 x.x.2, .slice x.a x.n x.c] 99)).drew.heap.size = w.heap.size + 1 := by simp
  obtain ⟨g, gc, w', a1, a2, a3, hown, hbel, hgr⟩ := app_newK kD (w := (w.alloc (.cells #[.int .i64 x.x.1, .int .i64 x.x.2, .slice x.a x.n x.c] 99)).drew) 94 q (.slice a hs.length c) hs ((ho.alloc _).drew) w.heap.size x #[.int .i64 x.x.1, .int .i64 x.x.2, .slice x.a x.n x.c] rfl (0, 0) (heap_alloc_new w _) (by simp only [kD]; omega) (by unfold maxLen; omega) (by rw [hsz]; omega)
  unfold kD at a1 a2 a3 hown
  simp only at a1 a2 a3 hown
  have hrow : ∀ k, (Value.slice a hs.length c).ownBlock = some k → k ≠ q := fun k hk => own_block ho hk hq (by decide)
  have hq1 : (w.alloc (.cells #[.int .i64 x.x.1, .int .i64 x.x.2, .slice x.a x.n x.c] 99)).drew.heap[q]? = some (.cells #[.slice a hs.length c, fnM] 96 (0, 0)) := ((below_alloc w _).block q hql).trans hq
  have hq2 : w'.heap[q]? = some (.cells #[.slice a hs.length c, fnM] 96 (0, 0)) := (hgr.block q (by rw [hsz]; omega) (fun e => hrow q e.symm rfl)).trans hq1
  have k0 : w'.cell? ⟨q, 0, none⟩ = some (.slice a hs.length c) := by rw [cell_of_row _ _ _ _ _ _ hq2]; rfl
  have k1 : w'.frozen? ⟨q, 0, none⟩ = false := box_frozen hq2 0
  have hll : (hs ++ [x]).length = hs.length + 1 := by simp
  have HF : Hid (HX (w'.setCell ⟨q, 0, none⟩ (.slice (some ⟨g, 0, none⟩) (hs.length + 1) gc)) q (hs ++ [x]) ∧ HK q w (w'.setCell ⟨q, 0, none⟩ (.slice (some ⟨g, 0, none⟩) (hs.length + 1) gc))) := by
    refine ⟨HX.store hq2 hown, HK.set (HK.grown ((HK.of (below_alloc w _)).drew) hgr fun k hk => ?_) _ ?_⟩
    · rcases own_shapeK ho with ⟨e, _⟩ | ⟨g', _, e, _⟩
      · injection e with e _ _; subst e; cases hk
      · injection e with e _ _
        subst e
        injection hk with hk
        have hk' : g' = k := hk
        subst hk'
        obtain ⟨h1, cs, fr, h2⟩ := own_typed ho
        exact .inr ⟨h1, cs, _, fr, h2, .inr rfl⟩
    · exact .inr ⟨Nat.le_refl _, _, _, _, hq, .inl rfl⟩
  clear hown hbel hgr hrow hq1 hq2 hat ho hq h hll hsz
  have ta := assertD
  go_enter Try.func69, Try.ntmps69
  go_wp2_with fail
  go_region
  go_end0
  exact ⟨rfl, HF.out.1, HF.out.2⟩

theorem own_pre {w : World} {base g n cap m : Nat} {e : TypeId} {size : Nat} {xs : List Value} (h : w.ownsRow base e size (.slice (some ⟨g, 0, none⟩) n cap) n xs) (hm : m ≤ n) : w.ownsRow base e size (.slice (some ⟨g, 0, none⟩) m cap) m (xs.take (m * size)) := by
  have hle : m * size ≤ n * size := Nat.mul_le_mul_right _ hm
  refine ⟨by rw [List.length_take, h.1]; omega, ?_⟩
  rcases h.2 with ⟨hv, _⟩ | ⟨g', cap', cur, hv, hg, hgg, hc, hm2, hcur, htk⟩
  · cases hv
  · injection hv with h1 _ h3
    injection h1 with h1
    injection h1 with h1
    subst h1 h3
    refine .inr ⟨g, cap, cur, rfl, hg, hgg, by omega, hm2, hcur, ?_⟩
    rw [← htk, List.take_take, Nat.min_eq_left hle]

set_option maxHeartbeats 1000000 in
set_option maxRecDepth 100000 in
theorem hPop_any (q : Nat) (hs : List Hd) (x : Hd) (w : World) (h : HX w q (hs ++ [x])) :
    Calls Try.prog 119 #[.pointer (some ⟨q, 0, none⟩)] w fun e w' => e = .returned (.iface 99 (.agg #[.int .i64 x.x.1, .int .i64 x.x.2, .slice x.a x.n x.c])) ∧ HX w' q hs ∧ HK q w w' := by
  obtain ⟨a, c, hq, ho, c0, c1, hc, hm, hat⟩ := h.at
  have hql := h.lt
  have hll : (hs ++ [x]).length = hs.length + 1 := by simp
  obtain ⟨g, rfl, hqg, hgl, hcell⟩ := hat (by omega)
  obtain ⟨x1, x2, x3⟩ := hcell hs.length x (by simp)
  rw [hll] at hq ho c0 hc
  unfold maxLen at hm
  have hbq : w.frozen? ⟨q, 0, none⟩ = false := box_frozen hq 0
  have hq1 : ∀ o, (w.alloc o).heap[q]? = some (.cells #[.slice (some ⟨g, 0, none⟩) (hs.length + 1) c, fnM] 96 (0, 0)) := fun o => ((below_alloc w o).block q hql).trans hq
  have k0 : ∀ o, (w.alloc o).cell? ⟨q, 0, none⟩ = some (.slice (some ⟨g, 0, none⟩) (hs.length + 1) c) := fun o => by rw [cell_of_row _ _ _ _ _ _ (hq1 o)]; rfl
  have k1 : ∀ o, (w.alloc o).frozen? ⟨q, 0, none⟩ = false := fun o => box_frozen (hq1 o) 0
  have ho2 : w.ownsRow q 99 3 (.slice (some ⟨g, 0, none⟩) hs.length c) hs.length (hs.flatMap encD) := by
    have := own_pre ho (m := hs.length) (by omega)
    rw [flat_snoc] at this
    rwa [List.take_left' (flat_len encD_len hs)] at this
  have HF : Hid (∀ o, HX ((w.setCell ⟨q, 0, none⟩ (.slice (some ⟨g, 0, none⟩) hs.length c)).alloc o) q hs ∧ HK q w ((w.setCell ⟨q, 0, none⟩ (.slice (some ⟨g, 0, none⟩) hs.length c)).alloc o)) := fun o =>
    ⟨(HX.store hq ho2).below (below_alloc _ o), (HK.set (HK.refl q w) _ (.inr ⟨Nat.le_refl _, _, _, _, hq, .inl rfl⟩)).trans (HK.of (below_alloc _ o))⟩
  have i1 : IntKind.i64.wrap ((hs.length : Int) + 1 - 1) = (hs.length : Int) := by rw [Int.add_sub_cancel]; exact wrap_id64 (by omega) (by omega)
  have i2 : (0 : Int) ≤ (hs.length : Int) := by omega
  have i3 : (hs.length : Int) < (hs.length : Int) + 1 := by omega
  have i4 : hs.length ≤ c := by omega
  have i5 : (hs.length : Int) ≤ (c : Int) := by omega
  have hne : q ≠ w.heap.size := by omega
  clear ho2 hq1 hat hcell ho hq h hll c1 hbq
  go_enter Try.func119, Try.ntmps119
  go_wp2_with fail
  go_ret
  exact ⟨rfl, (HF.out _).1, (HF.out _).2⟩

/-- Where s[1:] begins. -/
def cutM (off cap : Nat) : Nat := if 1 < cap then off + 2 else off
theorem run_cutM (b off len cap : Nat) (hu : 1 ≤ len) (hc : len ≤ cap) (w : World) : (Instr.slice 22 (.slice (some ⟨b, off, none⟩) len cap) (some (.int .i64 1)) none none).run Try.prog w = .ok (.slice (some ⟨b, cutM off cap, none⟩) (len - 1) (cap - 1)) w := by
  have hsz : (sizeOf (Try.prog.elem 22)).run Try.prog w = .ok 2 w := by kernel_rfl
  have := run_slice_l (P := Try.prog) (w := w) 22 (some ⟨b, off, none⟩) len cap (by rw [Try.underlying22]; kernel_rfl) .i64 1 (by omega) (by omega)
  rw [this, hsz]
  simp only [Result.andThen, sliced]
  unfold cutM
  by_cases h : 1 < cap
  · rw [if_neg (by simp; omega), if_pos h, Option.map_some, addr_plus]
    simp
  · rw [if_pos (by simp; omega), if_neg h]
    simp
theorem reads_cutM {w : World} {b off cap : Nat} {x : Ml} {l : List Ml} (h : MlR w (.slice (some ⟨b, off, none⟩) (x :: l).length cap) (x :: l)) : MlR w (.slice (some ⟨b, cutM off cap, none⟩) l.length (cap - 1)) l := by
  obtain ⟨a, cap', hv, hc, hm, ha, hel⟩ := h
  injection hv with h1 _ h3
  subst h1 h3
  obtain ⟨b', off', e, hlt, hcell⟩ := hel (by simp)
  injection e with e
  injection e with e1 e2
  subst e1 e2
  simp only [List.length_cons] at hc
  refine ⟨_, cap - 1, rfl, by omega, by omega, fun e => (by cases e), fun hn => ⟨b, cutM off cap, rfl, hlt, fun i y hy j u hu => ?_⟩⟩
  have := hcell (i + 1) y (by simpa using hy) j u hu
  unfold cutM
  rw [if_pos (by omega)]
  rw [show off + 2 + i * 2 + j = off + (i + 1) * 2 + j by omega]
  exact this

set_option maxHeartbeats 1000000 in
set_option maxRecDepth 100000 in
theorem headOf_any (v : Value) (x : Ml) (l : List Ml) (w : World) (h : MlR w v (x :: l)) :
    Calls Try.prog 70 #[v] w fun e w' => ∃ a c, e = .returned (.agg #[.int .i64 x.1, .int .i64 x.2, .slice a l.length c]) ∧ (∀ X, MlR X v (x :: l) → MlR X (.slice a l.length c) l) ∧ Below w.heap.size w w' := by
  obtain ⟨b, off, cap, rfl, hc, hm, hb, hcell⟩ := MlR.at h (by simp)
  obtain ⟨c1, c2⟩ := hcell 0 x rfl
  simp only [Nat.zero_mul, Nat.add_zero] at c1 c2
  have HR : Hid (∀ X, MlR X (.slice (some ⟨b, off, none⟩) (l.length + 1) cap) (x :: l) → MlR X (.slice (some ⟨b, cutM off cap, none⟩) l.length (cap - 1)) l) := fun X hX => reads_cutM hX
  have rc := run_cutM b off (l.length + 1) cap (by omega) (by simpa using hc)
  simp only [Nat.add_sub_cancel] at rc
  simp only [List.length_cons] at hc ⊢
  unfold maxLen at hm
  have i1 : (0 : Int) < (l.length : Int) + 1 := by omega
  have hbne : b ≠ w.heap.size := by omega
  clear h hcell
  generalize cutM off cap = o2 at *
  go_enter Try.func70, Try.ntmps70
  go_wp2_with fail
  go_region
  go_wp2_with fail
  have hb2 := heap_alloc_new w (.cells #[.int .i64 x.1, .int .i64 x.2, .slice (some ⟨b, o2, none⟩) l.length (cap - 1)] 99)
  have r0 := fun j => cell_of_row _ _ j _ _ _ hb2
  refine bodyPost_ret (v := .agg #[.int .i64 x.1, .int .i64 x.2, .slice (some ⟨b, o2, none⟩) l.length (cap - 1)]) (by simp [results, Try.results70, go_sem, r0]) rfl ⟨_, _, rfl, HR.out, ?_⟩
  exact (below_alloc w _).drew
end Go.Proofs.Ytihghhmhgakkaaa

namespace Go.Proofs.Ytihghhmhgakkaaa
set_option maxRecDepth 100000
open Go.ChangeShapes Go.WideShapes Go.ChangeAt Go.RowKit

theorem HpF.half (hs : List Hd) (n : Nat) : HpF hs (n / 2) n := fun k p x y h0 h1 h2 h3 => by omega

set_option maxHeartbeats 2000000 in
set_option maxRecDepth 100000 in
theorem init_any (q : Nat) (hs : List Hd) (w : World) (h : HX w q hs) (hl : hs.length ≤ 5000) :
    Calls Try.prog 71 #[hpV q] w fun e w' => e = .returned (.tuple #[]) ∧ UpP w q hs w' := by
  unfold hpV
  have H0 : Hid (HX w q hs) := h
  have mN := nilLen q
  have HH : Hid (HpF hs (hs.length / 2) hs.length) := HpF.half hs hs.length
  have HD : Hid (∀ (hr : List Hd) (m : Nat) (X : World), HX X q hr → hr.Perm hs → m ≤ 5000 → HpF hr (m + 1) hs.length → Calls Try.prog 91 #[.iface 93 (.pointer (some ⟨q, 0, none⟩)), .int .i64 m, .int .i64 (hs.length : Nat)] X fun e w' => RetB e ∧ DownP X q hr m hs.length w') := fun hr m X hX hpm hm hp =>
    down_any q hr m hs.length X hX (Nat.le_of_eq hpm.length_eq.symm) (by rw [hpm.length_eq]; exact hl) hm hp
  obtain ⟨N, hN⟩ : ∃ N, hs.length = N := ⟨_, rfl⟩
  have HN : Hid (hs.length = N) := hN
  have HLN : Hid (∀ X, HX X q hs → Calls Try.prog 72 #[.pointer (some ⟨q, 0, none⟩)] X fun e w' => e = .returned (.int .i64 (N : Nat)) ∧ w' = X) := fun X hX => by
    have := hLen_any q hs X hX
    rwa [hN] at this
  rw [hN] at HH HD hl
  have a2 : Int.tdiv (N : Int) 2 = ((N / 2 : Nat) : Int) := by rw [Int.tdiv_eq_ediv_of_nonneg (by omega)]; omega
  have a3 : IntKind.i64.wrap ((N / 2 : Nat) : Int) = ((N / 2 : Nat) : Int) := wrap_id64 (by omega) (by omega)
  have a4 : IntKind.i64.wrap (((N / 2 : Nat) : Int) - 1) = ((N / 2 : Nat) : Int) - 1 := wrap_id64 (by omega) (by omega)
  have hh : N / 2 ≤ 5000 := by omega
  obtain ⟨c, hc⟩ : ∃ c, N / 2 = c := ⟨_, rfl⟩
  rw [hc] at a2 a3 a4 HH hh
  clear h hN hc
  go_enter Try.func71, Try.ntmps71
  go_wp2_with fail
  refine (HLN.out _ H0.out).mono ?_
  rintro e w1 ⟨rfl, rfl⟩
  clear HLN mN
  go_wp2_with fail
  go_loopw [3] (fun u wr => ∃ (k : Nat) (hr : List Hd), u = .int .i64 ((k : Int) - 1) ∧ k ≤ 5000 ∧ HX wr q hr ∧ hr.Perm hs ∧ HpF hr k N ∧ HK q w1 wr) (fun u _ => (intOf u + 1).toNat)
  case atStart => exact ⟨c, hs, rfl, hh, H0.out, List.Perm.refl _, HH.out, HK.refl _ _⟩
  case round =>
    obtain ⟨k, hr, rfl, hk, hX, hpm, hF, hK⟩ := hrel
    have HX' : Hid (HX wr q hr) := hX
    have HF : Hid (HpF hr k N) := hF
    have HPM : Hid (hr.Perm hs) := hpm
    have HKW : Hid (HK q w1 wr) := hK
    clear hX hF hpm hK
    cases k with
    | zero =>
      have HFN : Hid (HpF hr 0 hr.length) := by
        show HpF hr 0 hr.length
        rw [HPM.out.length_eq, HN.out]
        exact HF.out
      go_wp2_with fail
      go_end0
      exact ⟨rfl, hr, HX'.out, HPM.out, HFN.out, HKW.out⟩
    | succ j =>
      have e1 : ((j + 1 : Nat) : Int) - 1 = (j : Int) := by omega
      rw [e1]
      have b1 : (j : Int) ≥ 0 := by omega
      have b2 : IntKind.i64.wrap ((j : Int) - 1) = (j : Int) - 1 := wrap_id64 (by omega) (by omega)
      clear e1
      go_wp2_with fail
      refine (HD.out hr j _ HX'.out HPM.out (by omega) HF.out).mono ?_
      rintro e w2 ⟨⟨b, rfl⟩, hr2, hx2, hp2, hf2, _, hk2⟩
      have HX2 : Hid (HX w2 q hr2) := hx2
      have HP2 : Hid (hr2.Perm hs) := hp2.trans HPM.out
      have HF2 : Hid (HpF hr2 j N) := hf2
      have HK2 : Hid (HK q w1 w2) := HKW.out.trans hk2
      rename_i hjunk
      clear hx2 hp2 hf2 hk2 hjunk
      go_wp2_with fail
      go_roundw
      case rel => exact ⟨j, hr2, rfl, by omega, HX2.out, HP2.out, HF2.out, HK2.out⟩
      case measure => simp [intOf]

set_option maxHeartbeats 1000000 in
set_option maxRecDepth 100000 in
theorem heapPush_any (q : Nat) (hs : List Hd) (x : Hd) (w : World) (h : HX w q hs) (hl : hs.length ≤ 5000) (hp : HpF hs 0 hs.length) :
    Calls Try.prog 74 #[hpV q, .iface 99 (.agg #[.int .i64 x.x.1, .int .i64 x.x.2, .slice x.a x.n x.c])] w fun e w' => e = .returned (.tuple #[]) ∧ UpP w q (hs ++ [x]) w' := by
  unfold hpV
  have H0 : Hid (HX w q hs) := h
  have mN := nilLen q
  have mP := nilPush q
  have HP0 : Hid (∀ X, HX X q hs → Calls Try.prog 69 #[.pointer (some ⟨q, 0, none⟩), .iface 99 (.agg #[.int .i64 x.x.1, .int .i64 x.x.2, .slice x.a x.n x.c])] X fun e w' => e = .returned (.tuple #[]) ∧ HX w' q (hs ++ [x]) ∧ HK q X w') := fun X hX => hPush_any q hs x X hX hl
  have HU : Hid (∀ X, HX X q (hs ++ [x]) → Calls Try.prog 92 #[.iface 93 (.pointer (some ⟨q, 0, none⟩)), .int .i64 (hs.length : Nat)] X fun e w' => e = .returned (.tuple #[]) ∧ UpP X q (hs ++ [x]) w') := fun X hX => up_any q (hs ++ [x]) hs.length X hX (by simp) (by simp; omega) (by
    have := HpU.start (x := x) hp
    simpa using this)
  have HLN : Hid (∀ X, HX X q (hs ++ [x]) → Calls Try.prog 72 #[.pointer (some ⟨q, 0, none⟩)] X fun e w' => e = .returned (.int .i64 ((hs.length : Int) + 1)) ∧ w' = X) := fun X hX => by
    have := hLen_any q (hs ++ [x]) X hX
    simpa using this
  have a4 : IntKind.i64.wrap ((hs.length : Int) + 1 - 1) = (hs.length : Int) := by rw [Int.add_sub_cancel]; exact wrap_id64 (by omega) (by omega)
  clear h hp
  generalize hs ++ [x] = hn at *
  go_enter Try.func74, Try.ntmps74
  go_wp2_with fail
  refine (HP0.out _ H0.out).mono ?_
  rintro e w1 ⟨rfl, hx1, hk1⟩
  have HX1 : Hid (HX w1 q hn) := hx1
  have HK1 : Hid (HK q w w1) := hk1
  clear hx1 hk1 HP0 mP
  go_wp2_with fail
  refine (HLN.out _ HX1.out).mono ?_
  rintro e w2 ⟨rfl, rfl⟩
  go_wp2_with fail
  refine (HU.out _ HX1.out).mono ?_
  rintro e w3 ⟨rfl, hr, hx3, hp3, hf3, hk3⟩
  have HE : Hid (UpP w q hn w3) := ⟨hr, hx3, hp3, hf3, HK1.out.trans hk3⟩
  clear hx3 hp3 hf3 hk3
  go_wp2_with fail
  go_end0
  exact ⟨rfl, HE.out⟩

/-- What Pop answers and leaves. -/
def PopP (w : World) (q : Nat) (hs : List Hd) (e : Ending) (w' : World) : Prop := ∃ x hr, e = .returned (.iface 99 (.agg #[.int .i64 x.x.1, .int .i64 x.x.2, .slice x.a x.n x.c])) ∧ HX w' q hr ∧ (x :: hr).Perm hs ∧ HpF hr 0 hr.length ∧ (∀ y ∈ hs, leD x y) ∧ HK q w w'
theorem HpF.take {hs : List Hd} {x : Hd} {n : Nat} (h : HpF (hs ++ [x]) 0 n) (hn : hs.length = n) : HpF hs 0 hs.length := fun k p u v k0 k1 k2 k3 hu hv =>
  h k p u v k0 (by omega) k2 k3 (by rw [List.getElem?_append_left (by omega)]; exact hu) (by rw [List.getElem?_append_left (by omega)]; exact hv)

set_option maxHeartbeats 1000000 in
set_option maxRecDepth 100000 in
theorem heapPop_any (q : Nat) (hs : List Hd) (w : World) (h : HX w q hs) (hl : hs.length ≤ 5000) (h0 : 0 < hs.length) (hp : HpF hs 0 hs.length) :
    Calls Try.prog 73 #[hpV q] w (PopP w q hs) := by
  unfold hpV
  have H0 : Hid (HX w q hs) := h
  have mN := nilLen q
  have mP := nilPop q
  have mS := nilSwap q
  obtain ⟨n, hn⟩ : ∃ n, hs.length = n + 1 := ⟨hs.length - 1, by omega⟩
  obtain ⟨x, hx⟩ := getX h0
  obtain ⟨y, hy⟩ := getX (es := hs) (i := n) (by omega)
  have HLN : Hid (∀ X, HX X q hs → Calls Try.prog 72 #[.pointer (some ⟨q, 0, none⟩)] X fun e w' => e = .returned (.int .i64 ((n : Int) + 1)) ∧ w' = X) := fun X hX => by
    have := hLen_any q hs X hX
    rw [hn] at this
    simpa using this
  have HSW : Hid (∀ X, HX X q hs → Calls Try.prog 120 #[.pointer (some ⟨q, 0, none⟩), .int .i64 0, .int .i64 (n : Nat)] X fun e w' => e = .returned (.tuple #[]) ∧ HX w' q ((hs.set 0 y).set n x) ∧ HK q X w') := fun X hX => hSwap_any q hs 0 n x y X hX hx hy
  have hpm : ((hs.set 0 y).set n x).Perm hs := swap_perm hx hy
  have hsn : ((hs.set 0 y).set n x)[n]? = some x := by rw [swap_at hx hy, if_pos rfl]
  have hf1 : HpF ((hs.set 0 y).set n x) 1 n := fun k p u v k0 k1 k2 k3 hu hv => by
    rw [swap_at hx hy, if_neg (by omega), if_neg (by omega)] at hu hv
    exact hp k p u v k0 (by omega) k2 (by omega) hu hv
  have HLO : Hid (∀ u ∈ hs, leD x u) := fun u hu => by
    obtain ⟨k, hk, rfl⟩ := List.getElem_of_mem hu
    exact hp.root (Nat.le_refl _) hx k _ hk (List.getElem?_eq_getElem hk)
  have HDN : Hid (∀ X, HX X q ((hs.set 0 y).set n x) → Calls Try.prog 91 #[.iface 93 (.pointer (some ⟨q, 0, none⟩)), .int .i64 0, .int .i64 (n : Nat)] X fun e w' => RetB e ∧ ∃ hr, HX w' q (hr ++ [x]) ∧ (x :: hr).Perm hs ∧ HpF hr 0 hr.length ∧ HK q X w') := fun X hX =>
    (down_any q ((hs.set 0 y).set n x) 0 n X hX (by rw [hpm.length_eq]; omega) (by rw [hpm.length_eq]; omega) (by omega) hf1).mono fun e w' he => by
      obtain ⟨hb, hr, hx2, hp2, hf2, hk2, hkk⟩ := he
      have hlen : hr.length = n + 1 := by rw [hp2.length_eq, hpm.length_eq, hn]
      have hlast : hr[n]? = some x := (hk2 n (Nat.le_refl _)).trans hsn
      have hsplit : hr = hr.take n ++ [x] := by
        have := take_snoc hlast
        rw [List.take_of_length_le (by omega)] at this
        exact this
      refine ⟨hb, hr.take n, by rw [← hsplit]; exact hx2, ?_, HpF.take (x := x) (n := n) (by rw [← hsplit]; exact hf2) (by rw [List.length_take]; omega), hkk⟩
      refine List.Perm.trans ?_ (hp2.trans hpm)
      exact (List.perm_append_singleton x (hr.take n)).symm.trans (by rw [← hsplit])
  have a4 : IntKind.i64.wrap ((n : Int) + 1 - 1) = (n : Int) := by rw [Int.add_sub_cancel]; exact wrap_id64 (by omega) (by omega)
  have HPF : Hid (∀ hr e w', e = .returned (.iface 99 (.agg #[.int .i64 x.x.1, .int .i64 x.x.2, .slice x.a x.n x.c])) → HX w' q hr → (x :: hr).Perm hs → HpF hr 0 hr.length → HK q w w' → PopP w q hs e w') := fun hr e w' h1 h2 h3 h4 h5 => ⟨x, hr, h1, h2, h3, h4, HLO.out, h5⟩
  have hn5 : n ≤ 5000 := by omega
  clear h hp hpm hsn hf1 hn hx hy h0 HLO
  generalize PopP w q hs = P at *
  generalize (hs.set 0 y).set n x = h1 at *
  go_enter Try.func73, Try.ntmps73
  go_wp2_with fail
  refine (HLN.out _ H0.out).mono ?_
  rintro e w1 ⟨rfl, rfl⟩
  clear HLN
  go_wp2_with fail
  refine (HSW.out _ H0.out).mono ?_
  rintro e w2 ⟨rfl, hx2, hk2⟩
  have HX2 : Hid (HX w2 q h1) := hx2
  have HK2 : Hid (HK q w1 w2) := hk2
  clear hx2 hk2 HSW
  go_wp2_with fail
  refine (HDN.out _ HX2.out).mono ?_
  rintro e w3 ⟨⟨b, rfl⟩, hr, hx3, hp3, hf3, hk3⟩
  have HX3 : Hid (HX w3 q (hr ++ [x])) := hx3
  have HP3 : Hid ((x :: hr).Perm hs) := hp3
  have HF3 : Hid (HpF hr 0 hr.length) := hf3
  have HK3 : Hid (HK q w1 w3) := HK2.out.trans hk3
  clear hx3 hp3 hf3 hk3 HDN
  go_wp2_with fail
  refine (hPop_any q hr x _ HX3.out).mono ?_
  rintro e w4 ⟨rfl, hx4, hk4⟩
  have HE : Hid (P (.returned (.iface 99 (.agg #[.int .i64 x.x.1, .int .i64 x.x.2, .slice x.a x.n x.c]))) w4) := HPF.out hr _ _ rfl hx4 HP3.out HF3.out (HK3.out.trans hk4)
  clear hx4 hk4
  go_wp2_with fail
  exact HE.out
end Go.Proofs.Ytihghhmhgakkaaa

namespace Go.Proofs.Ytihghhmhgakkaaa
set_option maxRecDepth 100000
open Go.ChangeShapes Go.WideShapes Go.ChangeAt Go.RowKit

/-- All mail of a head, and of heads. -/
def Hd.all (h : Hd) : List Ml := h.x :: h.r
def flatD (hs : List Hd) : List Ml := hs.flatMap Hd.all
/-- The rest of a head reads, and all of it is in order. -/
def Gd (w : World) (h : Hd) : Prop := MlR w (.slice h.a h.n h.c) h.r ∧ InM h.all
theorem flatD_perm {a b : List Hd} (h : a.Perm b) : (flatD a).Perm (flatD b) := h.flatMap_right _
theorem flatD_len : ∀ (hs : List Hd), hs.length ≤ (flatD hs).length
  | [] => Nat.le_refl _
  | h :: hs => by
    have := flatD_len hs
    unfold flatD at *
    rw [List.flatMap_cons, List.length_append, Hd.all, List.length_cons, List.length_cons]
    omega
theorem flatD_snoc (hs : List Hd) (h : Hd) : flatD (hs ++ [h]) = flatD hs ++ h.all := by unfold flatD; simp
theorem flatD_cons (hs : List Hd) (h : Hd) : flatD (h :: hs) = h.all ++ flatD hs := by unfold flatD; simp
theorem leM_of {x y : Hd} (h : leD x y) : leM x.x y.x = true := (leM_iff _ _).2 h
theorem all_ge {h : Hd} (hs : InM h.all) : ∀ z ∈ h.all, leM h.x z = true := by
  intro z hz
  unfold Hd.all at hz hs
  rcases List.mem_cons.1 hz with rfl | hz
  · exact leM_refl _
  · exact List.rel_of_pairwise_cons hs hz
/-- What is out is in order, and not behind what is not. -/
structure Mg (F out : List Ml) (hs : List Hd) : Prop where
  perm : (out ++ flatD hs).Perm F
  inO : InM out
  le : ∀ a ∈ out, ∀ b ∈ flatD hs, leM a b = true
theorem Mg.done {F out : List Ml} (h : Mg F out []) : out = sortM F := sortedM_uniq (by have := h.perm; simpa [flatD] using this) h.inO
theorem Mg.start {F : List Ml} {hs hr : List Hd} (h : flatD hs = F) (hp : hr.Perm hs) : Mg F [] hr := ⟨by rw [← h]; exact flatD_perm hp, List.Pairwise.nil, fun a ha => by simp at ha⟩
theorem Mg.heads {F out : List Ml} {hs : List Hd} (h : Mg F out hs) : out.length + hs.length ≤ F.length := by
  have := h.perm.length_eq
  rw [List.length_append] at this
  have := flatD_len hs
  omega
theorem Mg.snoc {F out : List Ml} {hs hr : List Hd} {x : Hd} (h : Mg F out hs) (hp : (x :: hr).Perm hs) (hle : ∀ y ∈ hs, leD x y) (hg : ∀ y ∈ hs, InM y.all) : InM (out ++ [x.x]) ∧ (∀ a ∈ out ++ [x.x], ∀ b ∈ flatD hs, leM a b = true) := by
  have hx : x ∈ hs := hp.subset (by simp)
  have hxf : x.x ∈ flatD hs := List.mem_flatMap.2 ⟨x, hx, by simp [Hd.all]⟩
  have hmin : ∀ b ∈ flatD hs, leM x.x b = true := fun b hb => by
    obtain ⟨y, hy, hb⟩ := List.mem_flatMap.1 hb
    exact leM_trans _ _ _ (leM_of (hle y hy)) (all_ge (hg y hy) b hb)
  refine ⟨?_, fun a ha b hb => ?_⟩
  · unfold InM
    rw [List.pairwise_append]
    exact ⟨h.inO, by simp, fun a ha b hb => by simp at hb; subst hb; exact h.le a ha _ hxf⟩
  · rcases List.mem_append.1 ha with ha | ha
    · exact h.le a ha b hb
    · simp at ha; subst ha; exact hmin b hb
/-- The least head is out, and its rest is another head. -/
theorem Mg.next {F out : List Ml} {hs hr hn : List Hd} {x y : Hd} (h : Mg F out hs) (hp : (x :: hr).Perm hs) (hle : ∀ y ∈ hs, leD x y) (hg : ∀ y ∈ hs, InM y.all) (hy : y.all = x.r) (hn2 : hn.Perm (hr ++ [y])) : Mg F (out ++ [x.x]) hn := by
  obtain ⟨h1, h2⟩ := h.snoc hp hle hg
  have e1 : (flatD hn).Perm (x.r ++ flatD hr) := by
    refine (flatD_perm hn2).trans ?_
    rw [flatD_snoc, hy]
    exact List.perm_append_comm
  have e2 : (flatD hs).Perm (x.x :: (x.r ++ flatD hr)) := by
    refine (flatD_perm hp.symm).trans ?_
    rw [flatD_cons]
    exact List.Perm.refl _
  refine ⟨?_, h1, fun a ha b hb => h2 a ha b ?_⟩
  · refine List.Perm.trans ?_ h.perm
    rw [List.append_assoc]
    refine List.Perm.append_left out ?_
    exact (List.Perm.cons x.x e1).trans e2.symm
  · exact e2.symm.subset (List.mem_cons_of_mem _ (e1.subset hb))
/-- The least head is out, and it has no rest. -/
theorem Mg.last {F out : List Ml} {hs hr : List Hd} {x : Hd} (h : Mg F out hs) (hp : (x :: hr).Perm hs) (hle : ∀ y ∈ hs, leD x y) (hg : ∀ y ∈ hs, InM y.all) (hx : x.r = []) : Mg F (out ++ [x.x]) hr := by
  obtain ⟨h1, h2⟩ := h.snoc hp hle hg
  have e2 : (flatD hs).Perm (x.x :: flatD hr) := by
    refine (flatD_perm hp.symm).trans ?_
    rw [flatD_cons, Hd.all, hx]
    exact List.Perm.refl _
  refine ⟨?_, h1, fun a ha b hb => h2 a ha b ?_⟩
  · refine List.Perm.trans ?_ h.perm
    rw [List.append_assoc]
    exact List.Perm.append_left out e2.symm
  · exact e2.symm.subset (List.mem_cons_of_mem _ hb)
end Go.Proofs.Ytihghhmhgakkaaa

namespace Go.Proofs.Ytihghhmhgakkaaa
set_option maxRecDepth 100000
open Go.ChangeShapes Go.WideShapes Go.ChangeAt Go.RowKit

theorem HX.start (w : World) : HX (w.alloc (.cells #[.slice none 0 0, fnM] 96)) w.heap.size [] := ⟨_, heap_alloc_new w _, World.ownsRow_nil _ _ _ _⟩
theorem heap_second2 (w : World) (o1 o2 : Obj) : ((w.alloc o1).alloc o2).heap[w.heap.size]? = some o1 := by
  have := heap_alloc_new w o1
  rw [← this]
  exact (below_alloc (w.alloc o1) o2).block w.heap.size (by simp)
/-- How long a slice is. -/
def lenV : Value → Nat
  | .slice _ n _ => n
  | _ => 0
theorem lenV_own {w : World} {base : Nat} {e : TypeId} {k n : Nat} {v : Value} {xs : List Value} (h : w.ownsRow base e k v n xs) : lenV v = n := by
  rcases own_shapeK h with ⟨rfl, h0, _⟩ | ⟨g, cap, rfl, _⟩
  · exact h0.symm
  · rfl

set_option maxHeartbeats 4000000 in
set_option maxRecDepth 100000 in
theorem merged_any (v : Value) (f : List (List Ml)) (w : World) (h : LmR w v f) (hf : f.length ≤ 5000) (hs : sumM f ≤ 5000) (hin : ∀ l ∈ f, InM l) :
    Calls Try.prog 54 #[v, .func (.func 51) #[] #[]] w fun e w' => ∃ v', e = .returned v' ∧ w'.ownsRow w.heap.size 27 2 v' (sortM f.flatten).length ((sortM f.flatten).flatMap encM) ∧ Below w.heap.size w w' := by
  have HR : Hid (LmR w v f) := h
  have HIN : Hid (∀ l ∈ f, InM l) := hin
  have HFL : Hid (f.flatten.length ≤ 5000) := by show _ ≤ _; rw [sumM_flat]; exact hs
  obtain ⟨a, cap, rfl, hc, hm, _⟩ := h
  unfold maxLen at hm
  have ta := assertD
  obtain ⟨F, hFe⟩ : ∃ F, f.flatten = F := ⟨_, rfl⟩
  have HFE : Hid (f.flatten = F) := hFe
  rw [hFe] at HFL ⊢
  clear hin hs hFe
  go_enter Try.func54, Try.ntmps54
  go_wp2_with fail
  have HX0 : Hid (HX (w.alloc (.cells #[.slice none 0 0, .func (.func 51) #[] #[]] 96)) w.heap.size []) := HX.start w
  have HB0 : Hid (Below w.heap.size w (w.alloc (.cells #[.slice none 0 0, .func (.func 51) #[] #[]] 96))) := below_alloc w _
  have hsz0 : (w.alloc (.cells #[.slice none 0 0, .func (.func 51) #[] #[]] 96)).heap.size = w.heap.size + 1 := by simp
  generalize w.alloc (.cells #[.slice none 0 0, .func (.func 51) #[] #[]] 96) = w0 at *
  have HSZ : Hid (w0.heap.size = w.heap.size + 1) := hsz0
  have hq0 : w.heap.size < w0.heap.size := by omega
  clear hsz0
  go_loopw [15] (fun i wr => ∃ (k : Nat) (hs : List Hd), k ≤ f.length ∧ i = .int .i64 k ∧ hs.length ≤ k ∧ HX wr w.heap.size hs ∧ flatD hs = (f.take k).flatten ∧ (∀ x ∈ hs, Gd w x) ∧ HK w.heap.size w0 wr) (fun i _ => f.length - (intOf i).toNat)
  case atStart => exact ⟨0, [], by omega, rfl, Nat.le_refl _, HX0.out, rfl, fun x hx => by simp at hx, HK.refl _ _⟩
  case round =>
    obtain ⟨k, hs, hk, rfl, hlk, hX, hfl, hgd, hK⟩ := hrel
    have HX' : Hid (HX wr w.heap.size hs) := hX
    have HF : Hid (flatD hs = (f.take k).flatten) := hfl
    have HG : Hid (∀ x ∈ hs, Gd w x) := hgd
    have HKW : Hid (HK w.heap.size w0 wr) := hK
    have HBW : Hid (Below w.heap.size w wr) := HB0.out.trans (hK.below (by omega))
    clear hX hfl hgd hK
    by_cases hlt : k < f.length
    · obtain ⟨b, off, cap', e1, lt, _, _, hv⟩ := (HR.out.below HBW.out (Nat.le_refl _)).at (by omega)
      injection e1 with e1 _ e3
      subst e1 e3
      obtain ⟨l, hl⟩ := getX hlt
      obtain ⟨u, hu, hpr⟩ := hv k l hl
      obtain ⟨b', off', cap'', e2, lt', _, _, hv'⟩ := HR.out.at (by omega)
      injection e2 with e2 _ e4
      injection e2 with e2
      injection e2 with e2 e2'
      subst e2 e2' e4
      obtain ⟨u', hu', hpr'⟩ := hv' k l hl
      have huu : u' = u := by
        have := (HBW.out.cell (p := ⟨b, off + k, none⟩) (by exact lt')).trans hu'
        rw [hu] at this
        injection this with this
        exact this.symm
      subst huu
      have HPR : Hid (MlR wr u' l) := hpr
      have HPW : Hid (MlR w u' l) := hpr'
      have HT : Hid (f.take (k + 1) = f.take k ++ [l]) := take_snoc hl
      have HIL : Hid (InM l) := HIN.out l (List.mem_of_getElem? hl)
      obtain ⟨ua, uc, rfl⟩ := hpr.shape
      clear hv hv' hl hpr hpr' hu'
      cases l with
      | nil =>
        have HF2 : Hid (flatD hs = (f.take (k + 1)).flatten) := by show _ = _; rw [HT.out, HF.out]; simp
        have z1 : ¬ ((([] : List Ml).length : Int) > 0) := by simp
        go_wp2_with fail
        go_roundw
        case rel => exact ⟨k + 1, hs, by omega, by go_num, by omega, HX'.out, HF2.out, HG.out, HKW.out⟩
        case measure => simp [intOf]; omega
      | cons x l =>
        have z1 : (((x :: l).length : Nat) : Int) > 0 := by simp
        go_wp2_with fail
        refine (headOf_any _ x l _ HPR.out).mono ?_
        rintro e w1 ⟨ha, hcc, rfl, hrd, hb1⟩
        have HX1 : Hid (HX w1 w.heap.size hs) := HX'.out.below hb1
        have HK1 : Hid (HK w.heap.size w0 w1) := HKW.out.trans (HK.of hb1)
        have HG2 : Hid (∀ y ∈ hs ++ [⟨x, ha, l.length, hcc, l⟩], Gd w y) := fun y hy => by
          rcases List.mem_append.1 hy with hy | hy
          · exact HG.out y hy
          · simp at hy
            subst hy
            exact ⟨hrd w HPW.out, HIL.out⟩
        have HF2 : Hid (flatD (hs ++ [⟨x, ha, l.length, hcc, l⟩]) = (f.take (k + 1)).flatten) := by
          show _ = _
          rw [HT.out, flatD_snoc, HF.out]
          simp [Hd.all]
        have HPU : Hid (∀ X, HX X w.heap.size hs → Calls Try.prog 69 #[.pointer (some ⟨w.heap.size, 0, none⟩), .iface 99 (.agg #[.int .i64 x.1, .int .i64 x.2, .slice ha l.length hcc])] X fun e w' => e = .returned (.tuple #[]) ∧ HX w' w.heap.size (hs ++ [⟨x, ha, l.length, hcc, l⟩]) ∧ HK w.heap.size X w') := fun X hX => hPush_any w.heap.size hs ⟨x, ha, l.length, hcc, l⟩ X hX (by omega)
        have hl2 : (hs ++ [(⟨x, ha, l.length, hcc, l⟩ : Hd)]).length ≤ k + 1 := by simp; omega
        clear hrd hb1
        generalize hs ++ [(⟨x, ha, l.length, hcc, l⟩ : Hd)] = hs2 at *
        go_wp2_with fail
        refine (HPU.out _ HX1.out).mono ?_
        rintro e w2 ⟨rfl, hx2, hk2⟩
        have HX2 : Hid (HX w2 w.heap.size hs2) := hx2
        have HK2 : Hid (HK w.heap.size w0 w2) := HK1.out.trans hk2
        clear hx2 hk2 HPU
        go_wp2_with fail
        go_roundw
        case rel => exact ⟨k + 1, hs2, by omega, by go_num, hl2, HX2.out, HF2.out, HG2.out, HK2.out⟩
        case measure => simp [intOf]; omega
    · have ek : f.take k = f := List.take_of_length_le (by omega)
      have HF2 : Hid (flatD hs = F) := by show _ = _; rw [HF.out, ek]; exact HFE.out
      clear ek HF
      have HIT : Hid (∀ X, HX X w.heap.size hs → Calls Try.prog 71 #[.iface 93 (.pointer (some ⟨w.heap.size, 0, none⟩))] X fun e w' => e = .returned (.tuple #[]) ∧ UpP X w.heap.size hs w') := fun X hX => init_any w.heap.size hs X hX (by omega)
      go_wp2_with fail
      refine (HIT.out _ HX'.out).mono ?_
      rintro e w1 ⟨rfl, hr, hx1, hp1, hf1, hk1⟩
      have HX1 : Hid (HX w1 w.heap.size hr) := hx1
      have HK1 : Hid (HK w.heap.size w0 w1) := HKW.out.trans hk1
      have HG1 : Hid (∀ y ∈ hr, Gd w y) := fun y hy => HG.out y (hp1.subset hy)
      have HM1 : Hid (Mg F [] hr) := Mg.start HF2.out hp1
      have HP1 : Hid (HpF hr 0 hr.length) := hf1
      clear hx1 hp1 hf1 hk1 HX' HG HKW HBW HF2 HIT
      go_wp2_with fail
      go_loopw [8] (fun u wr => ∃ (out : List Ml) (hs : List Hd), wr.ownsRow (w.heap.size + 1) 27 2 u out.length (out.flatMap encM) ∧ HX wr w.heap.size hs ∧ HpF hs 0 hs.length ∧ Mg F out hs ∧ (∀ x ∈ hs, Gd w x) ∧ HK w.heap.size w0 wr) (fun u _ => F.length - lenV u)
      case atStart => exact ⟨[], hr, World.ownsRow_nil _ _ _ _, HX1.out, HP1.out, HM1.out, HG1.out, HK1.out⟩
      case round =>
        obtain ⟨out, hs, ho, hX, hpf, hmg, hgd, hK⟩ := hrel
        have OW : Hid (wr.ownsRow (w.heap.size + 1) 27 2 u8 out.length (out.flatMap encM)) := ho
        have HX' : Hid (HX wr w.heap.size hs) := hX
        have HPF : Hid (HpF hs 0 hs.length) := hpf
        have HM : Hid (Mg F out hs) := hmg
        have HG : Hid (∀ x ∈ hs, Gd w x) := hgd
        have HKW : Hid (HK w.heap.size w0 wr) := hK
        have hhd := hmg.heads
        have hF5 := HFL.out
        have HLN : Hid (∀ X, HX X w.heap.size hs → Calls Try.prog 72 #[.pointer (some ⟨w.heap.size, 0, none⟩)] X fun e w' => e = .returned (.int .i64 hs.length) ∧ w' = X) := fun X hX => hLen_any w.heap.size hs X hX
        have HUL : Hid (lenV u8 = out.length) := lenV_own ho
        clear ho hX hpf hmg hgd hK
        go_wp2_with fail
        refine (HLN.out _ HX'.out).mono ?_
        rintro e wr ⟨rfl, rfl⟩
        clear HLN
        by_cases hn : 0 < hs.length
        · have z1 : (hs.length : Int) > 0 := by omega
          have HPO : Hid (∀ X, HX X w.heap.size hs → Calls Try.prog 73 #[.iface 93 (.pointer (some ⟨w.heap.size, 0, none⟩))] X (PopP X w.heap.size hs)) := fun X hX => heapPop_any w.heap.size hs X hX (by omega) hn HPF.out
          go_wp2_with fail
          refine (HPO.out _ HX'.out).mono ?_
          rintro e w3 ⟨x, hr3, rfl, hx3, hp3, hf3, hle3, hk3⟩
          have HX3 : Hid (HX w3 w.heap.size hr3) := hx3
          have HP3 : Hid ((x :: hr3).Perm hs) := hp3
          have HF3 : Hid (HpF hr3 0 hr3.length) := hf3
          have HL3 : Hid (∀ y ∈ hs, leD x y) := hle3
          have HK3 : Hid (HK w.heap.size w0 w3) := HKW.out.trans hk3
          have O3 : Hid (w3.ownsRow (w.heap.size + 1) 27 2 u8 out.length (out.flatMap encM)) := hk3.own OW.out (by decide) (by decide)
          have HGX : Hid (Gd w x) := HG.out x (hp3.subset (by simp))
          have hlr : hr3.length + 1 = hs.length := by have := hp3.length_eq; simpa using this
          have hlr1 : hr3.length ≤ 5000 := by omega
          have hs3 : w.heap.size + 1 ≤ w3.heap.size := by have := HK3.out.size; omega
          clear hx3 hp3 hf3 hle3 hk3 hlr HPO OW
          have hg1 : w3.heap.size + 1 ≤ (w3.alloc (.cells #[.int .i64 x.x.1, .int .i64 x.x.2, .slice x.a x.n x.c] 99)).heap.size := by simp
          go_wp2_with (at_builtin; refine wpList_append_newK kM rfl _ _ rfl (w.heap.size + 1) _ out rfl ((O3.out.alloc _).alloc _) (w3.heap.size + 1) x.x rfl #[.int .i64 x.x.1, .int .i64 x.x.2] rfl (0, 0) (heap_second _ _ _ _) (by simp [kM]; omega) (by unfold maxLen; omega) (by simp; omega) ?_)
          intro g c w4 hown4 hb4 hg4
          have hsz4 : ((w3.alloc (.cells #[.int .i64 x.x.1, .int .i64 x.x.2, .slice x.a x.n x.c] 99)).alloc (.cells #[.int .i64 x.x.1, .int .i64 x.x.2] 27)).heap.size = w3.heap.size + 2 := by simp
          have hB2 : Below w3.heap.size w3 ((w3.alloc (.cells #[.int .i64 x.x.1, .int .i64 x.x.2, .slice x.a x.n x.c] 99)).alloc (.cells #[.int .i64 x.x.1, .int .i64 x.x.2] 27)) := (below_alloc w3 _).alloc (by simp) _
          have hbx := heap_second2 w3 (.cells #[.int .i64 x.x.1, .int .i64 x.x.2, .slice x.a x.n x.c] 99) (.cells #[.int .i64 x.x.1, .int .i64 x.x.2] 27)
          have hbx4 : w4.heap[w3.heap.size]? = some (.cells #[.int .i64 x.x.1, .int .i64 x.x.2, .slice x.a x.n x.c] 99 (0, 0)) := (hg4.block w3.heap.size (by rw [hsz4]; omega) (fun e => by have := (O3.out.lt _ e.symm).2; omega)).trans hbx
          have k0 : w4.cell? ⟨w3.heap.size, 0, none⟩ = some (.int .i64 x.x.1) := by rw [cell_of_row _ _ _ _ _ _ hbx4]; rfl
          have k1 : w4.cell? ⟨w3.heap.size, 1, none⟩ = some (.int .i64 x.x.2) := by rw [cell_of_row _ _ _ _ _ _ hbx4]; rfl
          have k2 : w4.cell? ⟨w3.heap.size, 2, none⟩ = some (.slice x.a x.n x.c) := by rw [cell_of_row _ _ _ _ _ _ hbx4]; rfl
          have HX4 : Hid (HX w4 w.heap.size hr3) := (HX3.out.below hB2).grown (((O3.out.alloc _).alloc _)) hg4 (by decide) (by decide)
          have O4 : Hid (w4.ownsRow (w.heap.size + 1) 27 2 (.slice (some ⟨g, 0, none⟩) (out.length + 1) c) (out ++ [x.x]).length ((out ++ [x.x]).flatMap encM)) := by
            show World.ownsRow _ _ _ _ _ _ _
            rw [flat_snoc, List.length_append]; exact hown4
          have HK4 : Hid (HK w.heap.size w0 w4) := HK.grown (HK3.out.trans (HK.of hB2)) hg4 fun k hk => .inl (by have := (O3.out.lt k hk).1; have := HSZ.out; omega)
          have HW4 : Hid (Below w.heap.size w w4) := HB0.out.trans (HK4.out.below (by omega))
          clear hown4 hb4 hg4 hB2 hbx hbx4 hsz4 hg1
          have HRX : Hid (MlR w4 (.slice x.a x.n x.c) x.r) := HGX.out.1.below HW4.out (Nat.le_refl _)
          have HNL : Hid (x.n = x.r.length) := by
            obtain ⟨_, _, e, _⟩ := HGX.out.1
            injection e
          have HGI : Hid (∀ y ∈ hs, InM y.all) := fun y hy => (HG.out y hy).2
          by_cases hn0 : 0 < x.n
          · have z2 : (x.n : Int) > 0 := by omega
            obtain ⟨y, r, hyr⟩ : ∃ y r, x.r = y :: r := by
              cases hxr : x.r with
              | nil => rw [HNL.out, hxr] at hn0; simp at hn0
              | cons y r => exact ⟨y, r, rfl⟩
            have HYR : Hid (x.r = y :: r) := hyr
            rw [hyr] at HRX
            clear hyr
            go_wp2_with fail
            refine (headOf_any _ y r _ HRX.out).mono ?_
            rintro e w5 ⟨ha, hcc, rfl, hrd, hb5⟩
            have HX5 : Hid (HX w5 w.heap.size hr3) := HX4.out.below hb5
            have HK5 : Hid (HK w.heap.size w0 w5) := HK4.out.trans (HK.of hb5)
            have O5 : Hid (w5.ownsRow (w.heap.size + 1) 27 2 (.slice (some ⟨g, 0, none⟩) (out.length + 1) c) (out ++ [x.x]).length ((out ++ [x.x]).flatMap encM)) := own_below O4.out hb5 (Nat.le_refl _)
            have HGN : Hid (Gd w ⟨y, ha, r.length, hcc, r⟩) := ⟨hrd w (by have := HGX.out.1; rwa [HYR.out] at this), by
              have := HGX.out.2
              unfold Hd.all at this
              rw [HYR.out] at this
              exact (List.pairwise_cons.1 this).2⟩
            have HPU : Hid (∀ X, HX X w.heap.size hr3 → Calls Try.prog 74 #[.iface 93 (.pointer (some ⟨w.heap.size, 0, none⟩)), .iface 99 (.agg #[.int .i64 y.1, .int .i64 y.2, .slice ha r.length hcc])] X fun e w' => e = .returned (.tuple #[]) ∧ UpP X w.heap.size (hr3 ++ [⟨y, ha, r.length, hcc, r⟩]) w') := fun X hX => heapPush_any w.heap.size hr3 ⟨y, ha, r.length, hcc, r⟩ X hX hlr1 HF3.out
            have HMN : Hid (∀ hn : List Hd, hn.Perm (hr3 ++ [⟨y, ha, r.length, hcc, r⟩]) → Mg F (out ++ [x.x]) hn) := fun hn hp => HM.out.next HP3.out HL3.out HGI.out (y := ⟨y, ha, r.length, hcc, r⟩) HYR.out.symm hp
            have HGA : Hid (∀ hn : List Hd, hn.Perm (hr3 ++ [⟨y, ha, r.length, hcc, r⟩]) → ∀ z ∈ hn, Gd w z) := fun hn hp z hz => by
              rcases List.mem_append.1 (hp.subset hz) with h | h
              · exact HG.out z (HP3.out.subset (List.mem_cons_of_mem _ h))
              · simp at h; subst h; exact HGN.out
            clear hrd hb5
            generalize hr3 ++ [(⟨y, ha, r.length, hcc, r⟩ : Hd)] = hA at *
            clear k0 k1 k2
            go_wp2_with fail
            refine (HPU.out _ HX5.out).mono ?_
            rintro e w6 ⟨rfl, hn6, hx6, hp6, hf6, hk6⟩
            have HX6 : Hid (HX w6 w.heap.size hn6) := hx6
            have HF6 : Hid (HpF hn6 0 hn6.length) := hf6
            have HM6 : Hid (Mg F (out ++ [x.x]) hn6) := HMN.out hn6 hp6
            have HG6 : Hid (∀ z ∈ hn6, Gd w z) := HGA.out hn6 hp6
            have O6 : Hid (w6.ownsRow (w.heap.size + 1) 27 2 (.slice (some ⟨g, 0, none⟩) (out.length + 1) c) (out ++ [x.x]).length ((out ++ [x.x]).flatMap encM)) := hk6.own O5.out (by decide) (by decide)
            have HK6 : Hid (HK w.heap.size w0 w6) := HK5.out.trans hk6
            clear hx6 hp6 hf6 hk6 HPU
            go_wp2_with fail
            go_roundw
            case rel => exact ⟨out ++ [x.x], hn6, O6.out, HX6.out, HF6.out, HM6.out, HG6.out, HK6.out⟩
            case measure =>
              show F.length - (out.length + 1) < F.length - lenV u8
              rw [HUL.out]
              omega
          · have z2 : ¬ (x.n : Int) > 0 := by omega
            have HXE : Hid (x.r = []) := List.eq_nil_of_length_eq_zero (by rw [← HNL.out]; omega)
            have HM5 : Hid (Mg F (out ++ [x.x]) hr3) := HM.out.last HP3.out HL3.out HGI.out HXE.out
            have HG5 : Hid (∀ z ∈ hr3, Gd w z) := fun z hz => HG.out z (HP3.out.subset (List.mem_cons_of_mem _ hz))
            go_wp2_with fail
            go_roundw
            case rel => exact ⟨out ++ [x.x], hr3, O4.out, HX4.out, HF3.out, HM5.out, HG5.out, HK4.out⟩
            case measure =>
              show F.length - (out.length + 1) < F.length - lenV u8
              rw [HUL.out]
              omega
        · have z1 : ¬ (hs.length : Int) > 0 := by omega
          have e0 : hs = [] := List.eq_nil_of_length_eq_zero (by omega)
          have HO : Hid (out = sortM F) := by
            have := HM.out
            rw [e0] at this
            exact this.done
          have OE : Hid (wr.ownsRow w.heap.size 27 2 u8 (sortM F).length ((sortM F).flatMap encM)) := by
            show World.ownsRow _ _ _ _ _ _ _
            rw [← HO.out]
            exact own_lower OW.out (by omega)
          have HBE : Hid (Below w.heap.size w wr) := HB0.out.trans (HKW.out.below (by omega))
          clear e0
          obtain ⟨ua, un, uc, rfl⟩ : ∃ a n c, u8 = .slice a n c := by obtain ⟨a, c, e, _⟩ := MlR.ownd OE.out; exact ⟨_, _, _, e⟩
          go_wp2_with fail
          go_ret
          exact ⟨_, rfl, OE.out, HBE.out⟩
end Go.Proofs.Ytihghhmhgakkaaa

namespace Go.Proofs.Ytihghhmhgakkaaa
set_option maxRecDepth 100000
open Go.ChangeShapes Go.WideShapes Go.ChangeAt Go.RowKit

set_option maxHeartbeats 2000000 in
set_option maxRecDepth 100000 in
theorem least_any (v : Value) (l : List Ml) (w : World) (h : MlR w v l) : Calls Try.prog 75 #[v] w (RefP w (errL l) (lowM l)) := by
  have HR : Hid (MlR w v l) := h
  obtain ⟨a, cap, rfl, hc, hm, _, _⟩ := h
  unfold maxLen at hm
  by_cases hn : l.length > 5000
  · rw [show errL l = 1 from if_pos hn]
    have HE : Hid (RefP w 1 (lowM l) (.returned (.tuple #[.slice none 0 0, .int .i64 1])) w) := RefP.no (by decide) (Below.refl _ _)
    generalize RefP w 1 (lowM l) = P at *
    go_enter Try.func75, Try.ntmps75
    go_wp2_with fail
    exact HE.out
  · have HC : Hid (∀ X, MlR X (.slice a l.length cap) l → Calls Try.prog 53 #[.slice a l.length cap] X fun e w' => e = .returned (.bool (srtMb l)) ∧ Below X.heap.size X w') := fun X hX => inOrderM_any _ l X hX
    have hel : errL l = if srtMb l then 0 else 3 := if_neg hn
    rw [hel]
    clear hel
    cases hso : srtMb l with
    | false =>
      rw [hso] at HC
      rw [if_neg (by decide)]
      have HE : Hid (∀ w', Below w.heap.size w w' → RefP w 3 (lowM l) (.returned (.tuple #[.slice none 0 0, .int .i64 3])) w') := fun w' hb => RefP.no (by decide) hb
      generalize RefP w 3 (lowM l) = P at *
      clear hso
      go_enter Try.func75, Try.ntmps75
      go_wp2_with fail
      refine (HC.out _ HR.out).mono ?_
      rintro e w1 ⟨rfl, hb1⟩
      have HX : Hid (P (.returned (.tuple #[.slice none 0 0, .int .i64 3])) w1) := HE.out _ hb1
      clear hb1
      go_wp2_with fail
      exact HX.out
    | true =>
      rw [hso] at HC
      rw [if_pos rfl]
      have HE : Hid (∀ v' w', w'.ownsRow w.heap.size 27 2 v' (lowM l).length ((lowM l).flatMap encM) → Below w.heap.size w w' → RefP w 0 (lowM l) (.returned (.tuple #[v', .int .i64 0])) w') := fun v' w' h1 h2 => RefP.yes h1 h2
      generalize RefP w 0 (lowM l) = P at *
      clear hso
      go_enter Try.func75, Try.ntmps75
      go_wp2_with fail
      refine (HC.out _ HR.out).mono ?_
      rintro e w1 ⟨rfl, hb1⟩
      have HB1 : Hid (Below w.heap.size w w1) := hb1
      clear hb1 HC
      go_wp2_with fail
      go_loopw [4, 15] (fun u i wr => ∃ k : Nat, k ≤ l.length ∧ i = .int .i64 k ∧ wr.ownsRow w.heap.size 27 2 u (lowT l k).length ((lowT l k).flatMap encM) ∧ Below w.heap.size w wr) (fun _ i _ => l.length - (intOf i).toNat)
      case atStart => exact ⟨0, by omega, rfl, World.ownsRow_nil _ _ _ _, HB1.out⟩
      case round =>
        obtain ⟨k, hk, rfl, hown, hbel⟩ := hrel
        have OW : Hid (wr.ownsRow w.heap.size 27 2 u4 (lowT l k).length ((lowT l k).flatMap encM)) := hown
        have HB : Hid (Below w.heap.size w wr) := hbel
        have hsr := hbel.size
        have hll := lowT_len l k
        clear hown hbel
        by_cases hlt : k < l.length
        · obtain ⟨b, off, cap', e1, _, _, lt, hv⟩ := MlR.at (HR.out.below HB.out (Nat.le_refl _)) (by omega)
          injection e1 with e1 _ e3
          subst e1 e3
          obtain ⟨x, hx⟩ := getX hlt
          obtain ⟨c1, c2⟩ := hv k x hx
          have p0 : (0 : Int) ≤ (k : Int) := by omega
          have p1 : (k : Int) < (l.length : Int) := by omega
          cases k with
          | zero =>
            have HY : Hid (lowT l 1 = lowT l 0 ++ [x]) := lowT_yes hx (keepB_zero l)
            simp only [Nat.zero_mul, Nat.add_zero] at c1 c2
            have q1 : (((0 : Nat) : Int) == 0) = true := by simp
            clear hv hx
            generalize lowT l 0 = t at *
            go_wp2_with fail
            go_quiet (fail)
            have O2 : Hid (((wr.alloc (.cells #[.int .i64 x.1, .int .i64 x.2] 27)).drewN nq).ownsRow w.heap.size 27 2 u4 t.length (t.flatMap encM)) := ⟨OW.out.1, (OW.out.alloc _).2⟩
            have HB2 : Hid (Below w.heap.size w ((wr.alloc (.cells #[.int .i64 x.1, .int .i64 x.2] 27)).drewN nq)) := below_drewN (HB.out.alloc hsr _) nq
            have hbx : ((wr.alloc (.cells #[.int .i64 x.1, .int .i64 x.2] 27)).drewN nq).heap[wr.heap.size]? = some (.cells #[.int .i64 x.1, .int .i64 x.2] 27 (0, 0)) := heap_alloc_new wr _
            generalize (wr.alloc (.cells #[.int .i64 x.1, .int .i64 x.2] 27)).drewN nq = w2 at *
            have hs2 := HB2.out.size
            have d1 : w2.cell? ⟨wr.heap.size, 0, none⟩ = some (.int .i64 x.1) := by rw [cell_of_row _ _ _ _ _ _ hbx]; rfl
            have d2 : w2.cell? ⟨wr.heap.size, 1, none⟩ = some (.int .i64 x.2) := by rw [cell_of_row _ _ _ _ _ _ hbx]; rfl
            clear c1 c2 hbx
            go_wp2_with (at_builtin; refine wpList_append_newK kM rfl _ _ rfl w.heap.size _ t rfl (O2.out.alloc _) w2.heap.size x rfl #[.int .i64 x.1, .int .i64 x.2] rfl (0, 0) (heap_alloc_new _ _) (by simp [kM]; omega) (by unfold maxLen; omega) (by simp; omega) ?_)
            intro g c w3 hown3 hb3 _
            have O3 : Hid (w3.ownsRow w.heap.size 27 2 (.slice (some ⟨g, 0, none⟩) (t.length + 1) c) (lowT l (0 + 1)).length ((lowT l (0 + 1)).flatMap encM)) := by
              show World.ownsRow _ _ _ _ _ _ _
              rw [HY.out, flat_snoc, List.length_append]; exact hown3
            have HB3 : Hid (Below w.heap.size w w3) := (HB2.out.alloc hs2 _).trans hb3
            clear hown3 hb3
            go_wp2_with fail
            go_roundw
            case rel => exact ⟨0 + 1, by omega, by go_num, O3.out, HB3.out⟩
            case measure => simp [intOf]; omega
          | succ j =>
            obtain ⟨y, hy⟩ := getX (show j < l.length by omega)
            obtain ⟨y1, _⟩ := hv j y hy
            have HKB : Hid (keepB l (j + 1) = decide (x.1 ≠ y.1)) := keepB_succ hx hy
            have HYY : Hid (keepB l (j + 1) = true → lowT l (j + 1 + 1) = lowT l (j + 1) ++ [x]) := fun h => lowT_yes hx h
            have HYN : Hid (keepB l (j + 1) = false → lowT l (j + 1 + 1) = lowT l (j + 1)) := fun h => lowT_no h
            have q1 : (((j + 1 : Nat) : Int) == 0) = false := by simp; omega
            have q2 : ((j : Int) + 1 == 0) = false := by simp; omega
            have q3 : (0 : Int) ≤ (j : Int) := by omega
            have q4 : (j : Int) < (l.length : Int) := by omega
            have q5 : IntKind.i64.wrap ((j : Int) + 1 - 1) = (j : Int) := by rw [Int.add_sub_cancel]; exact wrap_id64 (by omega) (by omega)
            have q6 : (0 : Int) ≤ (j : Int) + 1 := by omega
            have q7 : (j : Int) + 1 < (l.length : Int) := by omega
            clear hv hx hy
            generalize lowT l (j + 1) = t at *
            by_cases hxy : x.1 = y.1
            · have HY : Hid (lowT l (j + 1 + 1) = t) := HYN.out (by rw [HKB.out]; simpa using hxy)
              have r1 : (x.1 != y.1) = false := by simpa using hxy
              clear hxy HYY HYN HKB
              go_wp2_with fail
              go_quiet (fail)
              have O2 : Hid (((wr.alloc (.cells #[.int .i64 x.1, .int .i64 x.2] 27)).drewN nq).ownsRow w.heap.size 27 2 u4 t.length (t.flatMap encM)) := ⟨OW.out.1, (OW.out.alloc _).2⟩
              have HB2 : Hid (Below w.heap.size w ((wr.alloc (.cells #[.int .i64 x.1, .int .i64 x.2] 27)).drewN nq)) := below_drewN (HB.out.alloc hsr _) nq
              have hbx : ((wr.alloc (.cells #[.int .i64 x.1, .int .i64 x.2] 27)).drewN nq).heap[wr.heap.size]? = some (.cells #[.int .i64 x.1, .int .i64 x.2] 27 (0, 0)) := heap_alloc_new wr _
              generalize (wr.alloc (.cells #[.int .i64 x.1, .int .i64 x.2] 27)).drewN nq = w2 at *
              have hs2 := HB2.out.size
              have d1 : w2.cell? ⟨wr.heap.size, 0, none⟩ = some (.int .i64 x.1) := by rw [cell_of_row _ _ _ _ _ _ hbx]; rfl
              have d2 : w2.cell? ⟨wr.heap.size, 1, none⟩ = some (.int .i64 x.2) := by rw [cell_of_row _ _ _ _ _ _ hbx]; rfl
              clear c1 c2 hbx
              go_wp2_with fail
              go_roundw
              case rel => exact ⟨j + 1 + 1, by omega, by go_num, by rw [HY.out]; exact O2.out, HB2.out⟩
              case measure => simp [intOf]; omega
            · have HY : Hid (lowT l (j + 1 + 1) = t ++ [x]) := HYY.out (by rw [HKB.out]; simpa using hxy)
              have r1 : (x.1 != y.1) = true := by simpa using hxy
              clear hxy HYY HYN HKB
              go_wp2_with fail
              go_quiet (fail)
              have O2 : Hid (((wr.alloc (.cells #[.int .i64 x.1, .int .i64 x.2] 27)).drewN nq).ownsRow w.heap.size 27 2 u4 t.length (t.flatMap encM)) := ⟨OW.out.1, (OW.out.alloc _).2⟩
              have HB2 : Hid (Below w.heap.size w ((wr.alloc (.cells #[.int .i64 x.1, .int .i64 x.2] 27)).drewN nq)) := below_drewN (HB.out.alloc hsr _) nq
              have hbx : ((wr.alloc (.cells #[.int .i64 x.1, .int .i64 x.2] 27)).drewN nq).heap[wr.heap.size]? = some (.cells #[.int .i64 x.1, .int .i64 x.2] 27 (0, 0)) := heap_alloc_new wr _
              generalize (wr.alloc (.cells #[.int .i64 x.1, .int .i64 x.2] 27)).drewN nq = w2 at *
              have hs2 := HB2.out.size
              have d1 : w2.cell? ⟨wr.heap.size, 0, none⟩ = some (.int .i64 x.1) := by rw [cell_of_row _ _ _ _ _ _ hbx]; rfl
              have d2 : w2.cell? ⟨wr.heap.size, 1, none⟩ = some (.int .i64 x.2) := by rw [cell_of_row _ _ _ _ _ _ hbx]; rfl
              clear c1 c2 hbx
              go_wp2_with (at_builtin; refine wpList_append_newK kM rfl _ _ rfl w.heap.size _ t rfl (O2.out.alloc _) w2.heap.size x rfl #[.int .i64 x.1, .int .i64 x.2] rfl (0, 0) (heap_alloc_new _ _) (by simp [kM]; omega) (by unfold maxLen; omega) (by simp; omega) ?_)
              intro g c w3 hown3 hb3 _
              have O3 : Hid (w3.ownsRow w.heap.size 27 2 (.slice (some ⟨g, 0, none⟩) (t.length + 1) c) (lowT l ((j + 1) + 1)).length ((lowT l ((j + 1) + 1)).flatMap encM)) := by
                show World.ownsRow _ _ _ _ _ _ _
                rw [HY.out, flat_snoc, List.length_append]; exact hown3
              have HB3 : Hid (Below w.heap.size w w3) := (HB2.out.alloc hs2 _).trans hb3
              clear hown3 hb3
              go_wp2_with fail
              go_roundw
              case rel => exact ⟨(j + 1) + 1, by omega, by go_num, O3.out, HB3.out⟩
              case measure => simp [intOf]; omega
        · have ek : lowT l k = lowM l := by have : k = l.length := by omega
                                            rw [this]; rfl
          have HX : Hid (P (.returned (.tuple #[u4, .int .i64 0])) wr) := HE.out _ _ (by rw [← ek]; exact OW.out) HB.out
          obtain ⟨va, vn, vc, rfl⟩ : ∃ a n c, u4 = .slice a n c := by obtain ⟨a, c, e, _⟩ := MlR.ownd OW.out; exact ⟨_, _, _, e⟩
          clear ek hll
          go_wp2_with fail
          exact HX.out

set_option maxHeartbeats 2000000 in
set_option maxRecDepth 100000 in
theorem lists_merge (v : Value) (f : List (List Ml)) (w : World) (h : LmR w v f) (hb : ∀ l ∈ f, l.length ≤ 8796093022208) : Calls Try.prog 37 #[v] w (RefP w (errM f) (sortM f.flatten)) := by
  have HR : Hid (LmR w v f) := h
  have HSB : Hid (f.length ≤ 5000 → sumM f ≤ 4611686018427387904) := fun h => by
    have := sumM_bound f hb
    have h2 : f.length * 8796093022208 ≤ 5000 * 8796093022208 := Nat.mul_le_mul_right _ h
    omega
  obtain ⟨a, cap, rfl, hc, hm, _⟩ := h
  unfold maxLen at hm
  clear hb
  by_cases hn : f.length > 5000
  · rw [show errM f = 1 from if_pos (.inl hn)]
    have HE : Hid (RefP w 1 (sortM f.flatten) (.returned (.tuple #[.slice none 0 0, .int .i64 1])) w) := RefP.no (by decide) (Below.refl _ _)
    generalize RefP w 1 (sortM f.flatten) = P at *
    go_enter Try.func37, Try.ntmps37
    go_wp2_with fail
    exact HE.out
  · have HCT : Hid (∀ X, LmR X (.slice a f.length cap) f → Calls Try.prog 52 #[.slice a f.length cap] X fun e w' => e = .returned (.int .i64 (sumM f : Nat)) ∧ w' = X) := fun X hX => countM_any _ f X hX (HSB.out (by omega))
    by_cases hs : sumM f > 5000
    · rw [show errM f = 1 from if_pos (.inr hs)]
      have HE : Hid (RefP w 1 (sortM f.flatten) (.returned (.tuple #[.slice none 0 0, .int .i64 1])) w) := RefP.no (by decide) (Below.refl _ _)
      generalize RefP w 1 (sortM f.flatten) = P at *
      have z1 : ((sumM f : Nat) : Int) > 5000 := by omega
      generalize sumM f = sm at *
      go_enter Try.func37, Try.ntmps37
      go_wp2_with fail
      refine (HCT.out _ HR.out).mono ?_
      rintro e w1 ⟨rfl, rfl⟩
      go_wp2_with fail
      exact HE.out
    · have hel : errM f = if allB f then 0 else 3 := if_neg (by rintro (h | h) <;> omega)
      have HE0 : Hid (allB f = true → ∀ v' w', w'.ownsRow w.heap.size 27 2 v' (sortM f.flatten).length ((sortM f.flatten).flatMap encM) → Below w.heap.size w w' → RefP w (errM f) (sortM f.flatten) (.returned (.tuple #[v', .int .i64 0])) w') := fun ha v' w' h1 h2 => by
        rw [hel, ha, if_pos rfl]; exact RefP.yes h1 h2
      have HE3 : Hid (allB f = false → ∀ w', Below w.heap.size w w' → RefP w (errM f) (sortM f.flatten) (.returned (.tuple #[.slice none 0 0, .int .i64 3])) w') := fun ha w' h1 => by
        rw [hel, ha, if_neg (by decide)]; exact RefP.no (by decide) h1
      have HMG : Hid (allB f = true → ∀ X, LmR X (.slice a f.length cap) f → Calls Try.prog 54 #[.slice a f.length cap, .func (.func 51) #[] #[]] X fun e w' => ∃ v', e = .returned v' ∧ w'.ownsRow X.heap.size 27 2 v' (sortM f.flatten).length ((sortM f.flatten).flatMap encM) ∧ Below X.heap.size X w') := fun ha X hX => merged_any _ f X hX (by omega) (by omega) fun l hl => srtM_in ((srtMb_iff l).1 ((allB_iff f).1 ha l hl))
      have z1 : ¬ ((sumM f : Nat) : Int) > 5000 := by omega
      clear hel hs
      generalize RefP w (errM f) (sortM f.flatten) = P at *
      generalize sumM f = sm at *
      go_enter Try.func37, Try.ntmps37
      go_wp2_with fail
      refine (HCT.out _ HR.out).mono ?_
      rintro e w1 ⟨rfl, rfl⟩
      clear HCT
      go_wp2_with fail
      go_loopw [16] (fun i wr => ∃ k : Nat, k ≤ f.length ∧ i = .int .i64 k ∧ (∀ l ∈ f.take k, srtMb l = true) ∧ Below w1.heap.size w1 wr) (fun i _ => f.length - (intOf i).toNat)
      case atStart => exact ⟨0, by omega, rfl, fun l hl => by simp at hl, Below.refl _ _⟩
      case round =>
        obtain ⟨k, hk, rfl, hal, hbel⟩ := hrel
        have HA : Hid (∀ l ∈ f.take k, srtMb l = true) := hal
        have HB : Hid (Below w1.heap.size w1 wr) := hbel
        have hsr := hbel.size
        clear hal hbel
        by_cases hlt : k < f.length
        · obtain ⟨b, off, cap', e1, lt, _, _, hv⟩ := (HR.out.below HB.out (Nat.le_refl _)).at (by omega)
          injection e1 with e1 _ e3
          subst e1 e3
          obtain ⟨l, hl⟩ := getX hlt
          obtain ⟨u, hu, hpr⟩ := hv k l hl
          have HP : Hid (MlR wr u l) := hpr
          have HT : Hid (f.take (k + 1) = f.take k ++ [l]) := take_snoc hl
          have HML : Hid (l ∈ f) := List.mem_of_getElem? hl
          obtain ⟨ua, uc, rfl⟩ := hpr.shape
          have HC : Hid (∀ X, MlR X (.slice ua l.length uc) l → Calls Try.prog 53 #[.slice ua l.length uc] X fun e w' => e = .returned (.bool (srtMb l)) ∧ Below X.heap.size X w') := fun X hX => inOrderM_any _ l X hX
          have HNO : Hid (srtMb l = false → ∀ w', Below w1.heap.size w1 w' → P (.returned (.tuple #[.slice none 0 0, .int .i64 3])) w') := fun h => HE3.out (allB_no HML.out h)
          have HYE : Hid (srtMb l = true → ∀ x ∈ f.take (k + 1), srtMb x = true) := fun h x hx => by
            rw [HT.out] at hx
            rcases List.mem_append.1 hx with hx | hx
            · exact HA.out x hx
            · simp at hx; subst hx; exact h
          clear hv hl hpr
          go_wp2_with fail
          refine (HC.out _ HP.out).mono ?_
          rintro e w2 ⟨rfl, hb2⟩
          have HB2 : Hid (Below w1.heap.size w1 w2) := HB.out.trans (hb2.mono hsr)
          clear hb2 HC
          cases hso : srtMb l with
          | true =>
            have HX : Hid _ := HYE.out hso
            clear hso
            go_wp2_with fail
            go_roundw
            case rel => exact ⟨k + 1, by omega, by go_num, HX.out, HB2.out⟩
            case measure => simp [intOf]; omega
          | false =>
            have HX : Hid (P (.returned (.tuple #[.slice none 0 0, .int .i64 3])) w2) := HNO.out hso w2 HB2.out
            clear hso
            go_wp2_with fail
            exact HX.out
        · have ek : f.take k = f := List.take_of_length_le (by omega)
          have HAL : Hid (allB f = true) := (allB_iff f).2 (by have := HA.out; rwa [ek] at this)
          clear ek
          go_wp2_with fail
          refine (HMG.out HAL.out _ (HR.out.below HB.out (Nat.le_refl _))).mono ?_
          rintro e w2 ⟨v2, rfl, ho2, hb2⟩
          have HX : Hid (P (.returned (.tuple #[v2, .int .i64 0])) w2) := HE0.out HAL.out v2 w2 (own_lower ho2 hsr) (HB.out.trans (hb2.mono hsr))
          obtain ⟨va, vn, vc, rfl⟩ : ∃ a n c, v2 = .slice a n c := by obtain ⟨a, c, e, _⟩ := MlR.ownd ho2; exact ⟨_, _, _, e⟩
          clear ho2 hb2
          go_wp2_with fail
          exact HX.out
end Go.Proofs.Ytihghhmhgakkaaa
