/-
  Contracts of container/heap's Push and Pop, on a heap of tips.
-/
import Derived.Test.YtankibadiomkkaaTipUp
import Derived.Test.YtankibadiomkkaaTipPush
namespace Go.Proofs.Ytankibadiomkkaa
set_option maxRecDepth 100000
open Go.ChangeShapes Go.WideShapes Go.ChangeAt Go.RowKit

set_option maxHeartbeats 1000000 in
set_option maxRecDepth 100000 in
theorem yHeapPush_any (q : Nat) (hs : List Tp) (x : Tp) (w : World) (h : TX w q hs) (hl : hs.length ≤ 5000) (hp : TpF hs 0 hs.length) :
    Calls Try.prog 37 #[tpV q, .iface 63 (.agg #[.int .i64 x.2, .int .i64 x.1])] w fun e w' => e = .returned (.tuple #[]) ∧ UpY w q (hs ++ [x]) w' := by
  unfold tpV
  have H0 : Hid (TX w q hs) := h
  have mN := nilLenY q
  have mP := nilPushY q
  have HP0 : Hid (∀ X, TX X q hs → Calls Try.prog 91 #[.pointer (some ⟨q, 0, none⟩), .iface 63 (.agg #[.int .i64 x.2, .int .i64 x.1])] X fun e w' => e = .returned (.tuple #[]) ∧ TX w' q (hs ++ [x]) ∧ TK q X w') := fun X hX => yPush_any q hs x X hX hl
  have HU : Hid (∀ X, TX X q (hs ++ [x]) → Calls Try.prog 45 #[.iface 61 (.pointer (some ⟨q, 0, none⟩)), .int .i64 (hs.length : Nat)] X fun e w' => e = .returned (.tuple #[]) ∧ UpY X q (hs ++ [x]) w') := fun X hX => yUp_any q (hs ++ [x]) hs.length X hX (by simp) (by simp; omega) (by
    have := TpU.start (x := x) hp
    simpa using this)
  have HLN : Hid (∀ X, TX X q (hs ++ [x]) → Calls Try.prog 35 #[.pointer (some ⟨q, 0, none⟩)] X fun e w' => e = .returned (.int .i64 ((hs.length : Int) + 1)) ∧ w' = X) := fun X hX => by
    have := yLen_any q (hs ++ [x]) X hX
    simpa using this
  have a4 : IntKind.i64.wrap ((hs.length : Int) + 1 - 1) = (hs.length : Int) := by rw [Int.add_sub_cancel]; exact wrap_id64 (by omega) (by omega)
  clear h hp
  generalize hs ++ [x] = hn at *
  go_enter Try.func37, Try.ntmps37
  go_wp2_with fail
  refine (HP0.out _ H0.out).mono ?_
  rintro e w1 ⟨rfl, hx1, hk1⟩
  have HX1 : Hid (TX w1 q hn) := hx1
  have HK1 : Hid (TK q w w1) := hk1
  clear hx1 hk1 HP0 mP
  go_wp2_with fail
  refine (HLN.out _ HX1.out).mono ?_
  rintro e w2 ⟨rfl, rfl⟩
  go_wp2_with fail
  refine (HU.out _ HX1.out).mono ?_
  rintro e w3 ⟨rfl, hr, hx3, hp3, hf3, hk3⟩
  have HE : Hid (UpY w q hn w3) := ⟨hr, hx3, hp3, hf3, HK1.out.trans hk3⟩
  clear hx3 hp3 hf3 hk3
  go_wp2_with fail
  go_end0
  exact ⟨rfl, HE.out⟩

/-- What Pop answers and leaves. -/
def PopY (w : World) (q : Nat) (hs : List Tp) (e : Ending) (w' : World) : Prop := ∃ x hr, e = .returned (.iface 63 (.agg #[.int .i64 x.2, .int .i64 x.1])) ∧ TX w' q hr ∧ (x :: hr).Perm hs ∧ TpF hr 0 hr.length ∧ (∀ y ∈ hs, leY x y) ∧ TK q w w'
theorem TpF.take {hs : List Tp} {x : Tp} {n : Nat} (h : TpF (hs ++ [x]) 0 n) (hn : hs.length = n) : TpF hs 0 hs.length := fun k p u v k0 k1 k2 k3 hu hv =>
  h k p u v k0 (by omega) k2 k3 (by rw [List.getElem?_append_left (by omega)]; exact hu) (by rw [List.getElem?_append_left (by omega)]; exact hv)

set_option maxHeartbeats 1000000 in
set_option maxRecDepth 100000 in
theorem yHeapPop_any (q : Nat) (hs : List Tp) (w : World) (h : TX w q hs) (hl : hs.length ≤ 5000) (h0 : 0 < hs.length) (hp : TpF hs 0 hs.length) :
    Calls Try.prog 36 #[tpV q] w (PopY w q hs) := by
  unfold tpV
  have H0 : Hid (TX w q hs) := h
  have mN := nilLenY q
  have mP := nilPopY q
  have mS := nilSwapY q
  obtain ⟨n, hn⟩ : ∃ n, hs.length = n + 1 := ⟨hs.length - 1, by omega⟩
  obtain ⟨x, hx⟩ := getX h0
  obtain ⟨y, hy⟩ := getX (es := hs) (i := n) (by omega)
  have HLN : Hid (∀ X, TX X q hs → Calls Try.prog 35 #[.pointer (some ⟨q, 0, none⟩)] X fun e w' => e = .returned (.int .i64 ((n : Int) + 1)) ∧ w' = X) := fun X hX => by
    have := yLen_any q hs X hX
    rw [hn] at this
    simpa using this
  have HSW : Hid (∀ X, TX X q hs → Calls Try.prog 92 #[.pointer (some ⟨q, 0, none⟩), .int .i64 0, .int .i64 (n : Nat)] X fun e w' => e = .returned (.tuple #[]) ∧ TX w' q ((hs.set 0 y).set n x) ∧ TK q X w') := fun X hX => ySwap_any q hs 0 n x y X hX hx hy
  have hpm : ((hs.set 0 y).set n x).Perm hs := swapY_perm hx hy
  have hsn : ((hs.set 0 y).set n x)[n]? = some x := by rw [swapY_at hx hy, if_pos rfl]
  have hf1 : TpF ((hs.set 0 y).set n x) 1 n := fun k p u v k0 k1 k2 k3 hu hv => by
    rw [swapY_at hx hy, if_neg (by omega), if_neg (by omega)] at hu hv
    exact hp k p u v k0 (by omega) k2 (by omega) hu hv
  have HLO : Hid (∀ u ∈ hs, leY x u) := fun u hu => by
    obtain ⟨k, hk, rfl⟩ := List.getElem_of_mem hu
    exact hp.root (Nat.le_refl _) hx k _ hk (List.getElem?_eq_getElem hk)
  have HDN : Hid (∀ X, TX X q ((hs.set 0 y).set n x) → Calls Try.prog 44 #[.iface 61 (.pointer (some ⟨q, 0, none⟩)), .int .i64 0, .int .i64 (n : Nat)] X fun e w' => RetY e ∧ ∃ hr, TX w' q (hr ++ [x]) ∧ (x :: hr).Perm hs ∧ TpF hr 0 hr.length ∧ TK q X w') := fun X hX =>
    (yDown_any q ((hs.set 0 y).set n x) 0 n X hX (by rw [hpm.length_eq]; omega) (by rw [hpm.length_eq]; omega) (by omega) hf1).mono fun e w' he => by
      obtain ⟨hb, hr, hx2, hp2, hf2, hk2, hkk⟩ := he
      have hlen : hr.length = n + 1 := by rw [hp2.length_eq, hpm.length_eq, hn]
      have hlast : hr[n]? = some x := (hk2 n (Nat.le_refl _)).trans hsn
      have hsplit : hr = hr.take n ++ [x] := by
        have := take_snoc hlast
        rw [List.take_of_length_le (by omega)] at this
        exact this
      refine ⟨hb, hr.take n, by rw [← hsplit]; exact hx2, ?_, TpF.take (x := x) (n := n) (by rw [← hsplit]; exact hf2) (by rw [List.length_take]; omega), hkk⟩
      refine List.Perm.trans ?_ (hp2.trans hpm)
      exact (List.perm_append_singleton x (hr.take n)).symm.trans (by rw [← hsplit])
  have a4 : IntKind.i64.wrap ((n : Int) + 1 - 1) = (n : Int) := by rw [Int.add_sub_cancel]; exact wrap_id64 (by omega) (by omega)
  have HPF : Hid (∀ hr e w', e = .returned (.iface 63 (.agg #[.int .i64 x.2, .int .i64 x.1])) → TX w' q hr → (x :: hr).Perm hs → TpF hr 0 hr.length → TK q w w' → PopY w q hs e w') := fun hr e w' h1 h2 h3 h4 h5 => ⟨x, hr, h1, h2, h3, h4, HLO.out, h5⟩
  have hn5 : n ≤ 5000 := by omega
  clear h hp hpm hsn hf1 hn hx hy h0 HLO
  generalize PopY w q hs = P at *
  generalize (hs.set 0 y).set n x = h1 at *
  go_enter Try.func36, Try.ntmps36
  go_wp2_with fail
  refine (HLN.out _ H0.out).mono ?_
  rintro e w1 ⟨rfl, rfl⟩
  clear HLN
  go_wp2_with fail
  refine (HSW.out _ H0.out).mono ?_
  rintro e w2 ⟨rfl, hx2, hk2⟩
  have HX2 : Hid (TX w2 q h1) := hx2
  have HK2 : Hid (TK q w1 w2) := hk2
  clear hx2 hk2 HSW
  go_wp2_with fail
  refine (HDN.out _ HX2.out).mono ?_
  rintro e w3 ⟨⟨b, rfl⟩, hr, hx3, hp3, hf3, hk3⟩
  have HX3 : Hid (TX w3 q (hr ++ [x])) := hx3
  have HP3 : Hid ((x :: hr).Perm hs) := hp3
  have HF3 : Hid (TpF hr 0 hr.length) := hf3
  have HK3 : Hid (TK q w1 w3) := HK2.out.trans hk3
  clear hx3 hp3 hf3 hk3 HDN
  go_wp2_with fail
  refine (yPop_any q hr x _ HX3.out).mono ?_
  rintro e w4 ⟨rfl, hx4, hk4⟩
  have HE : Hid (P (.returned (.iface 63 (.agg #[.int .i64 x.2, .int .i64 x.1]))) w4) := HPF.out hr _ _ rfl hx4 HP3.out HF3.out (HK3.out.trans hk4)
  clear hx4 hk4
  go_wp2_with fail
  exact HE.out
end Go.Proofs.Ytankibadiomkkaa
