/-
  Contracts of container/heap's Init, Push and Pop, on a heap of heads.
-/
import Derived.Test.YtihghhmhgakkaaaHeapUp
import Derived.Test.YtihghhmhgakkaaaHeapPush
namespace Go.Proofs.Ytihghhmhgakkaaa
set_option maxRecDepth 100000
open Go.ChangeShapes Go.WideShapes Go.ChangeAt Go.RowKit

theorem HpF.half (hs : List Hd) (n : Nat) : HpF hs (n / 2) n := fun k p x y h0 h1 h2 h3 => by omega

set_option maxHeartbeats 2000000 in
set_option maxRecDepth 100000 in
theorem init_any (q : Nat) (hs : List Hd) (w : World) (h : HX w q hs) (hl : hs.length ≤ 5000) :
    Calls Try.prog 71 #[hpV q] w fun e w' => e = .returned (.tuple #[]) ∧ UpP w q hs w' := by
  unfold hpV
  have H0 : Hid (HX w q hs) := h
  have mN := nilLen q
  have HH : Hid (HpF hs (hs.length / 2) hs.length) := HpF.half hs hs.length
  have HD : Hid (∀ (hr : List Hd) (m : Nat) (X : World), HX X q hr → hr.Perm hs → m ≤ 5000 → HpF hr (m + 1) hs.length → Calls Try.prog 91 #[.iface 93 (.pointer (some ⟨q, 0, none⟩)), .int .i64 m, .int .i64 (hs.length : Nat)] X fun e w' => RetB e ∧ DownP X q hr m hs.length w') := fun hr m X hX hpm hm hp =>
    down_any q hr m hs.length X hX (Nat.le_of_eq hpm.length_eq.symm) (by rw [hpm.length_eq]; exact hl) hm hp
  obtain ⟨N, hN⟩ : ∃ N, hs.length = N := ⟨_, rfl⟩
  have HN : Hid (hs.length = N) := hN
  have HLN : Hid (∀ X, HX X q hs → Calls Try.prog 72 #[.pointer (some ⟨q, 0, none⟩)] X fun e w' => e = .returned (.int .i64 (N : Nat)) ∧ w' = X) := fun X hX => by
    have := hLen_any q hs X hX
    rwa [hN] at this
  rw [hN] at HH HD hl
  have a2 : Int.tdiv (N : Int) 2 = ((N / 2 : Nat) : Int) := by rw [Int.tdiv_eq_ediv_of_nonneg (by omega)]; omega
  have a3 : IntKind.i64.wrap ((N / 2 : Nat) : Int) = ((N / 2 : Nat) : Int) := wrap_id64 (by omega) (by omega)
  have a4 : IntKind.i64.wrap (((N / 2 : Nat) : Int) - 1) = ((N / 2 : Nat) : Int) - 1 := wrap_id64 (by omega) (by omega)
  have hh : N / 2 ≤ 5000 := by omega
  obtain ⟨c, hc⟩ : ∃ c, N / 2 = c := ⟨_, rfl⟩
  rw [hc] at a2 a3 a4 HH hh
  clear h hN hc
  go_enter Try.func71, Try.ntmps71
  go_wp2_with fail
  refine (HLN.out _ H0.out).mono ?_
  rintro e w1 ⟨rfl, rfl⟩
  clear HLN mN
  go_wp2_with fail
  go_loopw [3] (fun u wr => ∃ (k : Nat) (hr : List Hd), u = .int .i64 ((k : Int) - 1) ∧ k ≤ 5000 ∧ HX wr q hr ∧ hr.Perm hs ∧ HpF hr k N ∧ HK q w1 wr) (fun u _ => (intOf u + 1).toNat)
  case atStart => exact ⟨c, hs, rfl, hh, H0.out, List.Perm.refl _, HH.out, HK.refl _ _⟩
  case round =>
    obtain ⟨k, hr, rfl, hk, hX, hpm, hF, hK⟩ := hrel
    have HX' : Hid (HX wr q hr) := hX
    have HF : Hid (HpF hr k N) := hF
    have HPM : Hid (hr.Perm hs) := hpm
    have HKW : Hid (HK q w1 wr) := hK
    clear hX hF hpm hK
    cases k with
    | zero =>
      have HFN : Hid (HpF hr 0 hr.length) := by
        show HpF hr 0 hr.length
        rw [HPM.out.length_eq, HN.out]
        exact HF.out
      go_wp2_with fail
      go_end0
      exact ⟨rfl, hr, HX'.out, HPM.out, HFN.out, HKW.out⟩
    | succ j =>
      have e1 : ((j + 1 : Nat) : Int) - 1 = (j : Int) := by omega
      rw [e1]
      have b1 : (j : Int) ≥ 0 := by omega
      have b2 : IntKind.i64.wrap ((j : Int) - 1) = (j : Int) - 1 := wrap_id64 (by omega) (by omega)
      clear e1
      go_wp2_with fail
      refine (HD.out hr j _ HX'.out HPM.out (by omega) HF.out).mono ?_
      rintro e w2 ⟨⟨b, rfl⟩, hr2, hx2, hp2, hf2, _, hk2⟩
      have HX2 : Hid (HX w2 q hr2) := hx2
      have HP2 : Hid (hr2.Perm hs) := hp2.trans HPM.out
      have HF2 : Hid (HpF hr2 j N) := hf2
      have HK2 : Hid (HK q w1 w2) := HKW.out.trans hk2
      rename_i hjunk
      clear hx2 hp2 hf2 hk2 hjunk
      go_wp2_with fail
      go_roundw
      case rel => exact ⟨j, hr2, rfl, by omega, HX2.out, HP2.out, HF2.out, HK2.out⟩
      case measure => simp [intOf]

set_option maxHeartbeats 1000000 in
set_option maxRecDepth 100000 in
theorem heapPush_any (q : Nat) (hs : List Hd) (x : Hd) (w : World) (h : HX w q hs) (hl : hs.length ≤ 5000) (hp : HpF hs 0 hs.length) :
    Calls Try.prog 74 #[hpV q, .iface 99 (.agg #[.int .i64 x.x.1, .int .i64 x.x.2, .slice x.a x.n x.c])] w fun e w' => e = .returned (.tuple #[]) ∧ UpP w q (hs ++ [x]) w' := by
  unfold hpV
  have H0 : Hid (HX w q hs) := h
  have mN := nilLen q
  have mP := nilPush q
  have HP0 : Hid (∀ X, HX X q hs → Calls Try.prog 69 #[.pointer (some ⟨q, 0, none⟩), .iface 99 (.agg #[.int .i64 x.x.1, .int .i64 x.x.2, .slice x.a x.n x.c])] X fun e w' => e = .returned (.tuple #[]) ∧ HX w' q (hs ++ [x]) ∧ HK q X w') := fun X hX => hPush_any q hs x X hX hl
  have HU : Hid (∀ X, HX X q (hs ++ [x]) → Calls Try.prog 92 #[.iface 93 (.pointer (some ⟨q, 0, none⟩)), .int .i64 (hs.length : Nat)] X fun e w' => e = .returned (.tuple #[]) ∧ UpP X q (hs ++ [x]) w') := fun X hX => up_any q (hs ++ [x]) hs.length X hX (by simp) (by simp; omega) (by
    have := HpU.start (x := x) hp
    simpa using this)
  have HLN : Hid (∀ X, HX X q (hs ++ [x]) → Calls Try.prog 72 #[.pointer (some ⟨q, 0, none⟩)] X fun e w' => e = .returned (.int .i64 ((hs.length : Int) + 1)) ∧ w' = X) := fun X hX => by
    have := hLen_any q (hs ++ [x]) X hX
    simpa using this
  have a4 : IntKind.i64.wrap ((hs.length : Int) + 1 - 1) = (hs.length : Int) := by rw [Int.add_sub_cancel]; exact wrap_id64 (by omega) (by omega)
  clear h hp
  generalize hs ++ [x] = hn at *
  go_enter Try.func74, Try.ntmps74
  go_wp2_with fail
  refine (HP0.out _ H0.out).mono ?_
  rintro e w1 ⟨rfl, hx1, hk1⟩
  have HX1 : Hid (HX w1 q hn) := hx1
  have HK1 : Hid (HK q w w1) := hk1
  clear hx1 hk1 HP0 mP
  go_wp2_with fail
  refine (HLN.out _ HX1.out).mono ?_
  rintro e w2 ⟨rfl, rfl⟩
  go_wp2_with fail
  refine (HU.out _ HX1.out).mono ?_
  rintro e w3 ⟨rfl, hr, hx3, hp3, hf3, hk3⟩
  have HE : Hid (UpP w q hn w3) := ⟨hr, hx3, hp3, hf3, HK1.out.trans hk3⟩
  clear hx3 hp3 hf3 hk3
  go_wp2_with fail
  go_end0
  exact ⟨rfl, HE.out⟩

/-- What Pop answers and leaves. -/
def PopP (w : World) (q : Nat) (hs : List Hd) (e : Ending) (w' : World) : Prop := ∃ x hr, e = .returned (.iface 99 (.agg #[.int .i64 x.x.1, .int .i64 x.x.2, .slice x.a x.n x.c])) ∧ HX w' q hr ∧ (x :: hr).Perm hs ∧ HpF hr 0 hr.length ∧ (∀ y ∈ hs, leD x y) ∧ HK q w w'
theorem HpF.take {hs : List Hd} {x : Hd} {n : Nat} (h : HpF (hs ++ [x]) 0 n) (hn : hs.length = n) : HpF hs 0 hs.length := fun k p u v k0 k1 k2 k3 hu hv =>
  h k p u v k0 (by omega) k2 k3 (by rw [List.getElem?_append_left (by omega)]; exact hu) (by rw [List.getElem?_append_left (by omega)]; exact hv)

set_option maxHeartbeats 1000000 in
set_option maxRecDepth 100000 in
theorem heapPop_any (q : Nat) (hs : List Hd) (w : World) (h : HX w q hs) (hl : hs.length ≤ 5000) (h0 : 0 < hs.length) (hp : HpF hs 0 hs.length) :
    Calls Try.prog 73 #[hpV q] w (PopP w q hs) := by
  unfold hpV
  have H0 : Hid (HX w q hs) := h
  have mN := nilLen q
  have mP := nilPop q
  have mS := nilSwap q
  obtain ⟨n, hn⟩ : ∃ n, hs.length = n + 1 := ⟨hs.length - 1, by omega⟩
  obtain ⟨x, hx⟩ := getX h0
  obtain ⟨y, hy⟩ := getX (es := hs) (i := n) (by omega)
  have HLN : Hid (∀ X, HX X q hs → Calls Try.prog 72 #[.pointer (some ⟨q, 0, none⟩)] X fun e w' => e = .returned (.int .i64 ((n : Int) + 1)) ∧ w' = X) := fun X hX => by
    have := hLen_any q hs X hX
    rw [hn] at this
    simpa using this
  have HSW : Hid (∀ X, HX X q hs → Calls Try.prog 120 #[.pointer (some ⟨q, 0, none⟩), .int .i64 0, .int .i64 (n : Nat)] X fun e w' => e = .returned (.tuple #[]) ∧ HX w' q ((hs.set 0 y).set n x) ∧ HK q X w') := fun X hX => hSwap_any q hs 0 n x y X hX hx hy
  have hpm : ((hs.set 0 y).set n x).Perm hs := swap_perm hx hy
  have hsn : ((hs.set 0 y).set n x)[n]? = some x := by rw [swap_at hx hy, if_pos rfl]
  have hf1 : HpF ((hs.set 0 y).set n x) 1 n := fun k p u v k0 k1 k2 k3 hu hv => by
    rw [swap_at hx hy, if_neg (by omega), if_neg (by omega)] at hu hv
    exact hp k p u v k0 (by omega) k2 (by omega) hu hv
  have HLO : Hid (∀ u ∈ hs, leD x u) := fun u hu => by
    obtain ⟨k, hk, rfl⟩ := List.getElem_of_mem hu
    exact hp.root (Nat.le_refl _) hx k _ hk (List.getElem?_eq_getElem hk)
  have HDN : Hid (∀ X, HX X q ((hs.set 0 y).set n x) → Calls Try.prog 91 #[.iface 93 (.pointer (some ⟨q, 0, none⟩)), .int .i64 0, .int .i64 (n : Nat)] X fun e w' => RetB e ∧ ∃ hr, HX w' q (hr ++ [x]) ∧ (x :: hr).Perm hs ∧ HpF hr 0 hr.length ∧ HK q X w') := fun X hX =>
    (down_any q ((hs.set 0 y).set n x) 0 n X hX (by rw [hpm.length_eq]; omega) (by rw [hpm.length_eq]; omega) (by omega) hf1).mono fun e w' he => by
      obtain ⟨hb, hr, hx2, hp2, hf2, hk2, hkk⟩ := he
      have hlen : hr.length = n + 1 := by rw [hp2.length_eq, hpm.length_eq, hn]
      have hlast : hr[n]? = some x := (hk2 n (Nat.le_refl _)).trans hsn
      have hsplit : hr = hr.take n ++ [x] := by
        have := take_snoc hlast
        rw [List.take_of_length_le (by omega)] at this
        exact this
      refine ⟨hb, hr.take n, by rw [← hsplit]; exact hx2, ?_, HpF.take (x := x) (n := n) (by rw [← hsplit]; exact hf2) (by rw [List.length_take]; omega), hkk⟩
      refine List.Perm.trans ?_ (hp2.trans hpm)
      exact (List.perm_append_singleton x (hr.take n)).symm.trans (by rw [← hsplit])
  have a4 : IntKind.i64.wrap ((n : Int) + 1 - 1) = (n : Int) := by rw [Int.add_sub_cancel]; exact wrap_id64 (by omega) (by omega)
  have HPF : Hid (∀ hr e w', e = .returned (.iface 99 (.agg #[.int .i64 x.x.1, .int .i64 x.x.2, .slice x.a x.n x.c])) → HX w' q hr → (x :: hr).Perm hs → HpF hr 0 hr.length → HK q w w' → PopP w q hs e w') := fun hr e w' h1 h2 h3 h4 h5 => ⟨x, hr, h1, h2, h3, h4, HLO.out, h5⟩
  have hn5 : n ≤ 5000 := by omega
  clear h hp hpm hsn hf1 hn hx hy h0 HLO
  generalize PopP w q hs = P at *
  generalize (hs.set 0 y).set n x = h1 at *
  go_enter Try.func73, Try.ntmps73
  go_wp2_with fail
  refine (HLN.out _ H0.out).mono ?_
  rintro e w1 ⟨rfl, rfl⟩
  clear HLN
  go_wp2_with fail
  refine (HSW.out _ H0.out).mono ?_
  rintro e w2 ⟨rfl, hx2, hk2⟩
  have HX2 : Hid (HX w2 q h1) := hx2
  have HK2 : Hid (HK q w1 w2) := hk2
  clear hx2 hk2 HSW
  go_wp2_with fail
  refine (HDN.out _ HX2.out).mono ?_
  rintro e w3 ⟨⟨b, rfl⟩, hr, hx3, hp3, hf3, hk3⟩
  have HX3 : Hid (HX w3 q (hr ++ [x])) := hx3
  have HP3 : Hid ((x :: hr).Perm hs) := hp3
  have HF3 : Hid (HpF hr 0 hr.length) := hf3
  have HK3 : Hid (HK q w1 w3) := HK2.out.trans hk3
  clear hx3 hp3 hf3 hk3 HDN
  go_wp2_with fail
  refine (hPop_any q hr x _ HX3.out).mono ?_
  rintro e w4 ⟨rfl, hx4, hk4⟩
  have HE : Hid (P (.returned (.iface 99 (.agg #[.int .i64 x.x.1, .int .i64 x.x.2, .slice x.a x.n x.c]))) w4) := HPF.out hr _ _ rfl hx4 HP3.out HF3.out (HK3.out.trans hk4)
  clear hx4 hk4
  go_wp2_with fail
  exact HE.out
end Go.Proofs.Ytihghhmhgakkaaa
