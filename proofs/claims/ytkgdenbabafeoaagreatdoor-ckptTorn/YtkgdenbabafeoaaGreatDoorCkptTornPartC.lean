/-
  Contract of ckpt.Newest.
-/
import Derived.Test.YtkgdenbabafeoaaGreatDoorCkptTornPartB

namespace Go.Proofs.YtkgdenbabafeoaaGreatDoor
set_option maxRecDepth 100000
open Go.ChangeShapes Go.WideShapes Go.ChangeAt Go.RowKit

set_option maxHeartbeats 4000000 in
set_option maxRecDepth 100000 in
theorem ckNewest_any (v : Value) (fs : List FileL) (n : Int) (w : World) (h : DiskR w v fs) (hg : Good fs) :
    Calls Tryz.prog 16 #[.agg #[v], .int .i64 n] w (SvdP w (newE fs n)) := by
  have HD : Hid (DiskR w v fs) := h
  have HG : Hid (Good fs) := hg
  obtain ⟨a, cap, rfl⟩ : ∃ a c, v = .slice a fs.length c := by obtain ⟨a, c, e, _⟩ := h; exact ⟨a, c, e⟩
  clear h hg
  obtain ⟨W0, hW0⟩ : ∃ W0, W0 = (w.alloc (.cells #[.slice a fs.length cap] 39)).alloc (.cells #[.int .i64 0, .int .i64 0, .bool false, .slice none 0 0, .slice none 0 0] 28) := ⟨_, rfl⟩
  obtain ⟨Q0, M0, B0, s1, s2⟩ := boxes2 w #[.slice a fs.length cap] #[.int .i64 0, .int .i64 0, .bool false, .slice none 0 0, .slice none 0 0] 39 28 W0 hW0
  have HK : Hid (∀ X, Below W0.heap.size W0 X → BX 39 X w.heap.size #[.slice a fs.length cap] ∧ BX 28 X (w.heap.size + 1) #[.int .i64 0, .int .i64 0, .bool false, .slice none 0 0, .slice none 0 0] ∧ Below w.heap.size w X ∧ DiskR X (.slice a fs.length cap) fs) := fun X hX => by
    have hb := B0.trans (hX.mono (show w.heap.size ≤ W0.heap.size by omega))
    exact ⟨Q0.below hX (by omega), M0.below hX (by omega), hb, HD.out.below hb (Nat.le_refl _)⟩
  have A0 : Hid (Below W0.heap.size W0 W0) := Below.refl _ _
  obtain ⟨q0, _⟩ := Q0.all1
  clear Q0 M0 B0
  have HN : Hid (∀ f, newE fs n = (sv0, f) → ∀ w', Below w.heap.size w w' → SvdP w (newE fs n) (.returned (.tuple #[.agg #[.int .i64 0, .int .i64 0, .bool false, .slice none 0 0, .slice none 0 0], .int .i64 f])) w') := fun f h w' hb => by rw [h]; exact SvdP.no hb
  have HY : Hid (∀ s f, newE fs n = (s, f) → ∀ v1 v2 w', w'.ownsRow w.heap.size 53 2 v1 s.vals.length (s.vals.flatMap encM) → w'.ownsRow w.heap.size 62 2 v2 s.mail.length (s.mail.flatMap encM) → Below w.heap.size w w' → SvdP w (newE fs n) (.returned (.tuple #[.agg #[.int .i64 s.step, .int .i64 s.phase, .bool s.fresh, v1, v2], .int .i64 f])) w') := fun s f h v1 v2 w' h1 h2 h3 => by rw [h]; exact SvdP.at h1 h2 h3
  generalize SvdP w (newE fs n) = P at *
  have N1 : Hid (BX 28 (W0.alloc (.cells #[.int .i64 0, .int .i64 0, .bool false, .slice none 0 0, .slice none 0 0] 28)) W0.heap.size #[.int .i64 0, .int .i64 0, .bool false, .slice none 0 0, .slice none 0 0] ∧ Below W0.heap.size W0 (W0.alloc (.cells #[.int .i64 0, .int .i64 0, .bool false, .slice none 0 0, .slice none 0 0] 28))) := ⟨BX.new _ _ _, below_alloc _ _⟩
  cases hm : mayB fs
  case false =>
    have HE : Hid (∀ w', Below w.heap.size w w' → P (.returned (.tuple #[.agg #[.int .i64 0, .int .i64 0, .bool false, .slice none 0 0, .slice none 0 0], .int .i64 9])) w') := HN.out 9 (newE_no hm)
    have CL : Hid (∀ X, DiskR X (.slice a fs.length cap) fs → Calls Tryz.prog 13 #[.agg #[.slice a fs.length cap], .int .i64 0] X (SvdP X (sv0, 9))) := fun X h => by
      have := ckLoad_any _ fs 0 X h HG.out
      rwa [show loadE fs 0 = (sv0, 9) from loadE_state hm 0 (by omega)] at this
    clear HN HY hm
    go_enter Tryz.func16, Tryz.ntmps16
    go_upto_region 1 with fail
    rw [← hW0]
    clear hW0
    go_upto_region 2 with fail
    generalize W0.alloc (.cells #[.int .i64 0, .int .i64 0, .bool false, .slice none 0 0, .slice none 0 0] 28) = W1 at *
    clear q0
    go_wp2_with fail
    go_loopw [12] (fun i wr => i = .int .i64 0 ∧ Below W0.heap.size W0 wr) (fun i _ => 2 - (intOf i).toNat)
    case atStart => exact ⟨rfl, N1.out.2⟩
    case round =>
      obtain ⟨rfl, hbel⟩ := hrel
      have HB : Hid (Below W0.heap.size W0 wr) := hbel
      clear hbel
      obtain ⟨q0, _⟩ := (HK.out _ HB.out).1.all1
      go_wp2_with fail
      refine (CL.out _ (HK.out _ HB.out).2.2.2).mono ?_
      rintro e w4 ⟨u1, u2, rfl, hu1, hu2, hb4⟩
      obtain ⟨ua, uc, rfl⟩ := (RowK.own encM_len hu1 : MlR w4 u1 sv0.vals).shape
      obtain ⟨ya, yc, rfl⟩ := (RowK.own encM_len hu2 : MlR w4 u2 sv0.mail).shape
      have A4 : Hid (Below W0.heap.size W0 (w4.alloc (.cells #[.int .i64 sv0.step, .int .i64 sv0.phase, .bool sv0.fresh, .slice ua sv0.vals.length uc, .slice ya sv0.mail.length yc] 28))) := by
        have h := HB.out.trans (hb4.mono HB.out.size)
        exact h.alloc h.size _
      clear hu1 hu2 hb4 q0
      go_upto_region 6 with fail
      generalize w4.alloc (.cells #[.int .i64 sv0.step, .int .i64 sv0.phase, .bool sv0.fresh, .slice ua sv0.vals.length uc, .slice ya sv0.mail.length yc] 28) = w5 at *
      obtain ⟨m0, m1, m2, m3, m4⟩ := (HK.out _ A4.out).2.1.all5
      obtain ⟨f0, f1, f2, f3, f4⟩ := (HK.out _ A4.out).2.1.all5f
      have HX : Hid (P (.returned (.tuple #[.agg #[.int .i64 0, .int .i64 0, .bool false, .slice none 0 0, .slice none 0 0], .int .i64 9])) (putS w5 (w.heap.size + 1) (.int .i64 0) (.int .i64 0) (.bool false) (.slice none 0 0) (.slice none 0 0))) := HE.out _ (below_putS (HK.out _ A4.out).2.2.1 (Nat.le_succ _) _ _ _ _ _)
      have RX : Hid (BX 28 (putS w5 (w.heap.size + 1) (.int .i64 0) (.int .i64 0) (.bool false) (.slice none 0 0) (.slice none 0 0)) (w.heap.size + 1) #[.int .i64 0, .int .i64 0, .bool false, .slice none 0 0, .slice none 0 0]) := BX.putS (HK.out _ A4.out).2.1
      go_wp2_with fail
      obtain ⟨r0, r1, r2, r3, r4⟩ := RX.out.all5
      unfold putS at r0 r1 r2 r3 r4
      exact bodyPost_ret (v := .tuple #[.agg #[.int .i64 0, .int .i64 0, .bool false, .slice none 0 0, .slice none 0 0], .int .i64 9]) (by simp [results, Tryz.results16, go_sem, r0, r1, r2, r3, r4]) rfl HX.out
  have KA : Hid (∀ k, k < 2 → (loadE fs (k : Nat)).2 ≠ 9) := fun k hk => loadE_nine hm k hk
  have HE2 : Hid (∀ s f, curN fs n 2 = (s, f) → ∀ v1 v2 w', w'.ownsRow w.heap.size 53 2 v1 s.vals.length (s.vals.flatMap encM) → w'.ownsRow w.heap.size 62 2 v2 s.mail.length (s.mail.flatMap encM) → Below w.heap.size w w' → P (.returned (.tuple #[.agg #[.int .i64 s.step, .int .i64 s.phase, .bool s.fresh, v1, v2], .int .i64 f])) w') := fun s f h => HY.out s f ((newE_yes hm).trans h)
  clear HN HY hm
  go_enter Tryz.func16, Tryz.ntmps16
  go_upto_region 1 with fail
  rw [← hW0]
  clear hW0
  go_upto_region 2 with fail
  generalize W0.alloc (.cells #[.int .i64 0, .int .i64 0, .bool false, .slice none 0 0, .slice none 0 0] 28) = W1 at *
  clear q0
  go_wp2_with fail
  go_loopw [7, 12] (fun z i wr => ∃ (k : Nat) (c : SvS) (t : Int) (v1 v2 : Value), k ≤ 2 ∧ i = .int .i64 k ∧ z = .int .i64 t ∧ curN fs n k = (c, t) ∧ BX 28 wr W0.heap.size #[.int .i64 c.step, .int .i64 c.phase, .bool c.fresh, v1, v2] ∧ wr.ownsRow W0.heap.size 53 2 v1 c.vals.length (c.vals.flatMap encM) ∧ wr.ownsRow W0.heap.size 62 2 v2 c.mail.length (c.mail.flatMap encM) ∧ Below W0.heap.size W0 wr) (fun _ i _ => 2 - (intOf i).toNat)
  case atStart => exact ⟨0, sv0, 7, _, _, by omega, rfl, rfl, rfl, N1.out.1, World.ownsRow_nil _ _ _ _, World.ownsRow_nil _ _ _ _, N1.out.2⟩
  case round =>
    obtain ⟨k, c, t, v1, v2, hk, rfl, rfl, hc, hq, ho1, ho2, hbel⟩ := hrel
    have HB : Hid (Below W0.heap.size W0 wr) := hbel
    have HC : Hid (curN fs n k = (c, t)) := hc
    obtain ⟨ca, cc, rfl⟩ := (RowK.own encM_len ho1 : MlR wr v1 c.vals).shape
    obtain ⟨cb, cd, rfl⟩ := (RowK.own encM_len ho2 : MlR wr v2 c.mail).shape
    have HO : Hid (wr.ownsRow W0.heap.size 53 2 (.slice ca c.vals.length cc) c.vals.length (c.vals.flatMap encM) ∧ wr.ownsRow W0.heap.size 62 2 (.slice cb c.mail.length cd) c.mail.length (c.mail.flatMap encM)) := ⟨ho1, ho2⟩
    have HQ : Hid (BX 28 wr W0.heap.size #[.int .i64 c.step, .int .i64 c.phase, .bool c.fresh, .slice ca c.vals.length cc, .slice cb c.mail.length cd]) := hq
    have hsr := hbel.size
    clear hc hq ho1 ho2 hbel
    by_cases hlt : k < 2
    · have h9 : (loadE fs (k : Int)).2 ≠ 9 := KA.out k hlt
      have CL : Hid (∀ X, DiskR X (.slice a fs.length cap) fs → Calls Tryz.prog 13 #[.agg #[.slice a fs.length cap], .int .i64 (k : Int)] X (SvdP X (loadE fs (k : Int)))) := fun X h => ckLoad_any _ fs k X h HG.out
      have J1 : Hid (¬ ((loadE fs (k : Int)).2 = 0 ∧ (loadE fs (k : Int)).1.step ≤ n) → curN fs n (k + 1) = (c, t)) := fun h => (curN_skip h).trans HC.out
      have J2 : Hid ((loadE fs (k : Int)).2 = 0 ∧ (loadE fs (k : Int)).1.step ≤ n → (t ≠ 0 ∨ c.step < (loadE fs (k : Int)).1.step) → curN fs n (k + 1) = ((loadE fs (k : Int)).1, 0)) := fun h h2 => curN_take h (by rw [HC.out]; exact h2)
      have J3 : Hid (¬ (t ≠ 0 ∨ c.step < (loadE fs (k : Int)).1.step) → curN fs n (k + 1) = (c, t)) := fun h2 => (curN_keep (by rw [HC.out]; exact h2)).trans HC.out
      generalize loadE fs (k : Int) = L at *
      obtain ⟨s, t2⟩ := L
      simp only at h9 J1 J2 J3
      have e9 : (t2 == 9) = false := by simpa using h9
      clear h9
      obtain ⟨q0, _⟩ := (HK.out _ HB.out).1.all1
      go_wp2_with fail
      refine (CL.out _ (HK.out _ HB.out).2.2.2).mono ?_
      rintro e w4 ⟨u1, u2, rfl, hu1, hu2, hb4⟩
      obtain ⟨ua, uc, rfl⟩ := (RowK.own encM_len hu1 : MlR w4 u1 s.vals).shape
      obtain ⟨ya, yc, rfl⟩ := (RowK.own encM_len hu2 : MlR w4 u2 s.mail).shape
      have E4 : Hid (Below W0.heap.size W0 (w4.alloc (.cells #[.int .i64 s.step, .int .i64 s.phase, .bool s.fresh, .slice ua s.vals.length uc, .slice ya s.mail.length yc] 28)) ∧ BX 28 (w4.alloc (.cells #[.int .i64 s.step, .int .i64 s.phase, .bool s.fresh, .slice ua s.vals.length uc, .slice ya s.mail.length yc] 28)) w4.heap.size #[.int .i64 s.step, .int .i64 s.phase, .bool s.fresh, .slice ua s.vals.length uc, .slice ya s.mail.length yc] ∧ BX 28 (w4.alloc (.cells #[.int .i64 s.step, .int .i64 s.phase, .bool s.fresh, .slice ua s.vals.length uc, .slice ya s.mail.length yc] 28)) W0.heap.size #[.int .i64 c.step, .int .i64 c.phase, .bool c.fresh, .slice ca c.vals.length cc, .slice cb c.mail.length cd] ∧ ((w4.alloc (.cells #[.int .i64 s.step, .int .i64 s.phase, .bool s.fresh, .slice ua s.vals.length uc, .slice ya s.mail.length yc] 28)).ownsRow W0.heap.size 53 2 (.slice ca c.vals.length cc) c.vals.length (c.vals.flatMap encM) ∧ (w4.alloc (.cells #[.int .i64 s.step, .int .i64 s.phase, .bool s.fresh, .slice ua s.vals.length uc, .slice ya s.mail.length yc] 28)).ownsRow W0.heap.size 62 2 (.slice cb c.mail.length cd) c.mail.length (c.mail.flatMap encM)) ∧ ((w4.alloc (.cells #[.int .i64 s.step, .int .i64 s.phase, .bool s.fresh, .slice ua s.vals.length uc, .slice ya s.mail.length yc] 28)).ownsRow W0.heap.size 53 2 (.slice ua s.vals.length uc) s.vals.length (s.vals.flatMap encM) ∧ (w4.alloc (.cells #[.int .i64 s.step, .int .i64 s.phase, .bool s.fresh, .slice ua s.vals.length uc, .slice ya s.mail.length yc] 28)).ownsRow W0.heap.size 62 2 (.slice ya s.mail.length yc) s.mail.length (s.mail.flatMap encM))) := by
        have h := HB.out.trans (hb4.mono hsr)
        have bA := hb4.alloc hb4.size (.cells #[.int .i64 s.step, .int .i64 s.phase, .bool s.fresh, .slice ua s.vals.length uc, .slice ya s.mail.length yc] 28)
        exact ⟨h.alloc h.size _, BX.new _ _ _, HQ.out.below bA HQ.out.lt, ⟨own_below HO.out.1 bA (Nat.le_refl _), own_below HO.out.2 bA (Nat.le_refl _)⟩, own_below (own_lower hu1 hsr) (below_alloc _ _) (Nat.le_refl _), own_below (own_lower hu2 hsr) (below_alloc _ _) (Nat.le_refl _)⟩
      clear hu1 hu2 hb4 q0 HQ HO HB CL
      go_upto_region 6 with fail
      generalize w4.alloc (.cells #[.int .i64 s.step, .int .i64 s.phase, .bool s.fresh, .slice ua s.vals.length uc, .slice ya s.mail.length yc] 28) = w5 at *
      generalize w4.heap.size = b5 at *
      obtain ⟨a5, x5, y5, o5, p5⟩ := E4.out
      have A5 : Hid (Below W0.heap.size W0 w5) := a5
      have Y5 : Hid (BX 28 w5 W0.heap.size #[.int .i64 c.step, .int .i64 c.phase, .bool c.fresh, .slice ca c.vals.length cc, .slice cb c.mail.length cd]) := y5
      have O5 : Hid (w5.ownsRow W0.heap.size 53 2 (.slice ca c.vals.length cc) c.vals.length (c.vals.flatMap encM) ∧ w5.ownsRow W0.heap.size 62 2 (.slice cb c.mail.length cd) c.mail.length (c.mail.flatMap encM)) := o5
      have P5 : Hid (w5.ownsRow W0.heap.size 53 2 (.slice ua s.vals.length uc) s.vals.length (s.vals.flatMap encM) ∧ w5.ownsRow W0.heap.size 62 2 (.slice ya s.mail.length yc) s.mail.length (s.mail.flatMap encM)) := p5
      obtain ⟨e0, e1, e2, e3, e4⟩ := x5.all5
      obtain ⟨g0, g1, g2, g3, g4⟩ := y5.all5
      clear a5 x5 y5 o5 p5 E4
      by_cases h2 : t2 = 0 ∧ s.step ≤ n
      case neg =>
        have JJ : Hid (curN fs n (k + 1) = (c, t)) := J1.out h2
        clear J1 J2 J3
        by_cases h3 : t2 = 0
        · have h4 : ¬ s.step ≤ n := fun h => h2 ⟨h3, h⟩
          have tn : (t2 != 0) = false := by simp [h3]
          have h5 : n < s.step := by omega
          clear h2 h3 h4
          go_wp2_with fail
          go_roundw
          case rel => exact ⟨k + 1, c, t, _, _, by omega, by go_num, rfl, JJ.out, Y5.out, O5.out.1, O5.out.2, A5.out⟩
          case measure => simp [intOf]; omega
        · have tn : (t2 != 0) = true := by simp [h3]
          clear h2 h3
          go_wp2_with fail
          go_roundw
          case rel => exact ⟨k + 1, c, t, _, _, by omega, by go_num, rfl, JJ.out, Y5.out, O5.out.1, O5.out.2, A5.out⟩
          case measure => simp [intOf]; omega
      have h4 : ¬ n < s.step := by omega
      have tn : (t2 != 0) = false := by simp [h2.1]
      have TAKE : Hid ((t ≠ 0 ∨ c.step < s.step) → curN fs n (k + 1) = (s, 0)) := J2.out h2
      clear J1 J2 h2
      have F5 : Hid (BX 28 (putS w5 W0.heap.size (.int .i64 s.step) (.int .i64 s.phase) (.bool s.fresh) (.slice ua s.vals.length uc) (.slice ya s.mail.length yc)) W0.heap.size #[.int .i64 s.step, .int .i64 s.phase, .bool s.fresh, .slice ua s.vals.length uc, .slice ya s.mail.length yc] ∧ ((putS w5 W0.heap.size (.int .i64 s.step) (.int .i64 s.phase) (.bool s.fresh) (.slice ua s.vals.length uc) (.slice ya s.mail.length yc)).ownsRow W0.heap.size 53 2 (.slice ua s.vals.length uc) s.vals.length (s.vals.flatMap encM) ∧ (putS w5 W0.heap.size (.int .i64 s.step) (.int .i64 s.phase) (.bool s.fresh) (.slice ua s.vals.length uc) (.slice ya s.mail.length yc)).ownsRow W0.heap.size 62 2 (.slice ya s.mail.length yc) s.mail.length (s.mail.flatMap encM)) ∧ Below W0.heap.size W0 (putS w5 W0.heap.size (.int .i64 s.step) (.int .i64 s.phase) (.bool s.fresh) (.slice ua s.vals.length uc) (.slice ya s.mail.length yc))) := ⟨BX.putS Y5.out, ⟨own_off P5.out.1 Y5.out (by decide) (kept_putS w5 W0.heap.size _ _ _ _ _), own_off P5.out.2 Y5.out (by decide) (kept_putS w5 W0.heap.size _ _ _ _ _)⟩, below_putS A5.out (Nat.le_refl _) _ _ _ _ _⟩
      obtain ⟨z0, z1, z2, z3, z4⟩ := Y5.out.all5f
      by_cases h5 : t = 0
      case neg =>
        have JJ : Hid (curN fs n (k + 1) = (s, 0)) := TAKE.out (.inl h5)
        have tm : (t != 0) = true := by simp [h5]
        clear TAKE J3 h5
        unfold putS at F5
        go_wp2_with fail
        go_roundw
        case rel => exact ⟨k + 1, s, 0, _, _, by omega, by go_num, rfl, JJ.out, F5.out.1, F5.out.2.1.1, F5.out.2.1.2, F5.out.2.2⟩
        case measure => simp [intOf]; omega
      have tm : (t != 0) = false := by simp [h5]
      by_cases h6 : c.step < s.step
      · have JJ : Hid (curN fs n (k + 1) = (s, 0)) := TAKE.out (.inr h6)
        clear TAKE J3 h5
        unfold putS at F5
        go_wp2_with fail
        go_roundw
        case rel => exact ⟨k + 1, s, 0, _, _, by omega, by go_num, rfl, JJ.out, F5.out.1, F5.out.2.1.1, F5.out.2.1.2, F5.out.2.2⟩
        case measure => simp [intOf]; omega
      have JJ : Hid (curN fs n (k + 1) = (c, t)) := J3.out (fun h => by rcases h with h | h; exact h h5; exact h6 h)
      have H5 : Hid (t = 0) := h5
      clear TAKE J3 h5 F5
      go_wp2_with fail
      go_roundw
      case rel => exact ⟨k + 1, c, t, _, _, by omega, by go_num, rfl, JJ.out, Y5.out, O5.out.1, O5.out.2, A5.out⟩
      case measure => simp [intOf]; omega
    · have HE : Hid (∀ v1 v2 w', w'.ownsRow w.heap.size 53 2 v1 c.vals.length (c.vals.flatMap encM) → w'.ownsRow w.heap.size 62 2 v2 c.mail.length (c.mail.flatMap encM) → Below w.heap.size w w' → P (.returned (.tuple #[.agg #[.int .i64 c.step, .int .i64 c.phase, .bool c.fresh, v1, v2], .int .i64 t])) w') := HE2.out c t (by have e : k = 2 := (by omega); have := HC.out; rwa [e] at this)
      obtain ⟨g0, g1, g2, g3, g4⟩ := HQ.out.all5
      obtain ⟨m0, m1, m2, m3, m4⟩ := (HK.out _ HB.out).2.1.all5
      obtain ⟨f0, f1, f2, f3, f4⟩ := (HK.out _ HB.out).2.1.all5f
      have HX : Hid (P (.returned (.tuple #[.agg #[.int .i64 c.step, .int .i64 c.phase, .bool c.fresh, .slice ca c.vals.length cc, .slice cb c.mail.length cd], .int .i64 t])) (putS wr (w.heap.size + 1) (.int .i64 c.step) (.int .i64 c.phase) (.bool c.fresh) (.slice ca c.vals.length cc) (.slice cb c.mail.length cd))) := HE.out _ _ _ (own_lower (own_off HO.out.1 (HK.out _ HB.out).2.1 (by decide) (kept_putS wr (w.heap.size + 1) _ _ _ _ _)) (by omega)) (own_lower (own_off HO.out.2 (HK.out _ HB.out).2.1 (by decide) (kept_putS wr (w.heap.size + 1) _ _ _ _ _)) (by omega)) (below_putS (HK.out _ HB.out).2.2.1 (Nat.le_succ _) _ _ _ _ _)
      have RX : Hid (BX 28 (putS wr (w.heap.size + 1) (.int .i64 c.step) (.int .i64 c.phase) (.bool c.fresh) (.slice ca c.vals.length cc) (.slice cb c.mail.length cd)) (w.heap.size + 1) #[.int .i64 c.step, .int .i64 c.phase, .bool c.fresh, .slice ca c.vals.length cc, .slice cb c.mail.length cd]) := BX.putS (HK.out _ HB.out).2.1
      go_wp2_with fail
      obtain ⟨r0, r1, r2, r3, r4⟩ := RX.out.all5
      unfold putS at r0 r1 r2 r3 r4
      exact bodyPost_ret (v := .tuple #[.agg #[.int .i64 c.step, .int .i64 c.phase, .bool c.fresh, .slice ca c.vals.length cc, .slice cb c.mail.length cd], .int .i64 t]) (by simp [results, Tryz.results16, go_sem, r0, r1, r2, r3, r4]) rfl HX.out
end Go.Proofs.YtkgdenbabafeoaaGreatDoor
