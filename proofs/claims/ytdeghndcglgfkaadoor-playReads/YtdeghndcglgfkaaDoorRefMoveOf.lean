/-
  Contract of the document's own moveOf: the move whose line this is.
-/
import Derived.Test.YtdeghndcglgfkaaDoorWordMath
import Derived.Test.YtdeghndcglgfkaaDoorRefWord
import Derived.Test.YtdeghndcglgfkaaDoorPlayLines
namespace Go.Proofs.YtdeghndcglgfkaaDoor
set_option maxRecDepth 100000
open Go.ChangeShapes Go.WideShapes Go.ChangeAt Go.RowKit

theorem Tryd.infoS9 : (Tryd.prog.info? 9).map (fun i => (i.zero, i.size, i.bytes)) = some (some (.string ⟨#[]⟩), 1, 16) := by kernel_rfl
/-- Words in memory. -/
def encS (x : List UInt8) : List Value := [.string ⟨x.toArray⟩]
def kS : ElK (List UInt8) := ⟨encS, 1, 69, 9, 16, .string ⟨#[]⟩, Tryd.underlying69, Tryd.infoS9, rfl, by decide, fun _ => rfl, fun x u hu => by simp [encS] at hu; subst hu; rfl⟩
theorem ext_mid (s : ByteArray) (a b : Nat) : s.extract a b = ⟨((s.data.toList.drop a).take (b - a)).toArray⟩ := by
  apply ByteArray.ext
  rw [ByteArray.data_extract]
  apply Array.toList_inj.1
  rw [Array.toList_extract, List.extract_eq_take_drop]

theorem form_idx : ∀ (j : Nat) (f : Fm), formsL[j]? = some f → f.1 = (j : Int) + 1 := by
  intro j f h
  have hj : j < 8 := (List.getElem?_eq_some_iff.1 h).1
  obtain rfl | rfl | rfl | rfl | rfl | rfl | rfl | rfl : j = 0 ∨ j = 1 ∨ j = 2 ∨ j = 3 ∨ j = 4 ∨ j = 5 ∨ j = 6 ∨ j = 7 := by omega
  all_goals (simp [formsL] at h; subst h; rfl)

set_option maxHeartbeats 8000000 in
theorem moveOf_any (s : ByteArray) (hs : s.size ≤ 5000000) (w : World) :
    Calls Tryd.prog 20 #[.string s] w fun e w' => ∃ r : Mv, e = .returned (.agg #[.int .i64 r.1, .int .i64 r.2.1, .int .i64 r.2.2]) ∧ MvP s.data.toList r ∧ Below w.heap.size w w' := by
  have HL : Hid (s.data.toList.length = s.size) := Array.length_toList
  obtain ⟨L, hL⟩ : ∃ L, L = s.data.toList := ⟨_, rfl⟩
  have HAT : Hid (∀ p (h : p < s.size), L[p]? = some (s[p]'h)) := fun p h => by rw [hL]; exact str_atB s p h
  have HEX : Hid (∀ a b, s.extract a b = ⟨((L.drop a).take (b - a)).toArray⟩) := fun a b => by rw [hL]; exact ext_mid s a b
  rw [← hL] at HL ⊢
  clear hL
  have HX0 : Hid (BX 34 (w.alloc (.cells #[.int .i64 0, .int .i64 0, .int .i64 0] 34)) w.heap.size #[.int .i64 0, .int .i64 0, .int .i64 0]) := BX.new _ _ _
  have HBW : Hid (Below w.heap.size w (w.alloc (.cells #[.int .i64 0, .int .i64 0, .int .i64 0] 34))) := below_alloc _ _
  go_enter Tryd.func20, Tryd.ntmps20
  go_wp2_with fail
  have hsz : (w.alloc (.cells #[.int .i64 0, .int .i64 0, .int .i64 0] 34)).heap.size = w.heap.size + 1 := by simp
  generalize w.alloc (.cells #[.int .i64 0, .int .i64 0, .int .i64 0] 34) = W0 at HX0 HBW hsz ⊢
  go_loopw [3, 4, 5] (fun u f i wr => ∃ (p fr : Nat) (P : List (List UInt8)), p ≤ s.size + 1 ∧ fr ≤ p ∧ P.length ≤ p ∧ i = .int .i64 (p : Int) ∧ f = .int .i64 (fr : Int) ∧ wr.ownsRow (w.heap.size + 1) 9 1 u P.length (P.flatMap encS) ∧ Below (w.heap.size + 1) W0 wr ∧ 32 ∉ (L.drop fr).take (p - fr) ∧ (p ≤ s.size → spl L = P ++ spl (L.drop fr)) ∧ (p = s.size + 1 → spl L = P)) (fun _ _ i _ => s.size + 1 - (intOf i).toNat)
  case atStart => exact ⟨0, 0, [], by omega, by omega, by simp, rfl, rfl, World.ownsRow_nil _ _ _ _, Below.refl _ _, by simp, fun _ => by simp, fun h => by omega⟩
  case round =>
    obtain ⟨p, fr, P, hp, hfr, hPl, rfl, rfl, hown, hbel, hno, hP1, hP2⟩ := hrel
    have OW : Hid (wr.ownsRow (w.heap.size + 1) 9 1 u3 P.length (P.flatMap encS)) := hown
    have HB : Hid (Below (w.heap.size + 1) W0 wr) := hbel
    have hsr : w.heap.size + 1 ≤ wr.heap.size := by have := hbel.size; omega
    have HNO : Hid (32 ∉ (L.drop fr).take (p - fr)) := hno
    have HP1 : Hid (p ≤ s.size → spl L = P ++ spl (L.drop fr)) := hP1
    have HP2 : Hid (p = s.size + 1 → spl L = P) := hP2
    obtain ⟨ua, uc, rfl⟩ := (RowK.own (enc := encS) (k := 1) (fun _ => rfl) hown).shape
    clear hown hbel hno hP1 hP2
    by_cases hle : p ≤ s.size
    · have q1 : (p : Int) ≤ (s.size : Int) := by omega
      have HAPP : Hid (∀ X : World, Below (w.heap.size + 1) W0 X → X.ownsRow (w.heap.size + 1) 9 1 (.slice ua P.length uc) P.length (P.flatMap encS) → True) := fun _ _ _ => trivial
      clear HAPP
      by_cases hend : p = s.size
      · have HN : Hid (spl L = P ++ [(L.drop fr).take (p - fr)]) := spl_last (by have := HL.out; omega) (HP1.out hle) HNO.out
        have q2 : ((p : Int) == (s.size : Int)) = true := by rw [hend]; simp
        have q3 : (0 : Int) ≤ (fr : Int) := by omega
        have q4 : (fr : Int) ≤ (p : Int) := by omega
        have hex := HEX.out fr p
        generalize (L.drop fr).take (p - fr) = WD at HN hex HNO
        have hpe : Hid (p = s.size) := hend
        clear hend
        go_wp2_with (at_builtin; refine wpList_append_newK kS rfl _ _ rfl (w.heap.size + 1) _ P rfl (OW.out.alloc _) _ WD rfl #[.string ⟨WD.toArray⟩] rfl (0, 0) (heap_alloc_new _ _) (by simp [kS]; omega) (by unfold maxLen; omega) (by simp; omega) ?_)
        intro g c w3 hown3 hb3 _
        have H3 : Hid (w3.ownsRow (w.heap.size + 1) 9 1 (.slice (some ⟨g, 0, none⟩) (P.length + 1) c) (P ++ [WD]).length ((P ++ [WD]).flatMap encS) ∧ Below (w.heap.size + 1) W0 w3) := ⟨by simpa [kS] using hown3, (HB.out.alloc (by omega) _).trans hb3⟩
        clear hown3 hb3
        go_wp2_with fail
        go_roundw
        case rel => exact ⟨p + 1, p + 1, P ++ [WD], by omega, by omega, by simp; omega, by go_num, by go_num, H3.out.1, H3.out.2, by simp, fun h => by have := hpe.out; omega, fun _ => HN.out⟩
        case measure => simp [intOf]; omega
      · have hlt : p < s.size := by omega
        have q2 : ((p : Int) == (s.size : Int)) = false := by rw [beq_eq_false_iff_ne]; omega
        have q5 : (p : Int) < (s.size : Int) := by omega
        obtain ⟨b, hb⟩ : ∃ b : UInt8, s[p]'hlt = b := ⟨_, rfl⟩
        have XB : Hid (L[p]? = some b) := by show _ = _; rw [HAT.out p hlt, hb]
        by_cases h32 : b = 32
        · have q6 : ((b.toNat : Int) == 32) = true := by rw [h32]; rfl
          have HN : Hid (spl L = (P ++ [(L.drop fr).take (p - fr)]) ++ spl (L.drop (p + 1))) := spl_step hfr (by rw [XB.out, h32]) (HP1.out hle) HNO.out
          have q3 : (0 : Int) ≤ (fr : Int) := by omega
          have q4 : (fr : Int) ≤ (p : Int) := by omega
          have hex := HEX.out fr p
          generalize (L.drop fr).take (p - fr) = WD at HN hex HNO
          go_wp2_with (at_builtin; refine wpList_append_newK kS rfl _ _ rfl (w.heap.size + 1) _ P rfl (OW.out.alloc _) _ WD rfl #[.string ⟨WD.toArray⟩] rfl (0, 0) (heap_alloc_new _ _) (by simp [kS]; omega) (by unfold maxLen; omega) (by simp; omega) ?_)
          intro g c w3 hown3 hb3 _
          have H3 : Hid (w3.ownsRow (w.heap.size + 1) 9 1 (.slice (some ⟨g, 0, none⟩) (P.length + 1) c) (P ++ [WD]).length ((P ++ [WD]).flatMap encS) ∧ Below (w.heap.size + 1) W0 w3) := ⟨by simpa [kS] using hown3, (HB.out.alloc (by omega) _).trans hb3⟩
          clear hown3 hb3
          go_wp2_with fail
          go_roundw
          case rel => exact ⟨p + 1, p + 1, P ++ [WD], by omega, by omega, by simp; omega, by go_num, by go_num, H3.out.1, H3.out.2, by simp, fun _ => HN.out, fun h => by omega⟩
          case measure => simp [intOf]; omega
        · have q6 : ((b.toNat : Int) == 32) = false := by
            rw [beq_eq_false_iff_ne]
            intro h
            exact h32 (UInt8.toNat_inj.1 (by show b.toNat = 32; omega))
          have HN2 : Hid (32 ∉ (L.drop fr).take (p + 1 - fr)) := take_more hfr XB.out h32 HNO.out
          go_wp2_with fail
          go_roundw
          case rel => exact ⟨p + 1, fr, P, by omega, by omega, by omega, by go_num, rfl, OW.out, HB.out, HN2.out, fun _ => HP1.out hle, fun h => by omega⟩
          case measure => simp [intOf]; omega
    · have q1 : ¬ (p : Int) ≤ (s.size : Int) := by omega
      have HWS : Hid (spl L = P) := HP2.out (by omega)
      have HPL : Hid (0 < P.length) := by show _ < _; rw [← HWS.out]; exact List.length_pos_iff.2 (spl_ne L)
      obtain ⟨W1, rfl⟩ : ∃ W1, W1 = wr := ⟨_, rfl⟩
      obtain ⟨g, rfl, hcell⟩ : ∃ g, ua = some ⟨g, 0, none⟩ ∧ ∀ (j : Nat) (x : List UInt8), P[j]? = some x → W1.cell? ⟨g, j, none⟩ = some (.string ⟨x.toArray⟩) := by
        rcases own_shapeK OW.out with ⟨_, h0, _⟩ | ⟨g, cap, e, _, _, _, _, hc⟩
        · have := HPL.out; omega
        · injection e with e1 _ _
          refine ⟨g, e1, fun j x hx => ?_⟩
          have := flat_at (enc := encS) (k := 1) (fun _ => rfl) hx (j := 0) (u := .string ⟨x.toArray⟩) rfl
          rw [Nat.mul_one, Nat.add_zero] at this
          exact hc j _ this
      have HC : Hid (∀ (j : Nat) (x : List UInt8), P[j]? = some x → W1.cell? ⟨g, j, none⟩ = some (.string ⟨x.toArray⟩)) := hcell
      clear hcell
      have HX1 : Hid (BX 34 W1 w.heap.size #[.int .i64 0, .int .i64 0, .int .i64 0]) := BX.below HX0.out HB.out (by omega)
      have HBZ : Hid (Below w.heap.size w W1) := HBW.out.trans (HB.out.mono (by omega))
      have hPm : P.length ≤ 5000001 := by omega
      have HBG : Hid (∀ (x : List UInt8) (X : World), Calls Tryd.prog 34 #[.string ⟨x.toArray⟩] X fun r w' => ∃ n, r = .returned (.int .i64 n) ∧ BigP x n ∧ w' = X) := fun x X => big_any ⟨x.toArray⟩ X
      have HSP := HWS
      go_wp2_with fail
      go_loopw [6] (fun i wz => ∃ n : Nat, 1 ≤ n ∧ n ≤ 9 ∧ i = .int .i64 (n : Int) ∧ (∀ (j : Nat) (f : Fm), j + 1 < n → formsL[j]? = some f → ¬ fitF P f) ∧ wz = W1) (fun i _ => 9 - (intOf i).toNat)
      case atStart => exact ⟨1, by omega, by omega, rfl, fun j f h => by omega, rfl⟩
      case round =>
        obtain ⟨n, hn1, hn9, rfl, hnf, hwz⟩ := hrel
        subst hwz
        obtain ⟨W1, rfl⟩ : ∃ W1, W1 = wr := ⟨_, rfl⟩
        have HNF : Hid (∀ (j : Nat) (f : Fm), j + 1 < n → formsL[j]? = some f → ¬ fitF P f) := hnf
        clear hnf
        have hlw : w.heap.size < W1.heap.size := by omega
        obtain ⟨d0, d1, d2, g0, g1, g2⟩ := HX1.out.all3
        have a0 : ∀ X, (W1.alloc X).cell? ⟨w.heap.size, 0, none⟩ = some (.int .i64 0) := fun X => ((below_alloc W1 X).cell (p := ⟨w.heap.size, 0, none⟩) hlw).trans d0
        have a1 : ∀ X, (W1.alloc X).cell? ⟨w.heap.size, 1, none⟩ = some (.int .i64 0) := fun X => ((below_alloc W1 X).cell (p := ⟨w.heap.size, 1, none⟩) hlw).trans d1
        have a2 : ∀ X, (W1.alloc X).cell? ⟨w.heap.size, 2, none⟩ = some (.int .i64 0) := fun X => ((below_alloc W1 X).cell (p := ⟨w.heap.size, 2, none⟩) hlw).trans d2
        have b0 : ∀ X, (W1.alloc X).frozen? ⟨w.heap.size, 0, none⟩ = false := fun X => ((below_alloc W1 X).frozen (p := ⟨w.heap.size, 0, none⟩) hlw).trans g0
        have b1 : ∀ X, (W1.alloc X).frozen? ⟨w.heap.size, 1, none⟩ = false := fun X => ((below_alloc W1 X).frozen (p := ⟨w.heap.size, 1, none⟩) hlw).trans g1
        have b2 : ∀ X, (W1.alloc X).frozen? ⟨w.heap.size, 2, none⟩ = false := fun X => ((below_alloc W1 X).frozen (p := ⟨w.heap.size, 2, none⟩) hlw).trans g2
        by_cases hlt : n ≤ 8
        · obtain ⟨f, hf⟩ : ∃ f, formsL[n - 1]? = some f := ⟨formsL[n - 1]'(by show n - 1 < 8; omega), List.getElem?_eq_getElem _⟩
          have HFM : Hid (f ∈ formsL) := List.mem_of_getElem? hf
          have hfk : f.1 = (n : Int) := by
            have := form_idx _ _ hf
            omega
          have HMW : Hid (∀ X, Calls Tryd.prog 25 #[.int .i64 (n : Int)] X fun e w' => e = .returned (.tuple #[.string ⟨f.2.1.toArray⟩, .bool (decide (1 ≤ f.2.2)), .bool (decide (2 ≤ f.2.2))]) ∧ w' = X) := fun X => by
            have h1 := moveWord_any (n : Int) X
            have h2 := (forms_all f HFM.out).2.2.2.1
            rw [hfk] at h2
            rw [h2] at h1
            exact h1
          have hf2 := (forms_all f HFM.out).2.2.2.2.1
          obtain ⟨x0, hx0⟩ : ∃ x, P[0]? = some x := ⟨P[0]'HPL.out, List.getElem?_eq_getElem _⟩
          have HX0 : Hid (P[0]? = some x0) := hx0
          have c0 := HC.out 0 x0 hx0
          have HNEXT : Hid (¬ fitF P f → ∀ (j : Nat) (h : Fm), j + 1 < n + 1 → formsL[j]? = some h → ¬ fitF P h) := by
            intro hno j h hj hjh
            by_cases e : j = n - 1
            · subst e
              rw [hf] at hjh
              cases hjh
              exact hno
            · exact HNF.out j h (by omega) hjh
          clear hx0 hf
          obtain ⟨fk, fw, fn⟩ := f
          simp only at hfk hf2 HMW
          subst hfk
          have r1 : 0 < P.length := HPL.out
          by_cases hw : fw = x0
          · have e1 : (fw == x0) = true := by simpa using hw
            have e2 : (fw != x0) = false := by simpa using hw
            by_cases hl : P.length = fn + 1
            · have HFIT : Hid (fitF (spl L) ((n : Int), fw, fn)) := by rw [HSP.out]; exact ⟨by rw [HX0.out, hw], hl⟩
              have HPL2 : Hid (P.length = fn + 1) := hl
              clear hl hw
              obtain rfl | rfl | rfl : fn = 0 ∨ fn = 1 ∨ fn = 2 := by omega
              · have HMV : Hid (MvP L ((n : Int), 0, 0)) := mv_zero HFM.out HFIT.out rfl
                have e3 : ((P.length : Int) != 1) = false := by have := HPL2.out; simp; omega
                go_wp2_with fail
                refine (HMW.out _).mono ?_
                rintro e wm ⟨rfl, hwm⟩
                rw [hwm]
                clear hwm HMW
                go_wp2_with fail
                have HX2 := BX.below (HX1.out.put3 (.int .i64 (n : Int)) (.int .i64 0) (.int .i64 0)) (below_alloc _ (.cells #[.int .i64 (n : Int), .int .i64 0, .int .i64 0] 34)) (by simp [put3]; omega)
                obtain ⟨r0, r1, r2, _⟩ := HX2.all3
                unfold put3 at r0 r1 r2
                refine bodyPost_ret (v := .agg #[.int .i64 (n : Int), .int .i64 0, .int .i64 0]) (by simp [results, Tryd.results20, go_sem, r0, r1, r2]) rfl ⟨((n : Int), 0, 0), rfl, HMV.out, ?_⟩
                exact (below_put3 HBZ.out (Nat.le_refl _) _ _ _).alloc (by simp [put3]; omega) _
              · obtain ⟨x1, hx1⟩ : ∃ x, P[1]? = some x := ⟨P[1]'(by have := HPL2.out; omega), List.getElem?_eq_getElem _⟩
                have HX1P : Hid ((spl L)[1]? = some x1) := by show _ = _; rw [HSP.out]; exact hx1
                have c1 := HC.out 1 x1 hx1
                have c1a : ∀ X, (W1.alloc X).cell? ⟨g, 1, none⟩ = some (.string ⟨x1.toArray⟩) := fun X => ((below_alloc W1 X).cell (p := ⟨g, 1, none⟩) (World.block_lt_of_cell? _ _ c1)).trans c1
                clear hx1
                have e3 : ((P.length : Int) != 2) = false := by have := HPL2.out; simp; omega
                have r2 : 1 < P.length := by have := HPL2.out; omega
                have r3 : (1 : Int) < (P.length : Int) := by omega
                go_wp2_with fail
                refine (HMW.out _).mono ?_
                rintro e wm ⟨rfl, hwm⟩
                rw [hwm]
                clear hwm HMW
                go_wp2_with fail
                refine (HBG.out x1 _).mono ?_
                rintro e wb ⟨v1, rfl, hbp1, hwb⟩
                rw [hwb]
                clear hwb
                rcases hbp1 with ⟨m1, rfl, hm1, hd1⟩ | ⟨rfl, hno⟩
                · have HMV : Hid (MvP L ((n : Int), (m1 : Int), 0)) := mv_one HFM.out HFIT.out rfl HX1P.out hm1 hd1
                  have s1 : ¬ (m1 : Int) < 0 := by omega
                  clear hm1 hd1
                  go_wp2_with fail
                  have HX2 := BX.below (HX1.out.put3 (.int .i64 (n : Int)) (.int .i64 (m1 : Int)) (.int .i64 0)) (below_alloc _ (.cells #[.int .i64 (n : Int), .int .i64 (m1 : Int), .int .i64 0] 34)) (by simp [put3]; omega)
                  obtain ⟨r0, r1, r2, _⟩ := HX2.all3
                  unfold put3 at r0 r1 r2
                  refine bodyPost_ret (v := .agg #[.int .i64 (n : Int), .int .i64 (m1 : Int), .int .i64 0]) (by simp [results, Tryd.results20, go_sem, r0, r1, r2]) rfl ⟨((n : Int), (m1 : Int), 0), rfl, HMV.out, ?_⟩
                  exact (below_put3 HBZ.out (Nat.le_refl _) _ _ _).alloc (by simp [put3]; omega) _
                · have HMV : Hid (MvP L (0, 0, 0)) := mv_bad HFM.out HFIT.out (.inl ⟨x1, by simp, HX1P.out, hno⟩)
                  clear hno
                  go_wp2_with fail
                  have HX2 := BX.below (HX1.out.put3 (.int .i64 0) (.int .i64 0) (.int .i64 0)) (below_alloc _ (.cells #[.int .i64 (n : Int), .int .i64 (-1), .int .i64 0] 34)) (by simp [put3]; omega)
                  obtain ⟨r0, r1, r2, _⟩ := HX2.all3
                  unfold put3 at r0 r1 r2
                  refine bodyPost_ret (v := .agg #[.int .i64 0, .int .i64 0, .int .i64 0]) (by simp [results, Tryd.results20, go_sem, r0, r1, r2]) rfl ⟨(0, 0, 0), rfl, HMV.out, ?_⟩
                  exact (below_put3 HBZ.out (Nat.le_refl _) _ _ _).alloc (by simp [put3]; omega) _
              · obtain ⟨x1, hx1⟩ : ∃ x, P[1]? = some x := ⟨P[1]'(by have := HPL2.out; omega), List.getElem?_eq_getElem _⟩
                have HX1P : Hid ((spl L)[1]? = some x1) := by show _ = _; rw [HSP.out]; exact hx1
                have c1 := HC.out 1 x1 hx1
                have c1a : ∀ X, (W1.alloc X).cell? ⟨g, 1, none⟩ = some (.string ⟨x1.toArray⟩) := fun X => ((below_alloc W1 X).cell (p := ⟨g, 1, none⟩) (World.block_lt_of_cell? _ _ c1)).trans c1
                obtain ⟨x2, hx2⟩ : ∃ x, P[2]? = some x := ⟨P[2]'(by have := HPL2.out; omega), List.getElem?_eq_getElem _⟩
                have HX2P : Hid ((spl L)[2]? = some x2) := by show _ = _; rw [HSP.out]; exact hx2
                have c2 := HC.out 2 x2 hx2
                clear hx1 hx2
                have hgl : g < W1.heap.size := World.block_lt_of_cell? _ _ c0
                have c2a : ∀ X, (W1.alloc X).cell? ⟨g, 2, none⟩ = some (.string ⟨x2.toArray⟩) := fun X => ((below_alloc W1 X).cell (p := ⟨g, 2, none⟩) hgl).trans c2
                have e3 : ((P.length : Int) != 3) = false := by have := HPL2.out; simp; omega
                have r2 : 1 < P.length := by have := HPL2.out; omega
                have r3 : (1 : Int) < (P.length : Int) := by omega
                have r4 : 2 < P.length := by have := HPL2.out; omega
                have r5 : (2 : Int) < (P.length : Int) := by omega
                go_wp2_with fail
                refine (HMW.out _).mono ?_
                rintro e wm ⟨rfl, hwm⟩
                rw [hwm]
                clear hwm HMW
                go_wp2_with fail
                refine (HBG.out x1 _).mono ?_
                rintro e wb ⟨v1, rfl, hbp1, hwb⟩
                rw [hwb]
                clear hwb
                go_wp2_with fail
                refine (HBG.out x2 _).mono ?_
                rintro e wb ⟨v2, rfl, hbp2, hwb⟩
                rw [hwb]
                clear hwb
                rcases hbp1 with ⟨m1, rfl, hm1, hd1⟩ | ⟨rfl, hno⟩
                · rcases hbp2 with ⟨m2, rfl, hm2, hd2⟩ | ⟨rfl, hno⟩
                  · have HMV : Hid (MvP L ((n : Int), (m1 : Int), (m2 : Int))) := mv_two HFM.out HFIT.out rfl HX1P.out HX2P.out hm1 hd1 hm2 hd2
                    have s1 : ¬ (m1 : Int) < 0 := by omega
                    have s2 : ¬ (m2 : Int) < 0 := by omega
                    clear hm1 hd1 hm2 hd2
                    go_wp2_with fail
                    have HX2 := BX.below (HX1.out.put3 (.int .i64 (n : Int)) (.int .i64 (m1 : Int)) (.int .i64 (m2 : Int))) (below_alloc _ (.cells #[.int .i64 (n : Int), .int .i64 (m1 : Int), .int .i64 (m2 : Int)] 34)) (by simp [put3]; omega)
                    obtain ⟨r0, r1, r2, _⟩ := HX2.all3
                    unfold put3 at r0 r1 r2
                    refine bodyPost_ret (v := .agg #[.int .i64 (n : Int), .int .i64 (m1 : Int), .int .i64 (m2 : Int)]) (by simp [results, Tryd.results20, go_sem, r0, r1, r2]) rfl ⟨((n : Int), (m1 : Int), (m2 : Int)), rfl, HMV.out, ?_⟩
                    exact (below_put3 HBZ.out (Nat.le_refl _) _ _ _).alloc (by simp [put3]; omega) _
                  · have HMV : Hid (MvP L (0, 0, 0)) := mv_bad HFM.out HFIT.out (.inr ⟨x2, by simp, HX2P.out, hno⟩)
                    have s1 : ¬ (m1 : Int) < 0 := by omega
                    clear hno
                    go_wp2_with fail
                    have HX2 := BX.below (HX1.out.put3 (.int .i64 0) (.int .i64 0) (.int .i64 0)) (below_alloc _ (.cells #[.int .i64 (n : Int), .int .i64 (m1 : Int), .int .i64 (-1)] 34)) (by simp [put3]; omega)
                    obtain ⟨r0, r1, r2, _⟩ := HX2.all3
                    unfold put3 at r0 r1 r2
                    refine bodyPost_ret (v := .agg #[.int .i64 0, .int .i64 0, .int .i64 0]) (by simp [results, Tryd.results20, go_sem, r0, r1, r2]) rfl ⟨(0, 0, 0), rfl, HMV.out, ?_⟩
                    exact (below_put3 HBZ.out (Nat.le_refl _) _ _ _).alloc (by simp [put3]; omega) _
                · have HMV : Hid (MvP L (0, 0, 0)) := mv_bad HFM.out HFIT.out (.inl ⟨x1, by simp, HX1P.out, hno⟩)
                  clear hno hbp2
                  go_wp2_with fail
                  have HX2 := BX.below (HX1.out.put3 (.int .i64 0) (.int .i64 0) (.int .i64 0)) (below_alloc _ (.cells #[.int .i64 (n : Int), .int .i64 (-1), .int .i64 v2] 34)) (by simp [put3]; omega)
                  obtain ⟨r0, r1, r2, _⟩ := HX2.all3
                  unfold put3 at r0 r1 r2
                  refine bodyPost_ret (v := .agg #[.int .i64 0, .int .i64 0, .int .i64 0]) (by simp [results, Tryd.results20, go_sem, r0, r1, r2]) rfl ⟨(0, 0, 0), rfl, HMV.out, ?_⟩
                  exact (below_put3 HBZ.out (Nat.le_refl _) _ _ _).alloc (by simp [put3]; omega) _
            · have HN := Lib.hid (HNEXT.out (fun h => hl h.2))
              have HPL3 : Hid (¬ P.length = fn + 1) := hl
              clear hl hw
              obtain rfl | rfl | rfl : fn = 0 ∨ fn = 1 ∨ fn = 2 := by omega
              · have e3 : ((P.length : Int) != 1) = true := by have := HPL3.out; simp; omega
                go_wp2_with fail
                refine (HMW.out _).mono ?_
                rintro e wm ⟨rfl, hwm⟩
                rw [hwm]
                clear hwm HMW
                go_wp2_with fail
                go_roundw
                case rel => exact ⟨n + 1, by omega, by omega, by go_num, HN.out, trivial⟩
                case measure => simp [intOf]; omega
              · have e3 : ((P.length : Int) != 2) = true := by have := HPL3.out; simp; omega
                go_wp2_with fail
                refine (HMW.out _).mono ?_
                rintro e wm ⟨rfl, hwm⟩
                rw [hwm]
                clear hwm HMW
                go_wp2_with fail
                go_roundw
                case rel => exact ⟨n + 1, by omega, by omega, by go_num, HN.out, trivial⟩
                case measure => simp [intOf]; omega
              · have e3 : ((P.length : Int) != 3) = true := by have := HPL3.out; simp; omega
                go_wp2_with fail
                refine (HMW.out _).mono ?_
                rintro e wm ⟨rfl, hwm⟩
                rw [hwm]
                clear hwm HMW
                go_wp2_with fail
                go_roundw
                case rel => exact ⟨n + 1, by omega, by omega, by go_num, HN.out, trivial⟩
                case measure => simp [intOf]; omega
          · have HN := Lib.hid (HNEXT.out (fun h => hw (by have := h.1; rw [HX0.out] at this; exact (Option.some.inj this).symm)))
            have e1 : (fw == x0) = false := by simpa using hw
            have e2 : (fw != x0) = true := by simpa using hw
            clear hw
            obtain rfl | rfl | rfl : fn = 0 ∨ fn = 1 ∨ fn = 2 := by omega
            all_goals
              go_wp2_with fail
              refine (HMW.out _).mono ?_
              rintro e wm ⟨rfl, hwm⟩
              rw [hwm]
              clear hwm HMW
              go_wp2_with fail
              go_roundw
              case rel => exact ⟨n + 1, by omega, by omega, by go_num, HN.out, trivial⟩
              case measure => simp [intOf]; omega
        · have HMV : Hid (MvP L (0, 0, 0)) := mv_none (by
            intro f hf
            rw [HSP.out]
            obtain ⟨j, hj⟩ := List.mem_iff_getElem?.1 hf
            have : j < 8 := (List.getElem?_eq_some_iff.1 hj).1
            exact HNF.out j f (by omega) hj)
          go_wp2_with fail
          obtain ⟨r0, r1, r2, _⟩ := (HX1.out.put3 (.int .i64 0) (.int .i64 0) (.int .i64 0)).all3
          unfold put3 at r0 r1 r2
          refine bodyPost_ret (v := .agg #[.int .i64 0, .int .i64 0, .int .i64 0]) (by simp [results, Tryd.results20, go_sem, r0, r1, r2]) rfl ⟨(0, 0, 0), rfl, HMV.out, ?_⟩
          exact below_put3 HBZ.out (Nat.le_refl _) _ _ _
end Go.Proofs.YtdeghndcglgfkaaDoor
