/-
  Contract of pacelineref.GapsOf: it returns the bytes and the error that P1.5 names; nothing that was there is written.
-/
import Derived.Test.YtihghhmhgakkaaaGapsWalk
import Derived.Test.YtihghhmhgakkaaaPackedWalk
import Derived.Test.YtihghhmhgakkaaaRowCore
import Derived.Laws.AppendOwnNone
namespace Go.Proofs.Ytihghhmhgakkaaa
set_option maxRecDepth 100000
open Go.ChangeShapes Go.WideShapes Go.ChangeAt Go.RowKit


def inV (n : Int) : Bool := decide (0 ≤ n ∧ n ≤ 1152921504606846976)
theorem inV_yes {n : Int} (h : 0 ≤ n ∧ n ≤ 1152921504606846976) : inV n = true := by simp [inV, h]
theorem inV_no {n : Int} (h : ¬ (0 ≤ n ∧ n ≤ 1152921504606846976)) : inV n = false := by simp only [inV, decide_eq_false_iff_not]; exact h

set_option maxHeartbeats 400000 in
theorem inV_any (n : Int) (w : World) : Calls Try.prog 44 #[.int .i64 n, .int .i64 0, .int .i64 1152921504606846976] w fun e w' => e = .returned (.bool (inV n)) ∧ w' = w := by
  by_cases h : 0 ≤ n
  · by_cases h2 : n ≤ 1152921504606846976
    · have H : Hid (inV n = true) := inV_yes ⟨h, h2⟩
      go_enter Try.func44, Try.ntmps44
      go_wp2
      go_ret
      exact ⟨ret_bool H.out.symm, rfl⟩
    · have H : Hid (inV n = false) := inV_no (by omega)
      go_enter Try.func44, Try.ntmps44
      go_wp2
      go_ret
      exact ⟨ret_bool H.out.symm, rfl⟩
  · have H : Hid (inV n = false) := inV_no (by omega)
    go_enter Try.func44, Try.ntmps44
    go_wp2
    go_ret
    exact ⟨ret_bool H.out.symm, rfl⟩

set_option maxHeartbeats 1600000 in
set_option maxRecDepth 100000 in
theorem gapsOf_row (a : Option Addr) (cap : Nat) (xs : List Int) (w : World) (h : Reads .i64 w (.slice a xs.length cap) xs) :
    Calls Try.prog 47 #[.slice a xs.length cap] w fun e w' =>
      ∃ c v', e = .returned (.tuple #[v', .int .i64 c]) ∧ Named xs c ∧ w'.ownsRow w.heap.size 5 1 v' (gapsF xs c).length ((gapsF xs c).map (Value.int .u8)) ∧ Below w.heap.size w w' := by
  have HR : Hid (Reads .i64 w (.slice a xs.length cap) xs) := h
  have hm : xs.length ≤ maxLen := by obtain ⟨a', c', hv, h1, h2, _⟩ := h; omega
  unfold maxLen at hm
  clear h
  obtain ⟨i0, hi, hz0, hz1, hz2⟩ := info_parts Try.info5
  by_cases hl : 2000 < xs.length
  · have HN : Hid (Named xs 1) := .inl ⟨rfl, hl⟩
    have HF : Hid (gapsF xs 1 = []) := rfl
    go_enter Try.func47, Try.ntmps47
    go_wp2_with fail
    go_ret2
    exact ⟨1, _, rfl, HN.out, by rw [HF.out]; exact World.ownsRow_nil _ _ _ _, Below.refl _ _⟩
  · have hl2 : xs.length ≤ 2000 := by omega
    clear hl
    go_enter Try.func47, Try.ntmps47
    go_wp2_with fail
    go_loop [4] (fun i => ∃ k : Nat, k ≤ xs.length ∧ i = .int .i64 k ∧ (∀ i, i < k → 0 ≤ xs.getD i 0 ∧ xs.getD i 0 ≤ 1152921504606846976)) (fun i => xs.length - (intOf i).toNat)
    case atStart => exact ⟨0, by omega, rfl, fun i hi => by omega⟩
    case round =>
      obtain ⟨k, hk, rfl, hs⟩ := hrel
      have HS : Hid (∀ i, i < k → 0 ≤ xs.getD i 0 ∧ xs.getD i 0 ≤ 1152921504606846976) := hs
      clear hs
      by_cases hlt : k < xs.length
      · obtain ⟨b, off, cap', hv, _, _, hb, hcell⟩ := HR.out.plain (by omega)
        injection hv with hv1 hv2 hv3
        subst hv1 hv3
        have d1 := hcell k hlt
        have HN : Hid (0 ≤ xs.getD k 0 ∧ xs.getD k 0 ≤ 1152921504606846976 → ∀ i, i < k + 1 → 0 ≤ xs.getD i 0 ∧ xs.getD i 0 ≤ 1152921504606846976) := fun h i hi => by
          by_cases e : i = k
          · rw [e]; exact h
          · exact HS.out i (by omega)
        have HF : Hid (¬ (0 ≤ xs.getD k 0 ∧ xs.getD k 0 ≤ 1152921504606846976) → Named xs 2) := fun h => .inr (.inl ⟨rfl, hl2, fun h2 => h (h2 k hlt)⟩)
        have HZ : Hid (gapsF xs 2 = []) := rfl
        clear hcell hv2
        generalize xs.getD k 0 = x at *
        go_wp2_with fail
        refine (inV_any x _).mono ?_
        rintro e w' ⟨rfl, rfl⟩
        by_cases hx : 0 ≤ x ∧ x ≤ 1152921504606846976
        · have HN2 : Hid _ := HN.out hx
          rw [inV_yes hx]
          clear hx
          go_wp2_with fail
          go_round
          case rel => exact ⟨k + 1, by omega, by go_num, HN2.out⟩
          case measure => simp [intOf]; omega
        · have HF2 : Hid (Named xs 2) := HF.out hx
          rw [inV_no hx]
          clear hx
          go_wp2_with fail
          go_ret2
          exact ⟨2, _, rfl, HF2.out, by rw [HZ.out]; exact World.ownsRow_nil _ _ _ _, Below.refl _ _⟩
      · have HA : Hid (AllIn xs) := fun i hi => HS.out i (by omega)
        clear HS
        go_wp2_with fail
        refine (packed_any 9 _ _ (by omega) (lt_128_10 (by omega)) (by omega)).mono ?_
        rintro e w2 ⟨v2, rfl, hown2, hb2⟩
        have HO : Hid (w2.ownsRow w.heap.size 5 1 v2 (put xs.length).length ((put xs.length).map (Value.int .u8))) := hown2
        clear hown2
        go_wp2_with fail
        go_loopw [5, 6] (fun v i wr => ∃ k : Nat, k ≤ xs.length ∧ i = .int .i64 k ∧ (∀ i, i + 1 < k → xs.getD i 0 ≤ xs.getD (i + 1) 0) ∧ wr.ownsRow w.heap.size 5 1 v (put xs.length ++ gapsTo xs k).length ((put xs.length ++ gapsTo xs k).map (Value.int .u8)) ∧ Below w.heap.size w wr) (fun _ i _ => xs.length - (intOf i).toNat)
        case atStart => exact ⟨0, by omega, rfl, fun i hi => by omega, by simpa [gapsTo] using HO.out, hb2⟩
        case round =>
          obtain ⟨t, ht, rfl, hs, hown, hbel⟩ := hrel
          have HS : Hid (∀ i, i + 1 < t → xs.getD i 0 ≤ xs.getD (i + 1) 0) := hs
          have HW : Hid (wr.ownsRow w.heap.size 5 1 _ (put xs.length ++ gapsTo xs t).length ((put xs.length ++ gapsTo xs t).map (Value.int .u8))) := hown
          have hsz := hbel.size
          clear hs hown
          by_cases htl : t < xs.length
          · obtain ⟨b, off, cap', hv, _, _, hb, hcell⟩ := HR.out.plain (by omega)
            injection hv with hv1 hv2 hv3
            subst hv1 hv3
            have d1 : wr.cell? ⟨b, off + t, none⟩ = some (.int .i64 (xs.getD t 0)) := (hbel.cell (by exact hb)).trans (hcell t htl)
            have hx := HA.out t htl
            have hlen : (put xs.length ++ gapsTo xs t).length ≤ 20010 := by
              have := put_len xs.length
              have := gapsTo_len xs t
              rw [List.length_append]; omega
            have HL : Hid ((put xs.length ++ gapsTo xs t).length ≤ 20010) := hlen
            have HG : Hid (put xs.length ++ gapsTo xs (t + 1) = (put xs.length ++ gapsTo xs t) ++ put (xs.getD t 0 - prev xs t)) := by
              show put xs.length ++ gapsTo xs (t + 1) = _
              rw [gapsTo, List.append_assoc]
            by_cases h0 : 0 < t
            · obtain ⟨j, rfl⟩ : ∃ j, t = j + 1 := ⟨t - 1, by omega⟩
              have d2 : wr.cell? ⟨b, off + j, none⟩ = some (.int .i64 (xs.getD j 0)) := (hbel.cell (by exact hb)).trans (hcell j (by omega))
              have hy := HA.out j (by omega)
              have HP : Hid (prev xs (j + 1) = xs.getD j 0) := by show prev xs (j + 1) = _; simp [prev]
              have HN : Hid (xs.getD j 0 ≤ xs.getD (j + 1) 0 → ∀ i, i + 1 < j + 1 + 1 → xs.getD i 0 ≤ xs.getD (i + 1) 0) := fun h i hi => by
                by_cases e : i = j
                · rw [e]; exact h
                · exact HS.out i (by omega)
              have HB : Hid (xs.getD (j + 1) 0 < xs.getD j 0 → Named xs 3) := fun h => .inr (.inr (.inl ⟨rfl, hl2, HA.out, fun h2 => by have := h2 j htl; omega⟩))
              have HZ : Hid (gapsF xs 3 = []) := rfl
              rw [HP.out] at HG
              clear hcell hv2 hlen
              generalize xs.getD (j + 1) 0 = x at *
              generalize xs.getD j 0 = y at *
              have i1 : (j : Int) + 1 < (xs.length : Int) := by omega
              have i2 : (j : Int) < (xs.length : Int) := by omega
              have i3 : (0 : Int) ≤ (j : Int) := by omega
              by_cases hxy : x < y
              · have HX : Hid (Named xs 3) := HB.out hxy
                have hneg : x - y < 0 := by omega
                go_wp2_with fail
                go_quiet (fail)
                go_wp2_with fail
                go_ret2
                exact ⟨3, _, rfl, HX.out, by rw [HZ.out]; exact World.ownsRow_nil _ _ _ _, below_drewN hbel _⟩
              · have HX : Hid _ := HN.out (by omega)
                have hneg : ¬ x - y < 0 := by omega
                go_wp2_with fail
                go_quiet (fail)
                go_wp2_with fail
                refine (packed_any 9 (x - y) _ (by omega) (lt_128_10 (by omega)) (by omega)).mono ?_
                rintro e w4 ⟨v4, rfl, hown4, hb4⟩
                have lp := put_len (x - y)
                have hb5 : Below w.heap.size w w4 := (below_drewN hbel _).trans (hb4.mono hsz)
                have hown5 : w4.ownsRow w.heap.size 5 1 _ (put xs.length ++ gapsTo xs (j + 1)).length ((put xs.length ++ gapsTo xs (j + 1)).map (Value.int .u8)) := own_below (own_below HW.out (below_drewN (Below.refl wr.heap.size wr) _) (Nat.le_refl _)) hb4 (Nat.le_refl _)
                obtain ⟨g, cc, rfl, hg, hg2, hc, hmm, hcell4⟩ := own_shape hown4 (by omega)
                have HC : Hid (∀ (j : Nat) (u : Value), (List.map (Value.int IntKind.u8) (put (x - y)))[j]? = some u → w4.cell? ((⟨g, 0, none⟩ : Addr).add j) = some u) := hcell4
                have hl5 := HL.out
                clear hown4 hcell4 HW hb4 hbel
                generalize put xs.length ++ gapsTo xs (j + 1) = pre at *
                go_wp2_with (at_builtin; refine wpList_append_own _ rfl _ _ 50 rfl w.heap.size 5 i0 (.int .u8 0) 1 1 Try.underlying50 hi hz0 hz1 hz2 rfl (by decide) _ _ _ rfl hown5 ⟨g, 0, none⟩ (put (x - y)).length cc ((put (x - y)).map (Value.int .u8)) rfl (by simp) HC.out (bytes_oneCell _) ?d3 ?d4 ?d5 ?_)
                case d3 => unfold maxLen; omega
                case d4 => omega
                case d5 => exact hb5.size
                intro v6 w6 hown6 hgrow _
                have hb6 : Below w.heap.size w w6 := hb5.grown hgrow hb5.size (fun k hk => (hown5.lt k hk).1)
                have hw6 : w6.ownsRow w.heap.size 5 1 v6 (put xs.length ++ gapsTo xs (j + 1 + 1)).length ((put xs.length ++ gapsTo xs (j + 1 + 1)).map (Value.int .u8)) := by rw [HG.out]; simpa using hown6
                have HW6 : Hid (w6.ownsRow w.heap.size 5 1 v6 (put xs.length ++ gapsTo xs (j + 1 + 1)).length ((put xs.length ++ gapsTo xs (j + 1 + 1)).map (Value.int .u8))) := hw6
                clear hw6 hown6 hgrow HC hown5 hb5
                go_wp2_with fail
                go_roundw
                case rel => exact ⟨j + 1 + 1, by omega, by go_num, HX.out, HW6.out, hb6⟩
                case measure => simp [intOf]; omega
            · have ht0 : t = 0 := by omega
              subst ht0
              have HP : Hid (prev xs 0 = 0) := rfl
              rw [HP.out, Int.sub_zero] at HG
              rw [Nat.add_zero] at d1
              clear hcell hv2 hlen
              generalize xs.getD 0 0 = x at *
              go_wp2_with fail
              refine (packed_any 9 x _ (by omega) (lt_128_10 (by omega)) (by omega)).mono ?_
              rintro e w4 ⟨v4, rfl, hown4, hb4⟩
              have lp := put_len x
              have hb5 : Below w.heap.size w w4 := hbel.trans (hb4.mono hsz)
              have hown5 : w4.ownsRow w.heap.size 5 1 _ (put xs.length ++ gapsTo xs 0).length ((put xs.length ++ gapsTo xs 0).map (Value.int .u8)) := own_below HW.out hb4 (Nat.le_refl _)
              obtain ⟨g, cc, rfl, hg, hg2, hc, hmm, hcell4⟩ := own_shape hown4 (by omega)
              have HC : Hid (∀ (j : Nat) (u : Value), (List.map (Value.int IntKind.u8) (put x))[j]? = some u → w4.cell? ((⟨g, 0, none⟩ : Addr).add j) = some u) := hcell4
              have hl5 := HL.out
              clear hown4 hcell4 HW hb4 hbel
              generalize put xs.length ++ gapsTo xs 0 = pre at *
              go_wp2_with (at_builtin; refine wpList_append_own _ rfl _ _ 50 rfl w.heap.size 5 i0 (.int .u8 0) 1 1 Try.underlying50 hi hz0 hz1 hz2 rfl (by decide) _ _ _ rfl hown5 ⟨g, 0, none⟩ (put x).length cc ((put x).map (Value.int .u8)) rfl (by simp) HC.out (bytes_oneCell _) ?e3 ?e4 ?e5 ?_)
              case e3 => unfold maxLen; omega
              case e4 => omega
              case e5 => exact hb5.size
              intro v6 w6 hown6 hgrow _
              have hb6 : Below w.heap.size w w6 := hb5.grown hgrow hb5.size (fun k hk => (hown5.lt k hk).1)
              have hw6 : w6.ownsRow w.heap.size 5 1 v6 (put xs.length ++ gapsTo xs (0 + 1)).length ((put xs.length ++ gapsTo xs (0 + 1)).map (Value.int .u8)) := by rw [HG.out]; simpa using hown6
              have HW6 : Hid (w6.ownsRow w.heap.size 5 1 v6 (put xs.length ++ gapsTo xs (0 + 1)).length ((put xs.length ++ gapsTo xs (0 + 1)).map (Value.int .u8))) := hw6
              clear hw6 hown6 hgrow HC hown5 hb5
              go_wp2_with fail
              go_roundw
              case rel => exact ⟨0 + 1, by omega, by go_num, fun i hi => by omega, HW6.out, hb6⟩
              case measure => simp [intOf]; omega
          · have htt : t = xs.length := by omega
            subst htt
            have HN : Hid (Named xs 0) := .inr (.inr (.inr ⟨rfl, hl2, HA.out, fun i hi => HS.out i hi⟩))
            have HF : Hid (gapsF xs 0 = put xs.length ++ gapsTo xs xs.length) := rfl
            go_wp2_with fail
            go_ret2
            exact ⟨0, _, rfl, HN.out, by rw [HF.out]; exact HW.out, hbel⟩

theorem gapsOf_any (v : Value) (xs : List Int) (w : World) (h : Reads .i64 w v xs) :
    Calls Try.prog 47 #[v] w fun e w' =>
      ∃ c v', e = .returned (.tuple #[v', .int .i64 c]) ∧ Named xs c ∧ w'.ownsRow w.heap.size 5 1 v' (gapsF xs c).length ((gapsF xs c).map (Value.int .u8)) ∧ Below w.heap.size w w' := by
  have h2 := h
  obtain ⟨a, cap, rfl, _⟩ := h
  exact gapsOf_row a cap xs w h2
end Go.Proofs.Ytihghhmhgakkaaa
