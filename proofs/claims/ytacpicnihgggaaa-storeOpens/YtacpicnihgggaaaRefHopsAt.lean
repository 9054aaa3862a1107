/-
  Contract of the document's own hopsAt.
-/
import Derived.Test.YtacpicnihgggaaaRefSmall
import Derived.Test.YtacpicnihgggaaaUngappedWalk
import Derived.Test.YtacpicnihgggaaaRowAt
import Derived.Deep.QuietTactic
import Derived.BigQuiet
namespace Go.Proofs.Ytacpicnihgggaaa
set_option maxRecDepth 100000
open Go.ChangeShapes Go.WideShapes Go.ChangeAt Go.RowKit

/-- What hopsAt tells of a place: hops and the place behind them, or neither. -/
def HatP (w w' : World) (n : Int) (xs : List Int) (i : Nat) (e : Ending) : Prop :=
  Below w.heap.size w w' ∧ ((hopsQ n (xs.drop i) = none ∧ e = .returned (.tuple #[.slice none 0 0, .int .i64 (-1)])) ∨
    ∃ (hs : List Hp) (at2 : Nat) (v : Value), hopsQ n (xs.drop i) = some (hs, xs.drop at2) ∧ at2 ≤ xs.length ∧ e = .returned (.tuple #[v, .int .i64 at2]) ∧ w'.ownsRow w.heap.size 87 2 v hs.length (hs.flatMap encH))

set_option maxHeartbeats 400000 in
theorem hopsAt_neg (v : Value) (n : Int) (w : World) : Calls Try.prog 41 #[v, .int .i64 (-1), .int .i64 n] w fun e w' => e = .returned (.tuple #[.slice none 0 0, .int .i64 (-1)]) ∧ w' = w := by
  go_enter Try.func41, Try.ntmps41
  go_wp2_with fail
  go_ret2
  exact ⟨rfl, rfl⟩
theorem okP_nil (t x : Int) : okP [] t x = true := rfl
theorem okP_ne {a : List Hp} {t x : Int} {z : Hp} (hz : a.getLast? = some z) (h : (t == z.1) = false) : okP a t x = true := by
  unfold okP
  rw [hz]
  have : (z.1 == t) = false := by rw [← h]; exact Bool.eq_iff_iff.2 ⟨fun h => by simp at *; exact h.symm, fun h => by simp at *; exact h.symm⟩
  simp [this]
theorem okP_eq {a : List Hp} {t x : Int} {z : Hp} (hz : a.getLast? = some z) (h : (t == z.1) = true) : okP a t x = !decide (x < z.2) := by
  unfold okP
  rw [hz]
  have : (z.1 == t) = true := by simp at *; exact h.symm
  simp [this]

set_option maxHeartbeats 4000000 in
set_option maxRecDepth 100000 in
theorem hopsAt_any (v : Value) (xs : List Int) (i : Nat) (n : Int) (w : World) (h : Reads .u8 w v xs) (hx : ∀ x ∈ xs, 0 ≤ x ∧ x ≤ 255) (hi : i ≤ xs.length) (hL : xs.length ≤ 1000000) :
    Calls Try.prog 41 #[v, .int .i64 i, .int .i64 n] w fun e w' => HatP w w' n xs i e := by
  have HRd : Hid (Reads .u8 w v xs) := h
  have HX : Hid (∀ x ∈ xs, 0 ≤ x ∧ x ≤ 255) := hx
  obtain ⟨a, cap, rfl, hc, hmx, _⟩ := id h
  have hcut := run_cutV a xs.length cap i hi
  have HR : Hid (Reads .u8 w (cutV a xs.length cap i) (xs.drop i)) := reads_cutV h hi
  have hx2 : ∀ x ∈ xs.drop i, 0 ≤ x ∧ x ≤ 255 := fun x h => hx x (List.mem_of_mem_drop h)
  have HG : Hid (∀ X, Reads .u8 X (cutV a xs.length cap i) (xs.drop i) → Calls Try.prog 63 #[cutV a xs.length cap i] X fun e w' => ∃ v', e = .returned (.tuple #[v', .int .i64 (ungap (xs.drop i)).2.1, .int .i64 (ungap (xs.drop i)).2.2]) ∧ w'.ownsRow X.heap.size 3 1 v' (ungap (xs.drop i)).1.length ((ungap (xs.drop i)).1.map (Value.int .i64)) ∧ Below X.heap.size X w') := fun X hX => ungapped_any _ _ X hX hx2
  unfold maxLen at hmx
  rcases ungap_inv hx2 with ⟨e, he, hne⟩ | ⟨tos, u, he, hN, hul, hu1, _⟩
  · have HN : Hid (hopsQ n (xs.drop i) = none) := by show _ = _; unfold hopsQ; rw [he]; exact if_neg fun h => hne h.1
    rw [he] at HG
    have hne' : (e != 0) = true := by simpa using hne
    clear he hx hx2 h hne
    go_enter Try.func41, Try.ntmps41
    go_wp2_with fail
    refine (HG.out _ HR.out).mono ?_
    rintro e w1 ⟨v1, rfl, _, hb1⟩
    have HB1 : Hid (Below w.heap.size w w1) := hb1
    clear hb1
    go_wp2_with fail
    go_ret2
    exact ⟨HB1.out, .inl ⟨HN.out, rfl⟩⟩
  · have hul2 : i + u ≤ xs.length := by rw [List.length_drop] at hul; omega
    by_cases h6 : tos.length ≤ 600
    · have HH : Hid (hopsQ n (xs.drop i) = wtsQ n tos [] (xs.drop (i + u))) := by show _ = _; unfold hopsQ; rw [he, if_pos ⟨rfl, h6⟩, List.drop_drop]
      rw [he] at HG
      simp only at HG
      clear he hx hx2 h hN hul
      go_enter Try.func41, Try.ntmps41
      go_wp2_with fail
      refine (HG.out _ HR.out).mono ?_
      rintro e w1 ⟨tv, rfl, hown1, hb1⟩
      have HB1 : Hid (Below w.heap.size w w1) := hb1
      have hs1 := hb1.size
      have OT1 : Hid (w1.ownsRow w.heap.size 3 1 tv tos.length (tos.map (Value.int .i64))) := hown1
      obtain ⟨ta, tc, rfl⟩ : ∃ a c, tv = .slice a tos.length c := by obtain ⟨a, c, e, _⟩ := reads_own hown1; exact ⟨_, _, e⟩
      have htc : tc ≤ maxLen := by obtain ⟨_, _, e, _, h, _⟩ := reads_own hown1; injection e with _ _ e3; rw [e3]; exact h
      unfold maxLen at htc
      clear hown1 hb1 hcut HG HR
      go_wp2_with fail
      go_loopw [1, 11, 12] (fun p s i2 wr => ∃ (k j : Nat) (acc : List Hp), k ≤ tos.length ∧ i2 = .int .i64 k ∧ p = .int .i64 j ∧ j ≤ xs.length ∧ acc.map Prod.fst = tos.take k ∧ wr.ownsRow w.heap.size 87 2 s acc.length (acc.flatMap encH) ∧ wr.ownsRow w.heap.size 3 1 (.slice ta tos.length tc) tos.length (tos.map (Value.int .i64)) ∧ hopsQ n (xs.drop i) = wtsQ n (tos.drop k) acc (xs.drop j) ∧ Below w.heap.size w wr) (fun _ _ i2 _ => tos.length - (intOf i2).toNat)
      case atStart => exact ⟨0, i + u, [], by omega, rfl, by go_num, hul2, rfl, World.ownsRow_nil _ _ _ _, OT1.out, HH.out, HB1.out⟩
      case round =>
        obtain ⟨k, j, acc, hk, rfl, rfl, hj, hm, hown, hot, heq, hbel⟩ := hrel
        have OW : Hid (wr.ownsRow w.heap.size 87 2 u11 acc.length (acc.flatMap encH)) := hown
        have OT : Hid (wr.ownsRow w.heap.size 3 1 (.slice ta tos.length tc) tos.length (tos.map (Value.int .i64))) := hot
        have HE : Hid (hopsQ n (xs.drop i) = wtsQ n (tos.drop k) acc (xs.drop j)) := heq
        have HB : Hid (Below w.heap.size w wr) := hbel
        have HM : Hid (acc.map Prod.fst = tos.take k) := hm
        have HAL : Hid (acc.length = k) := by have := congrArg List.length hm; simp at this; show _ = _; omega
        have hsr := hbel.size
        obtain ⟨sa, sc, rfl⟩ : ∃ a c, u11 = .slice a acc.length c := by obtain ⟨a, c, e, _⟩ := RowK.own encH_len hown; exact ⟨_, _, e⟩
        clear hown hot heq hbel hm HB1 OT1 HH
        by_cases hlt : k < tos.length
        · obtain ⟨t, ht⟩ := getX hlt
          have hd : tos.drop k = t :: tos.drop (k + 1) := by
            rw [List.drop_eq_getElem_cons hlt]
            rw [List.getElem?_eq_getElem hlt] at ht
            injection ht with ht
            rw [ht]
          rw [hd] at HE
          have HM2 : Hid (∀ x, (acc ++ [(t, x)]).map Prod.fst = tos.take (k + 1)) := fun x => by rw [List.map_append, HM.out, take_snoc ht]; rfl
          obtain ⟨g, cap', e1, hg, hgl, _, _, htk⟩ : ∃ g cap, Value.slice ta tos.length tc = .slice (some ⟨g, 0, none⟩) tos.length cap ∧ w.heap.size ≤ g ∧ g < wr.heap.size ∧ tos.length ≤ cap ∧ cap ≤ maxLen ∧ ∀ j u, (tos.map (Value.int .i64))[j]? = some u → wr.cell? ((⟨g, 0, none⟩ : Addr).add j) = some u := own_shape OT.out (by omega)
          injection e1 with e1 _ e3
          subst e1 e3
          have d1 : wr.cell? ⟨g, k, none⟩ = some (.int .i64 t) := by
            have := htk k (.int .i64 t) (by rw [List.getElem?_map, ht]; rfl)
            rwa [addr_add] at this
          have HTK : Hid (∀ j y, tos[j]? = some y → wr.cell? ⟨g, j, none⟩ = some (.int .i64 y)) := fun j y hy => by
            have := htk j (.int .i64 y) (by rw [List.getElem?_map, hy]; rfl)
            rwa [addr_add] at this
          have hal : acc.length ≤ 600 := by have := HAL.out; omega
          have p0 : (0 : Int) ≤ (k : Int) := by omega
          have p1 : (k : Int) < (tos.length : Int) := by omega
          clear htk hd
          go_wp2_with fail
          refine (small_any _ xs j 1099511627776 wr (HRd.out.below HB.out (Nat.le_refl _)) HX.out hj hL (by omega)).mono ?_
          rintro e w2 ⟨hsm, rfl⟩
          rcases hsm with ⟨hnum, rfl⟩ | ⟨x, j2, hnum, hj2, hj3, rfl⟩
          · have HX2 : Hid (hopsQ n (xs.drop i) = none) := by show _ = _; rw [HE.out, wtsQ_no hnum]
            go_wp2_with fail
            go_ret2
            exact ⟨HB.out, .inl ⟨HX2.out, rfl⟩⟩
          · by_cases htn : t < n
            · have HE2 : Hid (okP acc t x = true → hopsQ n (xs.drop i) = wtsQ n (tos.drop (k + 1)) (acc ++ [(t, x)]) (xs.drop j2)) := fun hp => by rw [HE.out, wtsQ_yes htn hnum hp]
              have HE3 : Hid (okP acc t x = false → hopsQ n (xs.drop i) = none) := fun hp => by rw [HE.out, wtsQ_bad hnum hp]
              have htn2 : ¬ n ≤ t := by omega
              clear hnum HE
              rcases Nat.eq_zero_or_pos k with hk0 | hk0
              · have HE4 : Hid (hopsQ n (xs.drop i) = wtsQ n (tos.drop (k + 1)) (acc ++ [(t, x)]) (xs.drop j2)) := HE2.out (by
                  have : acc = [] := List.eq_nil_of_length_eq_zero (by have := HAL.out; omega)
                  rw [this]; rfl)
                have hk1 : ((k : Int) > 0) = False := by simp; omega
                clear HE2 HE3 ht HTK
                subst hk0
                go_wp2_with fail
                go_quiet (fail)
                have O3 : Hid ((w2.drewN nq).ownsRow w.heap.size 87 2 (.slice sa acc.length sc) acc.length (acc.flatMap encH)) := Kept.own (S := fun _ => False) (w := w2) ⟨rfl, rfl, rfl, Nat.le_refl _, fun _ _ _ => rfl⟩ OW.out fun _ _ h => h
                have OT3 : Hid ((w2.drewN nq).ownsRow w.heap.size 3 1 (.slice (some ⟨g, 0, none⟩) tos.length tc) tos.length (tos.map (Value.int .i64))) := Kept.own (S := fun _ => False) (w := w2) ⟨rfl, rfl, rfl, Nat.le_refl _, fun _ _ _ => rfl⟩ OT.out fun _ _ h => h
                have HB3 : Hid (Below w.heap.size w (w2.drewN nq)) := below_drewN HB.out _
                have d4 : (w2.drewN nq).cell? ⟨g, 0, none⟩ = some (.int .i64 t) := d1
                have hs3 : w.heap.size ≤ (w2.drewN nq).heap.size := hsr
                generalize w2.drewN nq = w3 at *
                clear OW OT HB d1
                go_wp2_with (at_builtin; refine wpList_append_newK kH rfl _ _ rfl w.heap.size _ acc rfl (O3.out.alloc _) w3.heap.size (t, x) rfl #[.int .i64 t, .int .i64 x] rfl (0, 0) (heap_alloc_new _ _) (by simp [kH]; omega) (by unfold maxLen; omega) (by simp; omega) ?_)
                intro g5 c5 w5 hown5 hb5 hgr5
                have O5 : Hid (w5.ownsRow w.heap.size 87 2 (.slice (some ⟨g5, 0, none⟩) (acc.length + 1) c5) (acc ++ [(t, x)]).length ((acc ++ [(t, x)]).flatMap encH)) := by
                  show World.ownsRow _ _ _ _ _ _ _
                  rw [flat_snoc, List.length_append]; exact hown5
                have OT5 : Hid (w5.ownsRow w.heap.size 3 1 (.slice (some ⟨g, 0, none⟩) tos.length tc) tos.length (tos.map (Value.int .i64))) := (OT3.out.alloc _).kept hgr5 (own_apart OT3.out O3.out (by decide))
                have B5 : Hid (Below w.heap.size w w5) := (HB3.out.alloc hs3 _).trans hb5
                clear hown5 hb5 hgr5 O3 OT3 HB3
                go_wp2_with fail
                go_roundw
                case rel => exact ⟨0 + 1, j2, acc ++ [(t, x)], by omega, by go_num, rfl, hj3, HM2.out x, O5.out, OT5.out, HE4.out, B5.out⟩
                case measure => simp [intOf]; omega
              · obtain ⟨m, rfl⟩ : ∃ m, k = m + 1 := ⟨k - 1, by omega⟩
                obtain ⟨z, hz⟩ := getX (show m < acc.length by have := HAL.out; omega)
                have hzl : acc.getLast? = some z := by rw [List.getLast?_eq_getElem?, show acc.length - 1 = m by have := HAL.out; omega]; exact hz
                have hzt : tos[m]? = some z.1 := by
                  have h1 : (acc.map Prod.fst)[m]? = some z.1 := by rw [List.getElem?_map, hz]; rfl
                  rw [HM.out, List.getElem?_take_of_lt (by omega)] at h1
                  exact h1
                have d2 := HTK.out m z.1 hzt
                obtain ⟨ga, off', cap'', e1, _, _, hgl2, hcel⟩ := HpR.at (RowK.own encH_len OW.out) (by have := HAL.out; omega)
                obtain ⟨_, d3⟩ := hcel m z hz
                injection e1 with e1 _ e3
                subst e1 e3
                have hk1 : (0 : Int) < (m : Int) + 1 := by omega
                have q0 : (0 : Int) ≤ (m : Int) := by omega
                have q1 : (m : Int) < (tos.length : Int) := by omega
                have q2 : (m : Int) < (acc.length : Int) := by have := HAL.out; omega
                have q3 : (m : Int) + 1 - 1 = (m : Int) := by omega
                have q4 : IntKind.i64.wrap (m : Int) = (m : Int) := wrap_id64 (by omega) (by omega)
                cases hteq : (t == z.1) with
                | false =>
                  have HE4 : Hid (hopsQ n (xs.drop i) = wtsQ n (tos.drop (m + 1 + 1)) (acc ++ [(t, x)]) (xs.drop j2)) := HE2.out (okP_ne hzl hteq)
                  clear HE2 HE3 ht hk0 HTK hz hzl hzt hcel
                  go_wp2_with fail
                  go_quiet (fail)
                  have O3 : Hid ((w2.drewN nq).ownsRow w.heap.size 87 2 (.slice (some ⟨ga, off', none⟩) acc.length sc) acc.length (acc.flatMap encH)) := Kept.own (S := fun _ => False) (w := w2) ⟨rfl, rfl, rfl, Nat.le_refl _, fun _ _ _ => rfl⟩ OW.out fun _ _ h => h
                  have OT3 : Hid ((w2.drewN nq).ownsRow w.heap.size 3 1 (.slice (some ⟨g, 0, none⟩) tos.length tc) tos.length (tos.map (Value.int .i64))) := Kept.own (S := fun _ => False) (w := w2) ⟨rfl, rfl, rfl, Nat.le_refl _, fun _ _ _ => rfl⟩ OT.out fun _ _ h => h
                  have HB3 : Hid (Below w.heap.size w (w2.drewN nq)) := below_drewN HB.out _
                  have d4 : (w2.drewN nq).cell? ⟨g, m + 1, none⟩ = some (.int .i64 t) := d1
                  have hs3 : w.heap.size ≤ (w2.drewN nq).heap.size := hsr
                  generalize w2.drewN nq = w3 at *
                  clear OW OT HB d1
                  go_wp2_with (at_builtin; refine wpList_append_newK kH rfl _ _ rfl w.heap.size _ acc rfl (O3.out.alloc _) w3.heap.size (t, x) rfl #[.int .i64 t, .int .i64 x] rfl (0, 0) (heap_alloc_new _ _) (by simp [kH]; omega) (by unfold maxLen; omega) (by simp; omega) ?_)
                  intro g5 c5 w5 hown5 hb5 hgr5
                  have O5 : Hid (w5.ownsRow w.heap.size 87 2 (.slice (some ⟨g5, 0, none⟩) (acc.length + 1) c5) (acc ++ [(t, x)]).length ((acc ++ [(t, x)]).flatMap encH)) := by
                    show World.ownsRow _ _ _ _ _ _ _
                    rw [flat_snoc, List.length_append]; exact hown5
                  have OT5 : Hid (w5.ownsRow w.heap.size 3 1 (.slice (some ⟨g, 0, none⟩) tos.length tc) tos.length (tos.map (Value.int .i64))) := (OT3.out.alloc _).kept hgr5 (own_apart OT3.out O3.out (by decide))
                  have B5 : Hid (Below w.heap.size w w5) := (HB3.out.alloc hs3 _).trans hb5
                  clear hown5 hb5 hgr5 O3 OT3 HB3
                  go_wp2_with fail
                  go_roundw
                  case rel => exact ⟨m + 1 + 1, j2, acc ++ [(t, x)], by omega, by go_num, rfl, hj3, HM2.out x, O5.out, OT5.out, HE4.out, B5.out⟩
                  case measure => simp [intOf]; omega
                | true =>
                  by_cases hxz : x < z.2
                  · have HX2 : Hid (hopsQ n (xs.drop i) = none) := HE3.out (by rw [okP_eq hzl hteq, decide_eq_true hxz]; rfl)
                    clear HE2 HE3 ht hk0 HTK hz hzl hzt hcel
                    go_wp2_with fail
                    go_quiet (fail)
                    go_wp2_with fail
                    go_ret2
                    exact ⟨below_drewN HB.out _, .inl ⟨HX2.out, rfl⟩⟩
                  · have HE4 : Hid (hopsQ n (xs.drop i) = wtsQ n (tos.drop (m + 1 + 1)) (acc ++ [(t, x)]) (xs.drop j2)) := HE2.out (by rw [okP_eq hzl hteq, decide_eq_false hxz]; rfl)
                    clear HE2 HE3 ht hk0 HTK hz hzl hzt hcel
                    go_wp2_with fail
                    go_quiet (fail)
                    have O3 : Hid ((w2.drewN nq).ownsRow w.heap.size 87 2 (.slice (some ⟨ga, off', none⟩) acc.length sc) acc.length (acc.flatMap encH)) := Kept.own (S := fun _ => False) (w := w2) ⟨rfl, rfl, rfl, Nat.le_refl _, fun _ _ _ => rfl⟩ OW.out fun _ _ h => h
                    have OT3 : Hid ((w2.drewN nq).ownsRow w.heap.size 3 1 (.slice (some ⟨g, 0, none⟩) tos.length tc) tos.length (tos.map (Value.int .i64))) := Kept.own (S := fun _ => False) (w := w2) ⟨rfl, rfl, rfl, Nat.le_refl _, fun _ _ _ => rfl⟩ OT.out fun _ _ h => h
                    have HB3 : Hid (Below w.heap.size w (w2.drewN nq)) := below_drewN HB.out _
                    have d4 : (w2.drewN nq).cell? ⟨g, m + 1, none⟩ = some (.int .i64 t) := d1
                    have hs3 : w.heap.size ≤ (w2.drewN nq).heap.size := hsr
                    generalize w2.drewN nq = w3 at *
                    clear OW OT HB d1
                    go_wp2_with (at_builtin; refine wpList_append_newK kH rfl _ _ rfl w.heap.size _ acc rfl (O3.out.alloc _) w3.heap.size (t, x) rfl #[.int .i64 t, .int .i64 x] rfl (0, 0) (heap_alloc_new _ _) (by simp [kH]; omega) (by unfold maxLen; omega) (by simp; omega) ?_)
                    intro g5 c5 w5 hown5 hb5 hgr5
                    have O5 : Hid (w5.ownsRow w.heap.size 87 2 (.slice (some ⟨g5, 0, none⟩) (acc.length + 1) c5) (acc ++ [(t, x)]).length ((acc ++ [(t, x)]).flatMap encH)) := by
                      show World.ownsRow _ _ _ _ _ _ _
                      rw [flat_snoc, List.length_append]; exact hown5
                    have OT5 : Hid (w5.ownsRow w.heap.size 3 1 (.slice (some ⟨g, 0, none⟩) tos.length tc) tos.length (tos.map (Value.int .i64))) := (OT3.out.alloc _).kept hgr5 (own_apart OT3.out O3.out (by decide))
                    have B5 : Hid (Below w.heap.size w w5) := (HB3.out.alloc hs3 _).trans hb5
                    clear hown5 hb5 hgr5 O3 OT3 HB3
                    go_wp2_with fail
                    go_roundw
                    case rel => exact ⟨m + 1 + 1, j2, acc ++ [(t, x)], by omega, by go_num, rfl, hj3, HM2.out x, O5.out, OT5.out, HE4.out, B5.out⟩
                    case measure => simp [intOf]; omega
            · have HX2 : Hid (hopsQ n (xs.drop i) = none) := by show _ = _; rw [HE.out, wtsQ_out htn]
              have htn2 : n ≤ t := by omega
              go_wp2_with fail
              go_ret2
              exact ⟨HB.out, .inl ⟨HX2.out, rfl⟩⟩
        · have hd : tos.drop k = [] := List.drop_eq_nil_of_le (by omega)
          have HE2 : Hid (hopsQ n (xs.drop i) = some (acc, xs.drop j)) := by show _ = _; rw [HE.out, hd, wtsQ]
          clear hd HE
          go_wp2_with fail
          go_ret2
          exact ⟨HB.out, .inr ⟨acc, j, _, HE2.out, hj, rfl, OW.out⟩⟩
    · have HN : Hid (hopsQ n (xs.drop i) = none) := by show _ = _; unfold hopsQ; rw [he]; exact if_neg fun h => h6 h.2
      have h6' : ¬ ((tos.length : Int) ≤ 600) := by omega
      rw [he] at HG
      simp only at HG
      clear he hx hx2 h
      go_enter Try.func41, Try.ntmps41
      go_wp2_with fail
      refine (HG.out _ HR.out).mono ?_
      rintro e w1 ⟨v1, rfl, hown1, hb1⟩
      have HB1 : Hid (Below w.heap.size w w1) := hb1
      obtain ⟨ta, tc, rfl⟩ : ∃ a c, v1 = .slice a tos.length c := by obtain ⟨a, c, e, _⟩ := reads_own hown1; exact ⟨_, _, e⟩
      clear hb1 hown1
      go_wp2_with fail
      go_ret2
      exact ⟨HB1.out, .inl ⟨HN.out, rfl⟩⟩
end Go.Proofs.Ytacpicnihgggaaa
