/-
  Contract of the reader's hops.
-/
import Derived.Test.YtacpicnihgggaaaNumberRead
import Derived.Test.YtacpicnihgggaaaHopCmp
namespace Go.Proofs.Ytacpicnihgggaaa
set_option maxRecDepth 100000
open Go.ChangeShapes Go.WideShapes Go.ChangeAt Go.RowKit

set_option maxHeartbeats 2000000 in
set_option maxRecDepth 100000 in
theorem hopsRd_any (q : Nat) (l : List Int) (n : Int) (w : World) (h : Rd w q l) (hx : ∀ y ∈ l, 0 ≤ y ∧ y ≤ 255) :
    Calls Try.prog 60 #[.pointer (some ⟨q, 0, none⟩), .int .i64 n] w fun e w' => Kept (fun k => k = q) w w' ∧
      ((∃ p v', hopsC n l = some p ∧ e = .returned v' ∧ w'.ownsRow w.heap.size 87 2 v' p.1.length (p.1.flatMap encH) ∧ Rd w' q p.2) ∨ (hopsC n l = none ∧ e = upP 3)) := by
  have hql := h.lt
  obtain ⟨v, hq, hr, hb⟩ := h
  have HU : Hid (∀ X, Reads .u8 X v l → Calls Try.prog 74 #[v] X fun e w' => ∃ v', e = .returned (.tuple #[v', .int .i64 (ungap l).2.1, .int .i64 (ungap l).2.2]) ∧ w'.ownsRow X.heap.size 3 1 v' (ungap l).1.length ((ungap l).1.map (Value.int .i64)) ∧ Below X.heap.size X w') := fun X hX => ungap_any v l X hX hx
  have HR : Hid (Reads .u8 w v l) := hr
  have hc0 := box1_cell hq
  rcases ungap_inv hx with ⟨e, he, hne⟩ | ⟨tos, u, he, hN, hul, hu1, _⟩
  · have HN : Hid (hopsC n l = none) := by show hopsC n l = none; unfold hopsC; rw [he]; exact if_neg hne
    have he1 : (e == 0) = false := by simpa using hne
    rw [he] at HU
    obtain ⟨va, vc, rfl, _⟩ := hr
    clear he hx hb hne
    go_enter Try.func60, Try.ntmps60
    go_wp2_with fail
    refine (HU.out _ HR.out).mono ?_
    rintro e w1 ⟨v1, rfl, _, hb1⟩
    have HB1 : Hid (Below w.heap.size w w1) := hb1
    clear hb1
    go_wp2_with fail
    refine (insist_no _).mono ?_
    rintro e w2 ⟨rfl, rfl⟩
    exact ⟨rfl, .of HB1.out, .inr ⟨HN.out, rfl⟩⟩
  · have HH : Hid (hopsC n l = (wtsC n tos [] (l.drop u)).filter fun p => srtB p.1) := by show hopsC n l = _; unfold hopsC; rw [he]; exact if_pos rfl
    have hT := (named_rises hN).2.2
    rw [he] at HU
    simp only at HU
    obtain ⟨b, off, cap, rfl, hc, hmx, hbw, hcell⟩ := hr.plain (by omega)
    have HBq : b < q := hb _ _ _ rfl
    have HQ : Hid (w.heap[q]? = some (.cells #[.slice (some ⟨b, off, none⟩) l.length cap] 73 (0, 0))) := hq
    have HX : Hid (∀ y ∈ l.drop u, 0 ≤ y ∧ y ≤ 255) := fun y hy => hx y (List.mem_of_mem_drop hy)
    have HD : Hid (∀ X, Below w.heap.size w X → Reads .u8 X (.slice (some ⟨b, cutO off u cap, none⟩) (l.length - u) (cap - u)) (l.drop u)) := fun X hX => reads_cut hc hmx hul (fun i hi => (hX.cell (p := ⟨b, off + i, none⟩) hbw).trans (hcell i hi))
    have hcut := run_cut b off l.length cap u hul hc
    unfold maxLen at hmx
    clear he hN hq hr hb hcell hx
    generalize cutO off u cap = co at *
    generalize l.drop u = l1 at *
    go_enter Try.func60, Try.ntmps60
    go_wp2_with fail
    refine (HU.out _ HR.out).mono ?_
    rintro e w1 ⟨tv, rfl, hown1, hb1⟩
    have HB1 : Hid (Below w.heap.size w w1) := hb1
    have hs1 := hb1.size
    have OT1 : Hid (w1.ownsRow w.heap.size 3 1 tv tos.length (tos.map (Value.int .i64))) := hown1
    obtain ⟨ta, tc, rfl⟩ : ∃ a c, tv = .slice a tos.length c := by obtain ⟨a, c, e, _⟩ := reads_own hown1; exact ⟨_, _, e⟩
    have htc : tc ≤ maxLen := by obtain ⟨_, _, e, _, h, _⟩ := reads_own hown1; injection e with _ _ e3; rw [e3]; exact h
    unfold maxLen at htc
    have HQ1 : Hid (w1.heap[q]? = some (.cells #[.slice (some ⟨b, off, none⟩) l.length cap] 73 (0, 0))) := by show _ = _; rw [hb1.block q hql]; exact HQ.out
    have hc1 := box1_cell HQ1.out
    have hf1 := box_frozen HQ1.out 0
    clear hown1 hb1
    go_wp2_with fail
    refine (insist_yes _).mono ?_
    rintro e w2 ⟨rfl, rfl⟩
    go_wp2_with fail
    have R2 : Hid (Rd (w2.setCell ⟨q, 0, none⟩ (.slice (some ⟨b, co, none⟩) (l.length - u) (cap - u))) q l1) := Rd.next HQ1.out (HD.out _ HB1.out) (fun a n c e => by injection e with e; injection e with e; subst e; exact HBq)
    have K2 : Hid (Kept (fun k => k = q) w (w2.setCell ⟨q, 0, none⟩ (.slice (some ⟨b, co, none⟩) (l.length - u) (cap - u)))) := Kept.trans (.of HB1.out) (Kept.box _ _ _ _)
    have O2 : Hid ((w2.setCell ⟨q, 0, none⟩ (.slice (some ⟨b, co, none⟩) (l.length - u) (cap - u))).ownsRow w.heap.size 3 1 (.slice ta tos.length tc) tos.length (tos.map (Value.int .i64))) := (Kept.box w2 q 0 _).own OT1.out fun g hg => own_block OT1.out hg HQ1.out (by decide)
    clear OT1 HQ1 hc1 hf1 hcut HD HU HQ HR hc0 HB1
    generalize w2.setCell ⟨q, 0, none⟩ (.slice (some ⟨b, co, none⟩) (l.length - u) (cap - u)) = wl at *
    go_loopw [8, 34] (fun s i wr => ∃ (k : Nat) (a : List Hp) (r : List Int), k ≤ tos.length ∧ i = .int .i64 k ∧ a.length = k ∧ wr.ownsRow w.heap.size 87 2 s a.length (a.flatMap encH) ∧ wr.ownsRow w.heap.size 3 1 (.slice ta tos.length tc) tos.length (tos.map (Value.int .i64)) ∧ Rd wr q r ∧ (∀ y ∈ r, 0 ≤ y ∧ y ≤ 255) ∧ wtsC n tos [] l1 = wtsC n (tos.drop k) a r ∧ Kept (fun k => k = q) w wr) (fun _ i _ => tos.length - (intOf i).toNat)
    case atStart => exact ⟨0, [], l1, by omega, rfl, rfl, World.ownsRow_nil _ _ _ _, O2.out, R2.out, HX.out, rfl, K2.out⟩
    case round =>
      obtain ⟨k, a, r, hk, rfl, hal, hown, hot, hrd, hby, heq, hkp⟩ := hrel
      have OW : Hid (wr.ownsRow w.heap.size 87 2 u8 a.length (a.flatMap encH)) := hown
      have OT : Hid (wr.ownsRow w.heap.size 3 1 (.slice ta tos.length tc) tos.length (tos.map (Value.int .i64))) := hot
      have RD : Hid (Rd wr q r) := hrd
      have HY : Hid (∀ y ∈ r, 0 ≤ y ∧ y ≤ 255) := hby
      have HE : Hid (wtsC n tos [] l1 = wtsC n (tos.drop k) a r) := heq
      have HK : Hid (Kept (fun k => k = q) w wr) := hkp
      have HAL : Hid (a.length = k) := hal
      have hsr := hkp.size
      clear hown hot hrd hby heq hkp hal O2 R2 K2
      by_cases hlt : k < tos.length
      · obtain ⟨t, ht⟩ := getX hlt
        have hd : tos.drop k = t :: tos.drop (k + 1) := by
          rw [List.drop_eq_getElem_cons hlt]
          rw [List.getElem?_eq_getElem hlt] at ht
          injection ht with ht
          rw [ht]
        rw [hd] at HE
        obtain ⟨g, cap', e1, hg, hgl, _, _, htk⟩ : ∃ g cap, Value.slice ta tos.length tc = .slice (some ⟨g, 0, none⟩) tos.length cap ∧ w.heap.size ≤ g ∧ g < wr.heap.size ∧ tos.length ≤ cap ∧ cap ≤ maxLen ∧ ∀ j u, (tos.map (Value.int .i64))[j]? = some u → wr.cell? ((⟨g, 0, none⟩ : Addr).add j) = some u := own_shape OT.out (by omega)
        injection e1 with e1 _ e3
        subst e1 e3
        have d1 : wr.cell? ⟨g, k, none⟩ = some (.int .i64 t) := by
          have := htk k (.int .i64 t) (by rw [List.getElem?_map, ht]; rfl)
          rwa [addr_add] at this
        have hal : a.length ≤ 2000 := by have := HAL.out; omega
        clear htk hd ht
        by_cases htn : t < n
        · go_wp2_with fail
          try rw [decide_eq_true htn]
          refine (insist_yes _).mono ?_
          rintro e w3 ⟨rfl, rfl⟩
          cases hnum : numF 1099511627776 r with
          | none =>
            have HX2 : Hid (hopsC n l = none) := by show hopsC n l = none; rw [HH.out, HE.out, wtsC_no hnum]; rfl
            go_wp2_with fail
            refine (number_no q r _ RD.out HY.out hnum).mono ?_
            rintro e w4 ⟨rfl, rfl⟩
            exact ⟨rfl, HK.out, .inr ⟨HX2.out, rfl⟩⟩
          | some p =>
            obtain ⟨x, r2⟩ := p
            have HE2 : Hid (wtsC n tos [] l1 = wtsC n (tos.drop (k + 1)) (a ++ [(t, x)]) r2) := by show _ = _; rw [HE.out, wtsC_yes htn hnum]
            have HY2 : Hid (∀ y ∈ r2, 0 ≤ y ∧ y ≤ 255) := (numF_inv HY.out hnum).2.2.2
            have HNM : Hid (Calls Try.prog 59 #[.pointer (some ⟨q, 0, none⟩)] w3 fun e w' => e = .returned (.int .i64 x) ∧ Rd w' q r2 ∧ Kept (fun k => k = q) w3 w') := number_ok q r r2 x w3 RD.out HY.out hnum
            have HQ3 : Hid (∃ v, w3.heap[q]? = some (.cells #[v] 73 (0, 0))) := by obtain ⟨v, h, _⟩ := RD.out; exact ⟨v, h⟩
            clear hnum HE
            go_wp2_with fail
            refine HNM.out.mono ?_
            rintro e w4 ⟨rfl, hrd4, hk4⟩
            have RD4 : Hid (Rd w4 q r2) := hrd4
            have HK4 : Hid (Kept (fun k => k = q) w w4) := HK.out.trans hk4
            have OW4 : Hid (w4.ownsRow w.heap.size 87 2 u8 a.length (a.flatMap encH)) := hk4.own OW.out fun g hg => by obtain ⟨v, h⟩ := HQ3.out; exact own_block OW.out hg h (by decide)
            have OT4 : Hid (w4.ownsRow w.heap.size 3 1 (.slice (some ⟨g, 0, none⟩) tos.length tc) tos.length (tos.map (Value.int .i64))) := hk4.own OT.out fun g hg => by obtain ⟨v, h⟩ := HQ3.out; exact own_block OT.out hg h (by decide)
            have hs4 := HK4.out.size
            clear hrd4 hk4 HNM OW OT RD HK HQ3 d1
            go_wp2_with (at_builtin; refine wpList_append_newK kH rfl _ _ rfl w.heap.size _ a rfl (OW4.out.alloc _) w4.heap.size (t, x) rfl #[.int .i64 t, .int .i64 x] rfl (0, 0) (heap_alloc_new _ _) (by simp [kH]; omega) (by unfold maxLen; omega) (by simp; omega) ?_)
            intro g5 c5 w5 hown5 hb5 hgr5
            have O5 : Hid (w5.ownsRow w.heap.size 87 2 (.slice (some ⟨g5, 0, none⟩) (a.length + 1) c5) (a ++ [(t, x)]).length ((a ++ [(t, x)]).flatMap encH)) := by
              show World.ownsRow _ _ _ _ _ _ _
              rw [flat_snoc, List.length_append]; exact hown5
            have OT5 : Hid (w5.ownsRow w.heap.size 3 1 (.slice (some ⟨g, 0, none⟩) tos.length tc) tos.length (tos.map (Value.int .i64))) := (OT4.out.alloc _).kept hgr5 (own_apart OT4.out OW4.out (by decide))
            have RD5 : Hid (Rd w5 q r2) := RD4.out.kept ((Kept.of (S := fun k => w.heap.size ≤ k) (below_alloc w4 _)).trans (Kept.grown (Kept.refl _ _) hgr5 fun k hk => .inl (OW4.out.lt k hk).1)) fun k hk => by omega
            have HK5 : Hid (Kept (fun k => k = q) w w5) := (HK4.out.alloc _).grown hgr5 fun k hk => .inr (OW4.out.lt k hk).1
            have HAL2 : Hid ((a ++ [(t, x)]).length = k + 1) := by show _ = _; rw [List.length_append, HAL.out]; rfl
            clear hown5 hb5 hgr5 OW4 OT4 RD4 HK4
            go_wp2_with fail
            go_roundw
            case rel => exact ⟨k + 1, a ++ [(t, x)], r2, by omega, by go_num, HAL2.out, O5.out, OT5.out, RD5.out, HY2.out, HE2.out, HK5.out⟩
            case measure => simp [intOf]; omega
        · have HX2 : Hid (hopsC n l = none) := by show hopsC n l = none; rw [HH.out, HE.out, wtsC_out htn]; rfl
          go_wp2_with fail
          try rw [decide_eq_false (by omega)]
          refine (insist_no _).mono ?_
          rintro e w3 ⟨rfl, rfl⟩
          exact ⟨rfl, HK.out, .inr ⟨HX2.out, rfl⟩⟩
      · have hd : tos.drop k = [] := List.drop_eq_nil_of_le (by omega)
        have HE2 : Hid (hopsC n l = (some (a, r)).filter fun p => srtB p.1) := by show _ = _; rw [HH.out, HE.out, hd, wtsC]
        have HR2 : Hid (HpR wr u8 a) := RowK.own encH_len OW.out
        clear hd HE HH
        go_wp2_with fail
        refine (hopSrt_any _ a _ HR2.out).mono ?_
        rintro e w3 ⟨rfl, hb3⟩
        have OW3 : Hid (w3.ownsRow w.heap.size 87 2 u8 a.length (a.flatMap encH)) := own_below OW.out hb3 (Nat.le_refl _)
        have RD3 : Hid (Rd w3 q r) := RD.out.kept (Kept.of (S := fun _ => False) hb3) fun _ _ h => h
        have HK3 : Hid (Kept (fun k => k = q) w w3) := HK.out.trans (.of hb3)
        clear hb3 OW RD HK
        cases hs : srtB a with
        | false =>
          have HX2 : Hid (hopsC n l = none) := by show hopsC n l = none; rw [HE2.out, Option.filter_some_neg (by simp [hs])]
          go_wp2_with fail
          refine (insist_no _).mono ?_
          rintro e w4 ⟨rfl, rfl⟩
          exact ⟨rfl, HK3.out, .inr ⟨HX2.out, rfl⟩⟩
        | true =>
          have HX2 : Hid (hopsC n l = some (a, r)) := by show hopsC n l = _; rw [HE2.out, Option.filter_some_pos (by exact hs)]
          go_wp2_with fail
          refine (insist_yes _).mono ?_
          rintro e w4 ⟨rfl, rfl⟩
          go_wp2_with fail
          go_ret
          exact ⟨HK3.out, .inl ⟨(a, r), _, HX2.out, rfl, OW3.out, RD3.out⟩⟩
end Go.Proofs.Ytacpicnihgggaaa
