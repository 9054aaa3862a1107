/-
  Contract of pacelinekeep's own lined: two ends of a link, whatever happens on the way.
-/
import Derived.Test.YtjmjpmnjibdhhaaLinedMath
import Derived.Test.YtjmjpmnjibdhhaaLinedMem
import Derived.Test.YtjmjpmnjibdhhaaLinkOpen
import Derived.Test.YtjmjpmnjibdhhaaLinkDue
import Derived.Test.YtjmjpmnjibdhhaaLinkHear
import Derived.Test.YtjmjpmnjibdhhaaRegionThree
import Derived.Test.YtjmjpmnjibdhhaaPicked
import Derived.Shelf.Abstract
namespace Go.Proofs.Ytjmjpmnjibdhhaa
set_option maxRecDepth 100000
open Go.ChangeShapes Go.WideShapes Go.ChangeAt Go.RowKit

/-- What lined answers. -/
def LinP (w : World) (L : List Ml) (M : Nat) (E : Ending) (w' : World) : Prop :=
  ∃ (b k : Nat) (vG vS : Value), E = .returned (.tuple #[vG, .agg #[.int .i64 1, .int .i64 (b : Int), vS], .bool true]) ∧ w'.ownsRow w.heap.size 33 2 vG (L.take k).length ((L.take k).flatMap encM) ∧
    w'.ownsRow w.heap.size 33 2 vS (L.drop b).length ((L.drop b).flatMap encM) ∧ (b ≤ k ∧ k ≤ L.length) ∧ (3 * (L.length + 2) ≤ M → L.length ≤ b) ∧ Below w.heap.size w w'

theorem openOne (X : World) : Calls Try.prog 9 #[.int .i64 1] X fun E w' => E = .returned (.tuple #[.agg #[.int .i64 1, .int .i64 0, .slice none 0 0], .agg #[.int .i64 1, .int .i64 0], .int .i64 0]) ∧ Below X.heap.size X w' := open_any 1 X
theorem sendOne {L : List Ml} {i : Nat} {m : Ml} (hL : L.length ≤ 12) (hm : L[i]? = some m) (v : Value) (X : World) (hX : MlR X v (L.take i)) :
    Calls Try.prog 13 #[.agg #[.int .i64 1, .int .i64 0, v], .agg #[.int .i64 m.1, .int .i64 m.2]] X fun E w' => ∃ u, E = .returned u ∧ (∃ y, u = .tuple #[.agg #[.int .i64 1, .int .i64 0, y], .int .i64 0] ∧ w'.ownsRow X.heap.size 33 2 y (L.take (i + 1)).length ((L.take (i + 1)).flatMap encM) ∧ Below X.heap.size X w') := by
  have hlt : i < L.length := (List.getElem?_eq_some_iff.1 hm).1
  have hl : (L.take i).length = i := by rw [List.length_take]; omega
  have h := send_any 1 0 m v (L.take i) X hX (by rw [hl]; omega)
  have e : sendE 1 0 (L.take i).length = 0 := by
    have hm : mayS 1 0 (L.take i).length = true := mayS_iff.2 ⟨by omega, by omega, by rw [hl]; omega⟩
    unfold sendE
    rw [hm, if_pos rfl, if_neg (by rw [hl]; omega)]
  rw [e, ← take_snoc hm] at h
  exact h.mono fun E w' ⟨y, h1, h2, h3⟩ => ⟨_, h1, y, rfl, h2, h3⟩

theorem hearOne {k i : Nat} {m : Ml} (hk : k ≤ 12) (X : World) :
    Calls Try.prog 20 #[.agg #[.int .i64 1, .int .i64 (k : Int)], .agg #[.int .i64 1, .int .i64 (i : Int), .int .i64 m.1, .int .i64 m.2]] X fun E w' => ∃ u, E = .returned u ∧ (∃ y, u = .tuple #[.agg #[.int .i64 1, .int .i64 ((wantF k i : Nat) : Int)], y, .agg #[.int .i64 1, .int .i64 ((wantF k i : Nat) : Int)], .int .i64 0] ∧ w'.ownsRow X.heap.size 33 2 y (hearL (k : Int) (i : Int) m).length ((hearL (k : Int) (i : Int) m).flatMap encM) ∧ Below X.heap.size X w') := by
  have h := hear_any 1 (k : Int) 1 (i : Int) m X
  have e : hearE 1 (k : Int) 1 = 0 := by
    unfold hearE
    rw [show wi 1 = true from rfl, wi_yes (n := (k : Int)) ⟨by omega, by omega⟩]
    rfl
  rw [e, wantF_hear] at h
  exact h.mono fun E w' ⟨y, h1, h2, h3⟩ => ⟨_, h1, y, rfl, h2, h3⟩
theorem ackOne {L : List Ml} {b k j : Nat} {ps : List Pk} {ks : List Ml} (hL : L.length ≤ 12) (hl : Lin L b k ps ks) (hj : j ≤ k) (v : Value) (X : World) (hX : MlR X v (L.drop b)) :
    Calls Try.prog 18 #[.agg #[.int .i64 1, .int .i64 (b : Int), v], .agg #[.int .i64 1, .int .i64 (j : Int)]] X fun E w' => ∃ u, E = .returned u ∧ (∃ y, u = .tuple #[.agg #[.int .i64 1, .int .i64 ((max b j : Nat) : Int), y], .int .i64 0] ∧ w'.ownsRow X.heap.size 33 2 y (L.drop (max b j)).length ((L.drop (max b j)).flatMap encM) ∧ Below X.heap.size X w') := by
  have hkn := hl.kn
  have hd : (L.drop b).length ≤ 12 := by rw [List.length_drop]; omega
  have h := acked_any 1 (b : Int) 1 (j : Int) v (L.drop b) X hX (by omega) ⟨by omega, by omega⟩
  rw [hl.ack0 hL hj, ackB_nat, ackL_nat] at h
  exact h.mono fun E w' ⟨y, h1, h2, h3⟩ => ⟨_, h1, y, rfl, h2, h3⟩
theorem dueOne {L : List Ml} {b k : Nat} {ps : List Pk} {ks : List Ml} (hL : L.length ≤ 12) (hl : Lin L b k ps ks) (v : Value) (X : World) (hX : MlR X v (L.drop b)) :
    Calls Try.prog 15 #[.agg #[.int .i64 1, .int .i64 (b : Int), v]] X fun E w' => ∃ y, E = .returned (.tuple #[y, .int .i64 0]) ∧ w'.ownsRow X.heap.size 48 4 y (dueF 1 (b : Int) (L.drop b)).length ((dueF 1 (b : Int) (L.drop b)).flatMap encP) ∧ Below X.heap.size X w' := by
  have hkn := hl.kn
  have hbk := hl.bk
  have hd : (L.drop b).length ≤ 12 := by rw [List.length_drop]; omega
  have h := due_any 1 (b : Int) v (L.drop b) X hX (by omega)
  have e : dueE 1 (b : Int) (L.drop b).length = 0 := by
    unfold dueE
    rw [mayS_iff.2 ⟨by omega, by omega, by omega⟩]
    rfl
  rw [e] at h
  exact h

set_option maxHeartbeats 16000000 in
set_option maxRecDepth 100000 in
theorem lined_any (v vt : Value) (L ts : List Ml) (M : Nat) (w : World) (h : MlR w v L) (ht : MlR w vt ts) (hL : L.length ≤ 12) (hT : ts.length ≤ 60) (hM : M ≤ 60) (hB : ∀ x ∈ ts, mlB x) :
    Calls Try.prog 24 #[v, vt, .int .i64 (M : Int)] w (LinP w L M) := by
  have HR : Hid (MlR w v L) := h
  have HT : Hid (MlR w vt ts) := ht
  have HTB : Hid (∀ x ∈ ts, mlB x) := hB
  obtain ⟨a, cap, rfl⟩ := h.shape
  obtain ⟨ta, tcap, rfl⟩ := ht.shape
  have HE : Hid (∀ (b k : Nat) (vG vS : Value) w', w'.ownsRow w.heap.size 33 2 vG (L.take k).length ((L.take k).flatMap encM) → w'.ownsRow w.heap.size 33 2 vS (L.drop b).length ((L.drop b).flatMap encM) → (b ≤ k ∧ k ≤ L.length) → (3 * (L.length + 2) ≤ M → L.length ≤ b) → Below w.heap.size w w' → LinP w L M (.returned (.tuple #[vG, .agg #[.int .i64 1, .int .i64 (b : Int), vS], .bool true])) w') := fun b k vG vS w' h1 h2 h3 h4 h5 => ⟨b, k, vG, vS, rfl, h1, h2, h3, h4, h5⟩
  generalize LinP w L M = P at *
  clear h ht hB
  have esnd : ∀ args w, (callFunc 13 args).run Try.prog w = .ok (.enter 13 args) w := enters_of Try.func13 (by kernel_rfl) rfl
  have ehear : ∀ args w, (callFunc 20 args).run Try.prog w = .ok (.enter 20 args) w := enters_of Try.func20 (by kernel_rfl) rfl
  have eack : ∀ args w, (callFunc 18 args).run Try.prog w = .ok (.enter 18 args) w := enters_of Try.func18 (by kernel_rfl) rfl
  go_enter Try.func24, Try.ntmps24
  go_upto_region 1 with fail
  have N0 : BX 24 (w.alloc (.cells #[.int .i64 0, .int .i64 0, .slice none 0 0] 24)) w.heap.size #[.int .i64 0, .int .i64 0, .slice none 0 0] := BX.new _ _ _
  have b0 : Below w.heap.size w (w.alloc (.cells #[.int .i64 0, .int .i64 0, .slice none 0 0] 24)) := below_alloc _ _
  generalize w.alloc (.cells #[.int .i64 0, .int .i64 0, .slice none 0 0] 24) = W0 at *
  have X7 : Hid (BX 24 W0 w.heap.size #[.int .i64 0, .int .i64 0, .slice none 0 0]) := N0
  have B7 : Hid (Below w.heap.size w W0) := b0
  have hs0 := N0.lt
  clear N0 b0
  go_wp2_with fail
  refine (openOne _).mono ?_
  rintro E w1 ⟨rfl, hb1⟩
  have B1 : Hid (Below W0.heap.size W0 w1) := hb1
  have hs1 := hb1.size
  clear hb1
  go_upto_region 2 with fail
  obtain ⟨Q0, P0, B0, s1, s2⟩ := boxes2 w1 #[.int .i64 1, .int .i64 0, .slice none 0 0] #[.int .i64 1, .int .i64 0] 24 26 _ rfl
  generalize (w1.alloc (.cells #[.int .i64 1, .int .i64 0, .slice none 0 0] 24)).alloc (.cells #[.int .i64 1, .int .i64 0] 26) = W2 at *
  have ST2 : Hid (LSt w w.heap.size w1.heap.size (w1.heap.size + 1) W2.heap.size W2 ((0 : Nat) : Int) ((0 : Nat) : Int) (.slice none 0 0) (.slice none 0 0) (.slice none 0 0) (.slice none 0 0) [] [] [] []) := by
    have b2 : Below W0.heap.size W0 W2 := B1.out.trans (B0.mono hs1)
    exact ⟨Nat.le_refl _, by omega, by omega, by omega, Nat.le_refl _, X7.out.below b2 hs0, Q0, P0, World.ownsRow_nil _ _ _ _, World.ownsRow_nil _ _ _ _, World.ownsRow_nil _ _ _ _, World.ownsRow_nil _ _ _ _, .inl rfl, B7.out.trans (b2.mono (by omega))⟩
  obtain ⟨q0, q1, q2, _⟩ := Q0.all3
  generalize w1.heap.size + 1 = q10 at *
  generalize w1.heap.size = q9 at *
  generalize hq7 : w.heap.size = q7 at ST2 ⊢
  generalize hqB : W2.heap.size = B at ST2
  clear hq7 hqB
  clear Q0 P0 B0 X7 B7 B1 hs0 hs1 s1 s2
  go_wp2_with fail
  clear q0 q1 q2
  go_loopw [12] (fun i wr => ∃ (j : Nat) (vS : Value), j ≤ L.length ∧ i = .int .i64 j ∧ LSt w q7 q9 q10 B wr ((0 : Nat) : Int) ((0 : Nat) : Int) vS (.slice none 0 0) (.slice none 0 0) (.slice none 0 0) (L.take j) [] [] []) (fun i _ => L.length - (intOf i).toNat)
  case atStart => exact ⟨0, _, by omega, rfl, ST2.out⟩
  case round =>
    obtain ⟨j, vS, hj, rfl, hst⟩ := hrel
    have ST : Hid (LSt w q7 q9 q10 B wr ((0 : Nat) : Int) ((0 : Nat) : Int) vS (.slice none 0 0) (.slice none 0 0) (.slice none 0 0) (L.take j) [] [] []) := hst
    clear hst ST2
    by_cases hlt : j < L.length
    · as_aux_lemma =>
        obtain ⟨xb, xo, cap', e1, _, _, lb, hv⟩ := MlR.at (HR.out.below ST.out.bel (Nat.le_refl _)) (by omega)
        injection e1 with e1 _ e3
        subst e1 e3
        obtain ⟨m, hm⟩ := getX hlt
        have p0 : (0 : Int) ≤ (j : Int) := by omega
        have p1 : (j : Int) < (L.length : Int) := by omega
        obtain ⟨sa, sc, rfl⟩ := (MlR.ownd ST.out.rS).shape
        have KEEP : Hid (∀ V, Below wr.heap.size wr V → (V.cell? ⟨q9, 0, none⟩ = some (.int .i64 1) ∧ V.cell? ⟨q9, 1, none⟩ = some (.int .i64 0) ∧ V.cell? ⟨q9, 2, none⟩ = some (.slice sa (L.take j).length sc)) ∧ V.cell? ⟨xb, xo + j * 2, none⟩ = some (.int .i64 m.1) ∧ V.cell? ⟨xb, xo + j * 2 + 1, none⟩ = some (.int .i64 m.2)) := fun V hV => by
          obtain ⟨h1, h2, h3, _⟩ := (ST.out.x9.below hV ST.out.x9.lt).all3
          exact ⟨⟨h1, h2, h3⟩, (hV.cell (p := ⟨xb, xo + j * 2, none⟩) lb).trans (hv j m hm).1, (hV.cell (p := ⟨xb, xo + j * 2 + 1, none⟩) lb).trans (hv j m hm).2⟩
        have CC : Hid (∀ X, Below wr.heap.size wr X → Calls Try.prog 13 #[.agg #[.int .i64 1, .int .i64 0, .slice sa (L.take j).length sc], .agg #[.int .i64 m.1, .int .i64 m.2]] X fun E w' => ∃ u, E = .returned u ∧ (∃ y, u = .tuple #[.agg #[.int .i64 1, .int .i64 0, y], .int .i64 0] ∧ w'.ownsRow X.heap.size 33 2 y (L.take (j + 1)).length ((L.take (j + 1)).flatMap encM) ∧ Below X.heap.size X w')) := fun X hX => sendOne hL hm _ X ((MlR.ownd ST.out.rS).below hX (Nat.le_refl _))
        clear hv hm
        generalize (L.take j).length = tl at *
        go_upto_region 7 with fail
        apply Hid.cut
        case h =>
          intro HG
          have B0 : Below wr.heap.size wr wr.drew := (Below.refl _ _).drew
          have HS0 : Hid ((wr.drew.cell? ⟨q9, 0, none⟩ = some (.int .i64 1) ∧ wr.drew.cell? ⟨q9, 1, none⟩ = some (.int .i64 0) ∧ wr.drew.cell? ⟨q9, 2, none⟩ = some (.slice sa tl sc)) ∧ wr.drew.cell? ⟨xb, xo + j * 2, none⟩ = some (.int .i64 m.1) ∧ wr.drew.cell? ⟨xb, xo + j * 2 + 1, none⟩ = some (.int .i64 m.2)) := KEEP.out wr.drew B0
          refine wp_region_held (S := fun V => (V.cell? ⟨q9, 0, none⟩ = some (.int .i64 1) ∧ V.cell? ⟨q9, 1, none⟩ = some (.int .i64 0) ∧ V.cell? ⟨q9, 2, none⟩ = some (.slice sa tl sc)) ∧ V.cell? ⟨xb, xo + j * 2, none⟩ = some (.int .i64 m.1) ∧ V.cell? ⟨xb, xo + j * 2 + 1, none⟩ = some (.int .i64 m.2)) (by kernel_rfl) ?_
          simp only [List.size_toArray, List.length_cons, List.length_nil, Nat.reduceAdd]
          refine takeH (i := 0) (v := .agg #[.int .i64 1, .int .i64 0, .slice sa tl sc]) (d := 54) rfl rfl (by kernel_rfl) (by kernel_rfl) (by kernel_rfl) (fun _ _ _ h => h) (by rfl) (fun V hV => by obtain ⟨⟨v1, v2, v3⟩, v4, v5⟩ := hV; go_simp) HS0.out ?_
          simp only [Act.put, List.setIfInBounds_toArray, List.set_cons_zero, List.set_cons_succ]
          refine takeH (i := 1) (v := .slice (some ⟨xb, xo, none⟩) L.length cap) (d := 55) rfl rfl (by kernel_rfl) (by kernel_rfl) (by kernel_rfl) (fun _ _ _ h => h) (by rfl) (fun V hV => by obtain ⟨⟨v1, v2, v3⟩, v4, v5⟩ := hV; go_simp) HS0.out ?_
          simp only [Act.put, List.setIfInBounds_toArray, List.set_cons_zero, List.set_cons_succ]
          refine takeH (i := 2) (v := .int .i64 (j : Int)) (d := 56) rfl rfl (by kernel_rfl) (by kernel_rfl) (by kernel_rfl) (fun _ _ _ h => h) (by rfl) (fun V hV => by obtain ⟨⟨v1, v2, v3⟩, v4, v5⟩ := hV; go_simp) HS0.out ?_
          simp only [Act.put, List.setIfInBounds_toArray, List.set_cons_zero, List.set_cons_succ]
          refine takeH (i := 3) (v := .pointer (some ⟨xb, xo + j * 2, none⟩)) (d := 57) rfl rfl (by kernel_rfl) (by kernel_rfl) (by kernel_rfl) (fun _ _ _ h => h) (by rfl) (fun V hV => by obtain ⟨⟨v1, v2, v3⟩, v4, v5⟩ := hV; go_simp) HS0.out ?_
          simp only [Act.put, List.setIfInBounds_toArray, List.set_cons_zero, List.set_cons_succ]
          refine takeH (i := 4) (v := .agg #[.int .i64 m.1, .int .i64 m.2]) (d := 58) rfl rfl (by kernel_rfl) (by kernel_rfl) (by kernel_rfl) (fun _ _ _ h => h) (by rfl) (fun V hV => by obtain ⟨⟨v1, v2, v3⟩, v4, v5⟩ := hV; go_simp) HS0.out ?_
          simp only [Act.put, List.setIfInBounds_toArray, List.set_cons_zero, List.set_cons_succ]
          refine twoH (i := 5) (j := 9) rfl rfl (by kernel_rfl) rfl rfl ?way1call ?way1s
          case way1call =>
            refine call_gets (d := 59) (f := 13) (xs := #[.tmp 54, .tmp 58]) (ats := #[24, 33]) rfl rfl esnd (vs := #[.agg #[.int .i64 1, .int .i64 0, .slice sa tl sc], .agg #[.int .i64 m.1, .int .i64 m.2]]) (by simp [Act.eval]) (CC.out _ B0) ?_
            rintro vr wc1 ⟨yv, rfl, ho, hb⟩
            have bc1 : Below wr.heap.size wr wc1 := B0.trans (hb.mono B0.size)
            have OC : Hid (wc1.ownsRow wr.heap.size 33 2 (yv) (L.take (j + 1)).length ((L.take (j + 1)).flatMap encM)) := own_lower ho B0.size
            obtain ⟨ya, yc, rfl⟩ := (MlR.ownd OC.out).shape
            have HS1 : Hid ((wc1.cell? ⟨q9, 0, none⟩ = some (.int .i64 1) ∧ wc1.cell? ⟨q9, 1, none⟩ = some (.int .i64 0) ∧ wc1.cell? ⟨q9, 2, none⟩ = some (.slice sa tl sc)) ∧ wc1.cell? ⟨xb, xo + j * 2, none⟩ = some (.int .i64 m.1) ∧ wc1.cell? ⟨xb, xo + j * 2 + 1, none⟩ = some (.int .i64 m.2)) := KEEP.out wc1 bc1
            clear ho hb
            refine ⟨HS1.out, ?_⟩
            simp only [Act.put, List.setIfInBounds_toArray, List.set_cons_zero, List.set_cons_succ]
            refine takeH (i := 6) (v := .tuple #[.agg #[.int .i64 1, .int .i64 0, .slice ya (L.take (j + 1)).length yc], .int .i64 0]) (d := 53) rfl rfl (by kernel_rfl) (by kernel_rfl) (by kernel_rfl) (fun _ _ _ h => h) (by rfl) (fun V hV => by obtain ⟨⟨v1, v2, v3⟩, v4, v5⟩ := hV; go_simp) HS1.out ?_
            simp only [Act.put, List.setIfInBounds_toArray, List.set_cons_zero, List.set_cons_succ]
            refine takeH (i := 7) (v := .agg #[.int .i64 1, .int .i64 0, .slice ya (L.take (j + 1)).length yc]) (d := 60) rfl rfl (by kernel_rfl) (by kernel_rfl) (by kernel_rfl) (fun _ _ _ h => h) (by rfl) (fun V hV => by obtain ⟨⟨v1, v2, v3⟩, v4, v5⟩ := hV; go_simp) HS1.out ?_
            simp only [Act.put, List.setIfInBounds_toArray, List.set_cons_zero, List.set_cons_succ]
            refine takeH (i := 8) (v := .int .i64 0) (d := 61) rfl rfl (by kernel_rfl) (by kernel_rfl) (by kernel_rfl) (fun _ _ _ h => h) (by rfl) (fun V hV => by obtain ⟨⟨v1, v2, v3⟩, v4, v5⟩ := hV; go_simp) HS1.out ?_
            simp only [Act.put, List.setIfInBounds_toArray, List.set_cons_zero, List.set_cons_succ]
            refine oneH (i := 9) rfl (by kernel_rfl) rfl (op_run (d := 13) (v' := .pointer (some ⟨wc1.heap.size, 0, none⟩)) (w' := wc1.alloc (.cells #[.int .i64 0, .int .i64 0, .slice none 0 0] 24)) rfl (by go_simp) ⟨KEEP.out _ (bc1.alloc bc1.size _), ?_⟩)
            simp only [Act.put, List.setIfInBounds_toArray, List.set_cons_zero, List.set_cons_succ]
            have X_s : Hid (BX 24 (wc1.alloc (.cells #[.int .i64 0, .int .i64 0, .slice none 0 0] 24)) (wc1.heap.size) #[.int .i64 0, .int .i64 0, .slice none 0 0]) := BX.new _ _ _
            have L_s : Hid (wr.heap.size ≤ wc1.heap.size) := bc1.size
            have bc2 : Below wr.heap.size wr (wc1.alloc (.cells #[.int .i64 0, .int .i64 0, .slice none 0 0] 24)) := bc1.alloc bc1.size _
            have HS2 : Hid (((wc1.alloc (.cells #[.int .i64 0, .int .i64 0, .slice none 0 0] 24)).cell? ⟨q9, 0, none⟩ = some (.int .i64 1) ∧ (wc1.alloc (.cells #[.int .i64 0, .int .i64 0, .slice none 0 0] 24)).cell? ⟨q9, 1, none⟩ = some (.int .i64 0) ∧ (wc1.alloc (.cells #[.int .i64 0, .int .i64 0, .slice none 0 0] 24)).cell? ⟨q9, 2, none⟩ = some (.slice sa tl sc)) ∧ (wc1.alloc (.cells #[.int .i64 0, .int .i64 0, .slice none 0 0] 24)).cell? ⟨xb, xo + j * 2, none⟩ = some (.int .i64 m.1) ∧ (wc1.alloc (.cells #[.int .i64 0, .int .i64 0, .slice none 0 0] 24)).cell? ⟨xb, xo + j * 2 + 1, none⟩ = some (.int .i64 m.2)) := KEEP.out _ bc2
            replace OC : Hid ((wc1.alloc (.cells #[.int .i64 0, .int .i64 0, .slice none 0 0] 24)).ownsRow wr.heap.size 33 2 (.slice ya (L.take (j + 1)).length yc) (L.take (j + 1)).length ((L.take (j + 1)).flatMap encM)) := OC.out.alloc _
            generalize wc1.alloc (.cells #[.int .i64 0, .int .i64 0, .slice none 0 0] 24) = wa2 at *
            obtain ⟨n0, n1, n2, n3, n4, n5⟩ := X_s.out.all3
            have bd0 : Below wr.heap.size wr (put3 wa2 (wc1.heap.size) (.int .i64 1) (.int .i64 0) (.slice ya (L.take (j + 1)).length yc)) := below_put3 bc2 L_s.out _ _ _
            have HT0 : Hid (((put3 wa2 (wc1.heap.size) (.int .i64 1) (.int .i64 0) (.slice ya (L.take (j + 1)).length yc)).cell? ⟨q9, 0, none⟩ = some (.int .i64 1) ∧ (put3 wa2 (wc1.heap.size) (.int .i64 1) (.int .i64 0) (.slice ya (L.take (j + 1)).length yc)).cell? ⟨q9, 1, none⟩ = some (.int .i64 0) ∧ (put3 wa2 (wc1.heap.size) (.int .i64 1) (.int .i64 0) (.slice ya (L.take (j + 1)).length yc)).cell? ⟨q9, 2, none⟩ = some (.slice sa tl sc)) ∧ (put3 wa2 (wc1.heap.size) (.int .i64 1) (.int .i64 0) (.slice ya (L.take (j + 1)).length yc)).cell? ⟨xb, xo + j * 2, none⟩ = some (.int .i64 m.1) ∧ (put3 wa2 (wc1.heap.size) (.int .i64 1) (.int .i64 0) (.slice ya (L.take (j + 1)).length yc)).cell? ⟨xb, xo + j * 2 + 1, none⟩ = some (.int .i64 m.2)) := KEEP.out _ bd0
            have Y_s : Hid (BX 24 (put3 wa2 (wc1.heap.size) (.int .i64 1) (.int .i64 0) (.slice ya (L.take (j + 1)).length yc)) (wc1.heap.size) #[.int .i64 1, .int .i64 0, .slice ya (L.take (j + 1)).length yc]) := X_s.out.put3 _ _ _
            replace OC : Hid ((put3 wa2 (wc1.heap.size) (.int .i64 1) (.int .i64 0) (.slice ya (L.take (j + 1)).length yc)).ownsRow wr.heap.size 33 2 (.slice ya (L.take (j + 1)).length yc) (L.take (j + 1)).length ((L.take (j + 1)).flatMap encM)) := X_s.out.own3 OC.out (by decide)
            refine oneH (i := 10) rfl (by kernel_rfl) rfl (op_skip (w' := (put3 wa2 (wc1.heap.size) (.int .i64 1) (.int .i64 0) (.slice ya (L.take (j + 1)).length yc))) rfl (by unfold put3; go_simp) ⟨HT0.out, ?_⟩)
            clear n0 n1 n2 n3 n4 n5 X_s
            generalize put3 wa2 (wc1.heap.size) (.int .i64 1) (.int .i64 0) (.slice ya (L.take (j + 1)).length yc) = wp3_0 at *
            refine takeH (i := 11) (v := .int .i64 0) (d := 14) rfl rfl (by kernel_rfl) (by kernel_rfl) (by kernel_rfl) (fun _ _ _ h => h) (by rfl) (fun V hV => by obtain ⟨⟨v1, v2, v3⟩, v4, v5⟩ := hV; go_simp) HT0.out ?_
            simp only [Act.put, List.setIfInBounds_toArray, List.set_cons_zero, List.set_cons_succ]
            refine wpAnyH_done (by kernel_rfl) ?_ _
            have FB : Hid (Below wr.heap.size wr wp3_0) := bd0
            clear bc1 HS1 bc2 HS2 bd0 HT0
            generalize wc1.heap.size = pb_s at *
            revert L_s
            revert FB
            revert OC
            revert Y_s
            revert wp3_0
            revert pb_s
            revert yc
            revert ya
            exact HG.out
          case way1s =>
            refine op_run (d := 13) (v' := .pointer (some ⟨wr.heap.size, 0, none⟩)) (w' := wr.drew.alloc (.cells #[.int .i64 0, .int .i64 0, .slice none 0 0] 24)) rfl (by go_simp) ⟨KEEP.out _ (B0.alloc B0.size _), ?_⟩
            simp only [Act.put, List.setIfInBounds_toArray, List.set_cons_zero, List.set_cons_succ]
            have X_s : Hid (BX 24 (wr.drew.alloc (.cells #[.int .i64 0, .int .i64 0, .slice none 0 0] 24)) (wr.heap.size) #[.int .i64 0, .int .i64 0, .slice none 0 0]) := BX.new _ _ _
            have L_s : Hid (wr.heap.size ≤ wr.heap.size) := Nat.le_refl _
            have bc1 : Below wr.heap.size wr (wr.drew.alloc (.cells #[.int .i64 0, .int .i64 0, .slice none 0 0] 24)) := B0.alloc B0.size _
            have HS1 : Hid (((wr.drew.alloc (.cells #[.int .i64 0, .int .i64 0, .slice none 0 0] 24)).cell? ⟨q9, 0, none⟩ = some (.int .i64 1) ∧ (wr.drew.alloc (.cells #[.int .i64 0, .int .i64 0, .slice none 0 0] 24)).cell? ⟨q9, 1, none⟩ = some (.int .i64 0) ∧ (wr.drew.alloc (.cells #[.int .i64 0, .int .i64 0, .slice none 0 0] 24)).cell? ⟨q9, 2, none⟩ = some (.slice sa tl sc)) ∧ (wr.drew.alloc (.cells #[.int .i64 0, .int .i64 0, .slice none 0 0] 24)).cell? ⟨xb, xo + j * 2, none⟩ = some (.int .i64 m.1) ∧ (wr.drew.alloc (.cells #[.int .i64 0, .int .i64 0, .slice none 0 0] 24)).cell? ⟨xb, xo + j * 2 + 1, none⟩ = some (.int .i64 m.2)) := KEEP.out _ bc1
            generalize wr.drew.alloc (.cells #[.int .i64 0, .int .i64 0, .slice none 0 0] 24) = wa1 at *
            refine oneH (i := 5) rfl (by kernel_rfl) rfl (call_gets (d := 59) (f := 13) (xs := #[.tmp 54, .tmp 58]) (ats := #[24, 33]) rfl rfl esnd (vs := #[.agg #[.int .i64 1, .int .i64 0, .slice sa tl sc], .agg #[.int .i64 m.1, .int .i64 m.2]]) (by simp [Act.eval]) (CC.out _ bc1) ?_)
            rintro vr wc2 ⟨yv, rfl, ho, hb⟩
            have bc2 : Below wr.heap.size wr wc2 := bc1.trans (hb.mono bc1.size)
            have OC : Hid (wc2.ownsRow wr.heap.size 33 2 (yv) (L.take (j + 1)).length ((L.take (j + 1)).flatMap encM)) := own_lower ho bc1.size
            obtain ⟨ya, yc, rfl⟩ := (MlR.ownd OC.out).shape
            have HS2 : Hid ((wc2.cell? ⟨q9, 0, none⟩ = some (.int .i64 1) ∧ wc2.cell? ⟨q9, 1, none⟩ = some (.int .i64 0) ∧ wc2.cell? ⟨q9, 2, none⟩ = some (.slice sa tl sc)) ∧ wc2.cell? ⟨xb, xo + j * 2, none⟩ = some (.int .i64 m.1) ∧ wc2.cell? ⟨xb, xo + j * 2 + 1, none⟩ = some (.int .i64 m.2)) := KEEP.out wc2 bc2
            replace X_s : Hid (BX 24 wc2 (wr.heap.size) #[.int .i64 0, .int .i64 0, .slice none 0 0]) := X_s.out.below hb X_s.out.lt
            clear ho hb
            refine ⟨HS2.out, ?_⟩
            simp only [Act.put, List.setIfInBounds_toArray, List.set_cons_zero, List.set_cons_succ]
            refine takeH (i := 6) (v := .tuple #[.agg #[.int .i64 1, .int .i64 0, .slice ya (L.take (j + 1)).length yc], .int .i64 0]) (d := 53) rfl rfl (by kernel_rfl) (by kernel_rfl) (by kernel_rfl) (fun _ _ _ h => h) (by rfl) (fun V hV => by obtain ⟨⟨v1, v2, v3⟩, v4, v5⟩ := hV; go_simp) HS2.out ?_
            simp only [Act.put, List.setIfInBounds_toArray, List.set_cons_zero, List.set_cons_succ]
            refine takeH (i := 7) (v := .agg #[.int .i64 1, .int .i64 0, .slice ya (L.take (j + 1)).length yc]) (d := 60) rfl rfl (by kernel_rfl) (by kernel_rfl) (by kernel_rfl) (fun _ _ _ h => h) (by rfl) (fun V hV => by obtain ⟨⟨v1, v2, v3⟩, v4, v5⟩ := hV; go_simp) HS2.out ?_
            simp only [Act.put, List.setIfInBounds_toArray, List.set_cons_zero, List.set_cons_succ]
            refine takeH (i := 8) (v := .int .i64 0) (d := 61) rfl rfl (by kernel_rfl) (by kernel_rfl) (by kernel_rfl) (fun _ _ _ h => h) (by rfl) (fun V hV => by obtain ⟨⟨v1, v2, v3⟩, v4, v5⟩ := hV; go_simp) HS2.out ?_
            simp only [Act.put, List.setIfInBounds_toArray, List.set_cons_zero, List.set_cons_succ]
            obtain ⟨n0, n1, n2, n3, n4, n5⟩ := X_s.out.all3
            have bd0 : Below wr.heap.size wr (put3 wc2 (wr.heap.size) (.int .i64 1) (.int .i64 0) (.slice ya (L.take (j + 1)).length yc)) := below_put3 bc2 L_s.out _ _ _
            have HT0 : Hid (((put3 wc2 (wr.heap.size) (.int .i64 1) (.int .i64 0) (.slice ya (L.take (j + 1)).length yc)).cell? ⟨q9, 0, none⟩ = some (.int .i64 1) ∧ (put3 wc2 (wr.heap.size) (.int .i64 1) (.int .i64 0) (.slice ya (L.take (j + 1)).length yc)).cell? ⟨q9, 1, none⟩ = some (.int .i64 0) ∧ (put3 wc2 (wr.heap.size) (.int .i64 1) (.int .i64 0) (.slice ya (L.take (j + 1)).length yc)).cell? ⟨q9, 2, none⟩ = some (.slice sa tl sc)) ∧ (put3 wc2 (wr.heap.size) (.int .i64 1) (.int .i64 0) (.slice ya (L.take (j + 1)).length yc)).cell? ⟨xb, xo + j * 2, none⟩ = some (.int .i64 m.1) ∧ (put3 wc2 (wr.heap.size) (.int .i64 1) (.int .i64 0) (.slice ya (L.take (j + 1)).length yc)).cell? ⟨xb, xo + j * 2 + 1, none⟩ = some (.int .i64 m.2)) := KEEP.out _ bd0
            have Y_s : Hid (BX 24 (put3 wc2 (wr.heap.size) (.int .i64 1) (.int .i64 0) (.slice ya (L.take (j + 1)).length yc)) (wr.heap.size) #[.int .i64 1, .int .i64 0, .slice ya (L.take (j + 1)).length yc]) := X_s.out.put3 _ _ _
            replace OC : Hid ((put3 wc2 (wr.heap.size) (.int .i64 1) (.int .i64 0) (.slice ya (L.take (j + 1)).length yc)).ownsRow wr.heap.size 33 2 (.slice ya (L.take (j + 1)).length yc) (L.take (j + 1)).length ((L.take (j + 1)).flatMap encM)) := X_s.out.own3 OC.out (by decide)
            refine oneH (i := 10) rfl (by kernel_rfl) rfl (op_skip (w' := (put3 wc2 (wr.heap.size) (.int .i64 1) (.int .i64 0) (.slice ya (L.take (j + 1)).length yc))) rfl (by unfold put3; go_simp) ⟨HT0.out, ?_⟩)
            clear n0 n1 n2 n3 n4 n5 X_s
            generalize put3 wc2 (wr.heap.size) (.int .i64 1) (.int .i64 0) (.slice ya (L.take (j + 1)).length yc) = wp3_0 at *
            refine takeH (i := 11) (v := .int .i64 0) (d := 14) rfl rfl (by kernel_rfl) (by kernel_rfl) (by kernel_rfl) (fun _ _ _ h => h) (by rfl) (fun V hV => by obtain ⟨⟨v1, v2, v3⟩, v4, v5⟩ := hV; go_simp) HT0.out ?_
            simp only [Act.put, List.setIfInBounds_toArray, List.set_cons_zero, List.set_cons_succ]
            refine wpAnyH_done (by kernel_rfl) ?_ _
            have FB : Hid (Below wr.heap.size wr wp3_0) := bd0
            exact HG.out ya yc (wr.heap.size) wp3_0 Y_s OC FB L_s
        case g =>
          intro ya yc pb X FX FO FB NL
          have ST1 : Hid (LSt w q7 q9 q10 B X ((0 : Nat) : Int) ((0 : Nat) : Int) (.slice sa tl sc) (.slice none 0 0) (.slice none 0 0) (.slice none 0 0) (L.take j) [] [] []) := ST.out.below FB.out
          have ST2 : Hid (LSt w q7 q9 q10 B (put3 X q9 (.int .i64 1) (.int .i64 0) (.slice ya (L.take (j + 1)).length yc)) ((0 : Nat) : Int) ((0 : Nat) : Int) (.slice ya (L.take (j + 1)).length yc) (.slice none 0 0) (.slice none 0 0) (.slice none 0 0) (L.take (j + 1)) [] [] []) := ST1.out.sends (own_lower FO.out ST.out.hB) (ST.out.newRow (Nat.le_refl _) FO.out)
          obtain ⟨f0, f1, f2, _⟩ := FX.out.all3
          obtain ⟨z0, z1, z2, z3, z4, z5⟩ := ST1.out.x9.all3
          clear KEEP CC ST
          generalize (L.take (j + 1)).length = tl1 at *
          go_wp2_with fail
          go_roundw
          case rel => exact ⟨j + 1, _, by omega, by go_num, ST2.out⟩
          case measure => simp [intOf]; omega
    · have ej : L.take j = L := List.take_of_length_le (by omega)
      rw [ej] at ST
      clear ej
      go_wp2_with fail
      clear hlt hj
      go_loopw [15, 16, 17, 18] (fun u15 u16 u17 i wr => ∃ (n b k : Nat) (vS : Value) (ps : List Pk) (ks : List Ml), n ≤ ts.length + M ∧ i = .int .i64 n ∧ ps.length ≤ 4 * n ∧ ks.length ≤ 500 * n ∧ Lin L b k ps ks ∧ Tl L ts.length n b k ps ks ∧ LSt w q7 q9 q10 B wr (b : Int) (k : Int) vS u15 u16 u17 (L.drop b) ps ks (L.take k)) (fun _ _ _ i _ => ts.length + M - (intOf i).toNat)
      case atStart => exact ⟨0, 0, 0, _, [], [], by omega, rfl, by simp, by simp, Lin.start L, Tl.early (Nat.zero_le _), ST.out⟩
      case round =>
        obtain ⟨n, b, k, vS, ps, ks, hn, rfl, hps, hks, hlin, htl, hst⟩ := hrel
        have S3 : Hid (LSt w q7 q9 q10 B wr (b : Int) (k : Int) vS u15 u16 u17 (L.drop b) ps ks (L.take k)) := hst
        have HLIN : Hid (Lin L b k ps ks) := hlin
        have HTL : Hid (Tl L ts.length n b k ps ks) := htl
        have hkn := hlin.kn
        clear hst ST hlin htl HR
        by_cases hlt : n < ts.length + M
        · have d0 : (n : Int) < (ts.length : Int) + (M : Int) := by omega
          by_cases hltT : n < ts.length
          · have d1 : (n : Int) < (ts.length : Int) := by omega
            have dN : decide (ts.length ≤ n) = false := by simp; omega
            have d2 : (0 : Int) ≤ (n : Int) := by omega
            obtain ⟨xb, xo, cap', e1, _, _, lb, hv⟩ := MlR.at (HT.out.below S3.out.bel (Nat.le_refl _)) (by omega)
            injection e1 with e1 _ e3
            subst e1 e3
            obtain ⟨x, hx⟩ := getX hltT
            obtain ⟨c1, c2⟩ := hv n x hx
            obtain ⟨hx1, hx2⟩ := HTB.out x (List.mem_of_getElem? hx)
            obtain ⟨kd, ta⟩ := x
            obtain ⟨hx3, hx4⟩ := hx1
            obtain ⟨hx5, hx6⟩ := hx2
            simp only at c1 c2 hx3 hx4 hx5 hx6
            clear hv hx
            go_upto_region 20 with fail
            clear c1 c2 lb
            have TN : BX 68 (wr.alloc (.cells #[.int .i64 kd, .int .i64 ta] 68)) wr.heap.size #[.int .i64 kd, .int .i64 ta] := BX.new _ _ _
            have S4 : Hid (LSt w q7 q9 q10 B (wr.alloc (.cells #[.int .i64 kd, .int .i64 ta] 68)) (b : Int) (k : Int) vS u15 u16 u17 (L.drop b) ps ks (L.take k)) := S3.out.below (below_alloc _ _)
            have hpt : Hid (B ≤ wr.heap.size) := S3.out.hB
            generalize wr.alloc (.cells #[.int .i64 kd, .int .i64 ta] 68) = W4 at *
            generalize wr.heap.size = pt at *
            have TX : Hid (BX 68 W4 pt #[.int .i64 kd, .int .i64 ta]) := TN
            obtain ⟨t0, t1, _⟩ := TN.all2
            clear TN S3
            go_wp2_with fail
            refine (picked_any kd 5 _ (by omega) (by omega) (by omega) (by omega)).mono ?_
            rintro E w9 ⟨rfl, hw⟩
            replace hw := hw.symm
            subst hw
            obtain ⟨hc0, hc5⟩ := pickF_bd kd 5 (by omega)
            generalize pickF kd 5 = c at *
            rcases (by omega : c = 0 ∨ c = 4 ∨ c = 2 ∨ c = 1 ∨ c = 3) with rfl | rfl | rfl | rfl | rfl
            · as_aux_lemma =>
                obtain ⟨sa, sc, rfl⟩ := (MlR.ownd S4.out.rS).shape
                obtain ⟨q0, q1, q2, _⟩ := S4.out.x9.all3
                clear t0 t1
                generalize (L.drop b).length = dl at *
                go_wp2_with fail
                refine (dueOne hL HLIN.out _ _ (MlR.ownd S4.out.rS)).mono ?_
                rintro E w5 ⟨y, rfl, ho, hb⟩
                have S5 : Hid (LSt w q7 q9 q10 B w5 (b : Int) (k : Int) (.slice sa dl sc) u15 u16 u17 (L.drop b) ps ks (L.take k)) := S4.out.below hb
                have OY : Hid (PkR w5 y (dueF 1 (b : Int) (L.drop b))) := PkR.ownd ho
                obtain ⟨ya, yc, rfl⟩ := (PkR.ownd ho).shape
                have HDL : Hid ((dueF 1 (b : Int) (L.drop b)).length ≤ 4) := by show List.length _ ≤ 4; rw [dueF_len]; omega
                have hdl := HDL.out
                clear ho hb q0 q1 q2 S4 TX
                go_wp2_with (at_builtin; refine wpList_append_rowK kP rfl _ _ rfl B _ ps rfl S5.out.rP _ (dueF 1 (b : Int) (L.drop b)) rfl OY.out ?d1 ?d2 S5.out.hB ?_)
                case d1 => simp [kP]; omega
                case d2 => unfold maxLen; omega
                intro v6 w6 ho6 _ hg6
                have S6 : Hid (LSt w q7 q9 q10 B w6 (b : Int) (k : Int) (.slice sa dl sc) v6 u16 u17 (L.drop b) (ps ++ dueF 1 (b : Int) (L.drop b)) ks (L.take k)) := S5.out.packs (by simpa [kP] using ho6) hg6
                clear ho6 hg6 S5 OY
                go_wp2_with fail
                go_roundw
                case rel => exact ⟨n + 1, b, k, _, ps ++ dueF 1 (b : Int) (L.drop b), ks, by omega, by go_num, by rw [List.length_append]; have := HDL.out; omega, by omega, HLIN.out.due, Tl.early (by omega), S6.out⟩
                case measure => simp [intOf]; omega
            · as_aux_lemma =>
                clear t0 t1
                go_wp2_with fail
                go_roundw
                case rel => exact ⟨n + 1, b, k, _, [], [], by omega, by go_num, by simp, by simp, HLIN.out.lost, Tl.early (by omega), S4.out.lost⟩
                case measure => simp [intOf]; omega
            · as_aux_lemma =>
                obtain ⟨aa, ac, rfl⟩ := (MlR.owndA S4.out.rA).shape
                clear t0 t1
                go_wp2_with fail
                go_loopw [30] (fun i wr => ∃ (c b2 : Nat) (vS2 : Value), c ≤ 1 ∧ i = .int .i64 c ∧ b ≤ b2 ∧ Lin L b2 k ps ks ∧ BX 68 wr pt #[.int .i64 kd, .int .i64 ta] ∧ LSt w q7 q9 q10 B wr (b2 : Int) (k : Int) vS2 u15 (.slice aa ks.length ac) u17 (L.drop b2) ps ks (L.take k)) (fun i _ => 1 - (intOf i).toNat)
                case atStart => exact ⟨0, b, vS, by omega, rfl, by omega, HLIN.out, TX.out, S4.out⟩
                case round =>
                  obtain ⟨c, b2, vS2, hc, rfl, hbb, hlin2, htx, hst⟩ := hrel
                  have S5 : Hid (LSt w q7 q9 q10 B wr (b2 : Int) (k : Int) vS2 u15 (.slice aa ks.length ac) u17 (L.drop b2) ps ks (L.take k)) := hst
                  have TX5 : Hid (BX 68 wr pt #[.int .i64 kd, .int .i64 ta]) := htx
                  have HL5 : Hid (Lin L b2 k ps ks) := hlin2
                  clear hst htx hlin2 S4 TX
                  by_cases hcN : c < 1
                  · by_cases hps0 : 0 < ks.length
                    · have d5 : (c : Int) < (1 : Int) := by omega
                      have d6 : (0 : Int) < (ks.length : Int) := by omega
                      obtain ⟨t0, t1, _⟩ := TX5.out.all2
                      go_wp2_with fail
                      refine (picked_any ta (ks.length : Int) _ (by omega) (by omega) (by omega) (by omega)).mono ?_
                      rintro E w9 ⟨rfl, hw⟩
                      replace hw := hw.symm
                      subst hw
                      obtain ⟨hp0, hp1⟩ := pickF_bd ta (ks.length : Int) (by omega)
                      generalize pickF ta (ks.length : Int) = pi at *
                      obtain ⟨at0, rfl⟩ := Int.eq_ofNat_of_zero_le hp0
                      obtain ⟨xb, xo, cap', e1, _, _, lb, hv⟩ := MlR.at (MlR.owndA S5.out.rA) hps0
                      injection e1 with e1 _ e3
                      subst e1 e3
                      obtain ⟨x, hx⟩ := getX (es := ks) (i := at0) (by omega)
                      obtain ⟨j, rfl, hj⟩ := HL5.out.ak x (List.mem_of_getElem? hx)
                      obtain ⟨c1, c2⟩ := hv at0 _ hx
                      obtain ⟨sa, sc, rfl⟩ := (MlR.ownd S5.out.rS).shape
                      have p0 : (0 : Int) ≤ (at0 : Int) := by omega
                      have p1 : (at0 : Int) < (ks.length : Int) := by omega
                      have HL6 : Hid (Lin L (max b2 j) k ps ks) := HL5.out.ack hj
                      have hm1 : b2 ≤ max b2 j := by omega
                      have CC : Hid (∀ X, Below wr.heap.size wr X → Calls Try.prog 18 #[.agg #[.int .i64 1, .int .i64 (b2 : Int), .slice sa (L.drop b2).length sc], .agg #[.int .i64 1, .int .i64 (j : Int)]] X fun E w' => ∃ u, E = .returned u ∧ (∃ y, u = .tuple #[.agg #[.int .i64 1, .int .i64 ((max b2 j : Nat) : Int), y], .int .i64 0] ∧ w'.ownsRow X.heap.size 33 2 y (L.drop (max b2 j)).length ((L.drop (max b2 j)).flatMap encM) ∧ Below X.heap.size X w')) := fun X hX => ackOne hL HL5.out hj _ X ((MlR.ownd S5.out.rS).below hX (Nat.le_refl _))
                      generalize max b2 j = b3 at *
                      have hshape : ∀ (W : World) (y : Value), W.ownsRow wr.heap.size 33 2 y (L.drop b3).length ((L.drop b3).flatMap encM) → ∃ ya yc, y = .slice ya (L.drop b3).length yc := fun W y h => (MlR.ownd h).shape
                      obtain ⟨dl3, hdl3⟩ : ∃ dl3, (L.drop b3).length = dl3 := ⟨_, rfl⟩
                      have HD3 : Hid ((L.drop b3).length = dl3) := hdl3
                      rw [hdl3] at CC hshape
                      clear hdl3
                      generalize (L.drop b2).length = dl at *
                      have KEEP : Hid (∀ V, Below wr.heap.size wr V → (V.cell? ⟨q9, 0, none⟩ = some (.int .i64 1) ∧ V.cell? ⟨q9, 1, none⟩ = some (.int .i64 (b2 : Int)) ∧ V.cell? ⟨q9, 2, none⟩ = some (.slice sa dl sc)) ∧ V.cell? ⟨xb, xo + at0 * 2, none⟩ = some (.int .i64 1) ∧ V.cell? ⟨xb, xo + at0 * 2 + 1, none⟩ = some (.int .i64 (j : Int))) := fun V hV => by
                        obtain ⟨h1, h2, h3, _⟩ := (S5.out.x9.below hV S5.out.x9.lt).all3
                        exact ⟨⟨h1, h2, h3⟩, (hV.cell (p := ⟨xb, xo + at0 * 2, none⟩) lb).trans c1, (hV.cell (p := ⟨xb, xo + at0 * 2 + 1, none⟩) lb).trans c2⟩
                      clear hv hx c1 c2
                      go_upto_region 55 with fail
                      clear t0 t1
                      apply Hid.cut
                      case h =>
                        intro HG
                        have B0 : Below wr.heap.size wr wr.drew := (Below.refl _ _).drew
                        have HS0 : Hid ((wr.drew.cell? ⟨q9, 0, none⟩ = some (.int .i64 1) ∧ wr.drew.cell? ⟨q9, 1, none⟩ = some (.int .i64 (b2 : Int)) ∧ wr.drew.cell? ⟨q9, 2, none⟩ = some (.slice sa dl sc)) ∧ wr.drew.cell? ⟨xb, xo + at0 * 2, none⟩ = some (.int .i64 1) ∧ wr.drew.cell? ⟨xb, xo + at0 * 2 + 1, none⟩ = some (.int .i64 (j : Int))) := KEEP.out wr.drew B0
                        refine wp_region_held (S := fun V => (V.cell? ⟨q9, 0, none⟩ = some (.int .i64 1) ∧ V.cell? ⟨q9, 1, none⟩ = some (.int .i64 (b2 : Int)) ∧ V.cell? ⟨q9, 2, none⟩ = some (.slice sa dl sc)) ∧ V.cell? ⟨xb, xo + at0 * 2, none⟩ = some (.int .i64 1) ∧ V.cell? ⟨xb, xo + at0 * 2 + 1, none⟩ = some (.int .i64 (j : Int))) (by kernel_rfl) ?_
                        simp only [List.size_toArray, List.length_cons, List.length_nil, Nat.reduceAdd]
                        refine takeH (i := 0) (v := .agg #[.int .i64 1, .int .i64 (b2 : Int), .slice sa dl sc]) (d := 181) rfl rfl (by kernel_rfl) (by kernel_rfl) (by kernel_rfl) (fun _ _ _ h => h) (by rfl) (fun V hV => by obtain ⟨⟨v1, v2, v3⟩, v4, v5⟩ := hV; go_simp) HS0.out ?_
                        simp only [Act.put, List.setIfInBounds_toArray, List.set_cons_zero, List.set_cons_succ]
                        refine takeH (i := 1) (v := .slice (some ⟨xb, xo, none⟩) ks.length ac) (d := 182) rfl rfl (by kernel_rfl) (by kernel_rfl) (by kernel_rfl) (fun _ _ _ h => h) (by rfl) (fun V hV => by obtain ⟨⟨v1, v2, v3⟩, v4, v5⟩ := hV; go_simp) HS0.out ?_
                        simp only [Act.put, List.setIfInBounds_toArray, List.set_cons_zero, List.set_cons_succ]
                        refine takeH (i := 2) (v := .int .i64 (at0 : Int)) (d := 183) rfl rfl (by kernel_rfl) (by kernel_rfl) (by kernel_rfl) (fun _ _ _ h => h) (by rfl) (fun V hV => by obtain ⟨⟨v1, v2, v3⟩, v4, v5⟩ := hV; go_simp) HS0.out ?_
                        simp only [Act.put, List.setIfInBounds_toArray, List.set_cons_zero, List.set_cons_succ]
                        refine takeH (i := 3) (v := .pointer (some ⟨xb, xo + at0 * 2, none⟩)) (d := 184) rfl rfl (by kernel_rfl) (by kernel_rfl) (by kernel_rfl) (fun _ _ _ h => h) (by rfl) (fun V hV => by obtain ⟨⟨v1, v2, v3⟩, v4, v5⟩ := hV; go_simp) HS0.out ?_
                        simp only [Act.put, List.setIfInBounds_toArray, List.set_cons_zero, List.set_cons_succ]
                        refine takeH (i := 4) (v := .agg #[.int .i64 1, .int .i64 (j : Int)]) (d := 185) rfl rfl (by kernel_rfl) (by kernel_rfl) (by kernel_rfl) (fun _ _ _ h => h) (by rfl) (fun V hV => by obtain ⟨⟨v1, v2, v3⟩, v4, v5⟩ := hV; go_simp) HS0.out ?_
                        simp only [Act.put, List.setIfInBounds_toArray, List.set_cons_zero, List.set_cons_succ]
                        refine twoH (i := 5) (j := 9) rfl rfl (by kernel_rfl) rfl rfl ?way1call ?way1s
                        case way1call =>
                          refine call_gets (d := 186) (f := 18) (xs := #[.tmp 181, .tmp 185]) (ats := #[24, 44]) rfl rfl eack (vs := #[.agg #[.int .i64 1, .int .i64 (b2 : Int), .slice sa dl sc], .agg #[.int .i64 1, .int .i64 (j : Int)]]) (by simp [Act.eval]) (CC.out _ B0) ?_
                          rintro vr wc1 ⟨yv, rfl, ho, hb⟩
                          have bc1 : Below wr.heap.size wr wc1 := B0.trans (hb.mono B0.size)
                          have OC : Hid (wc1.ownsRow wr.heap.size 33 2 (yv) dl3 ((L.drop b3).flatMap encM)) := own_lower ho B0.size
                          obtain ⟨ya, yc, rfl⟩ := hshape _ _ OC.out
                          have HS1 : Hid ((wc1.cell? ⟨q9, 0, none⟩ = some (.int .i64 1) ∧ wc1.cell? ⟨q9, 1, none⟩ = some (.int .i64 (b2 : Int)) ∧ wc1.cell? ⟨q9, 2, none⟩ = some (.slice sa dl sc)) ∧ wc1.cell? ⟨xb, xo + at0 * 2, none⟩ = some (.int .i64 1) ∧ wc1.cell? ⟨xb, xo + at0 * 2 + 1, none⟩ = some (.int .i64 (j : Int))) := KEEP.out wc1 bc1
                          clear ho hb
                          refine ⟨HS1.out, ?_⟩
                          simp only [Act.put, List.setIfInBounds_toArray, List.set_cons_zero, List.set_cons_succ]
                          refine takeH (i := 6) (v := .tuple #[.agg #[.int .i64 1, .int .i64 (b3 : Int), .slice ya dl3 yc], .int .i64 0]) (d := 180) rfl rfl (by kernel_rfl) (by kernel_rfl) (by kernel_rfl) (fun _ _ _ h => h) (by rfl) (fun V hV => by obtain ⟨⟨v1, v2, v3⟩, v4, v5⟩ := hV; go_simp) HS1.out ?_
                          simp only [Act.put, List.setIfInBounds_toArray, List.set_cons_zero, List.set_cons_succ]
                          refine takeH (i := 7) (v := .agg #[.int .i64 1, .int .i64 (b3 : Int), .slice ya dl3 yc]) (d := 187) rfl rfl (by kernel_rfl) (by kernel_rfl) (by kernel_rfl) (fun _ _ _ h => h) (by rfl) (fun V hV => by obtain ⟨⟨v1, v2, v3⟩, v4, v5⟩ := hV; go_simp) HS1.out ?_
                          simp only [Act.put, List.setIfInBounds_toArray, List.set_cons_zero, List.set_cons_succ]
                          refine takeH (i := 8) (v := .int .i64 0) (d := 188) rfl rfl (by kernel_rfl) (by kernel_rfl) (by kernel_rfl) (fun _ _ _ h => h) (by rfl) (fun V hV => by obtain ⟨⟨v1, v2, v3⟩, v4, v5⟩ := hV; go_simp) HS1.out ?_
                          simp only [Act.put, List.setIfInBounds_toArray, List.set_cons_zero, List.set_cons_succ]
                          refine oneH (i := 9) rfl (by kernel_rfl) rfl (op_run (d := 32) (v' := .pointer (some ⟨wc1.heap.size, 0, none⟩)) (w' := wc1.alloc (.cells #[.int .i64 0, .int .i64 0, .slice none 0 0] 24)) rfl (by go_simp) ⟨KEEP.out _ (bc1.alloc bc1.size _), ?_⟩)
                          simp only [Act.put, List.setIfInBounds_toArray, List.set_cons_zero, List.set_cons_succ]
                          have X_s : Hid (BX 24 (wc1.alloc (.cells #[.int .i64 0, .int .i64 0, .slice none 0 0] 24)) (wc1.heap.size) #[.int .i64 0, .int .i64 0, .slice none 0 0]) := BX.new _ _ _
                          have L_s : Hid (wr.heap.size ≤ wc1.heap.size) := bc1.size
                          have bc2 : Below wr.heap.size wr (wc1.alloc (.cells #[.int .i64 0, .int .i64 0, .slice none 0 0] 24)) := bc1.alloc bc1.size _
                          have HS2 : Hid (((wc1.alloc (.cells #[.int .i64 0, .int .i64 0, .slice none 0 0] 24)).cell? ⟨q9, 0, none⟩ = some (.int .i64 1) ∧ (wc1.alloc (.cells #[.int .i64 0, .int .i64 0, .slice none 0 0] 24)).cell? ⟨q9, 1, none⟩ = some (.int .i64 (b2 : Int)) ∧ (wc1.alloc (.cells #[.int .i64 0, .int .i64 0, .slice none 0 0] 24)).cell? ⟨q9, 2, none⟩ = some (.slice sa dl sc)) ∧ (wc1.alloc (.cells #[.int .i64 0, .int .i64 0, .slice none 0 0] 24)).cell? ⟨xb, xo + at0 * 2, none⟩ = some (.int .i64 1) ∧ (wc1.alloc (.cells #[.int .i64 0, .int .i64 0, .slice none 0 0] 24)).cell? ⟨xb, xo + at0 * 2 + 1, none⟩ = some (.int .i64 (j : Int))) := KEEP.out _ bc2
                          replace OC : Hid ((wc1.alloc (.cells #[.int .i64 0, .int .i64 0, .slice none 0 0] 24)).ownsRow wr.heap.size 33 2 (.slice ya dl3 yc) dl3 ((L.drop b3).flatMap encM)) := OC.out.alloc _
                          generalize wc1.alloc (.cells #[.int .i64 0, .int .i64 0, .slice none 0 0] 24) = wa2 at *
                          obtain ⟨n0, n1, n2, n3, n4, n5⟩ := X_s.out.all3
                          have bd0 : Below wr.heap.size wr (put3 wa2 (wc1.heap.size) (.int .i64 1) (.int .i64 (b3 : Int)) (.slice ya dl3 yc)) := below_put3 bc2 L_s.out _ _ _
                          have HT0 : Hid (((put3 wa2 (wc1.heap.size) (.int .i64 1) (.int .i64 (b3 : Int)) (.slice ya dl3 yc)).cell? ⟨q9, 0, none⟩ = some (.int .i64 1) ∧ (put3 wa2 (wc1.heap.size) (.int .i64 1) (.int .i64 (b3 : Int)) (.slice ya dl3 yc)).cell? ⟨q9, 1, none⟩ = some (.int .i64 (b2 : Int)) ∧ (put3 wa2 (wc1.heap.size) (.int .i64 1) (.int .i64 (b3 : Int)) (.slice ya dl3 yc)).cell? ⟨q9, 2, none⟩ = some (.slice sa dl sc)) ∧ (put3 wa2 (wc1.heap.size) (.int .i64 1) (.int .i64 (b3 : Int)) (.slice ya dl3 yc)).cell? ⟨xb, xo + at0 * 2, none⟩ = some (.int .i64 1) ∧ (put3 wa2 (wc1.heap.size) (.int .i64 1) (.int .i64 (b3 : Int)) (.slice ya dl3 yc)).cell? ⟨xb, xo + at0 * 2 + 1, none⟩ = some (.int .i64 (j : Int))) := KEEP.out _ bd0
                          have Y_s : Hid (BX 24 (put3 wa2 (wc1.heap.size) (.int .i64 1) (.int .i64 (b3 : Int)) (.slice ya dl3 yc)) (wc1.heap.size) #[.int .i64 1, .int .i64 (b3 : Int), .slice ya dl3 yc]) := X_s.out.put3 _ _ _
                          replace OC : Hid ((put3 wa2 (wc1.heap.size) (.int .i64 1) (.int .i64 (b3 : Int)) (.slice ya dl3 yc)).ownsRow wr.heap.size 33 2 (.slice ya dl3 yc) dl3 ((L.drop b3).flatMap encM)) := X_s.out.own3 OC.out (by decide)
                          refine oneH (i := 10) rfl (by kernel_rfl) rfl (op_skip (w' := (put3 wa2 (wc1.heap.size) (.int .i64 1) (.int .i64 (b3 : Int)) (.slice ya dl3 yc))) rfl (by unfold put3; go_simp) ⟨HT0.out, ?_⟩)
                          clear n0 n1 n2 n3 n4 n5 X_s
                          generalize put3 wa2 (wc1.heap.size) (.int .i64 1) (.int .i64 (b3 : Int)) (.slice ya dl3 yc) = wp3_0 at *
                          refine takeH (i := 11) (v := .int .i64 0) (d := 33) rfl rfl (by kernel_rfl) (by kernel_rfl) (by kernel_rfl) (fun _ _ _ h => h) (by rfl) (fun V hV => by obtain ⟨⟨v1, v2, v3⟩, v4, v5⟩ := hV; go_simp) HT0.out ?_
                          simp only [Act.put, List.setIfInBounds_toArray, List.set_cons_zero, List.set_cons_succ]
                          refine wpAnyH_done (by kernel_rfl) ?_ _
                          have FB : Hid (Below wr.heap.size wr wp3_0) := bd0
                          clear bc1 HS1 bc2 HS2 bd0 HT0
                          generalize wc1.heap.size = pb_s at *
                          revert L_s
                          revert FB
                          revert OC
                          revert Y_s
                          revert wp3_0
                          revert pb_s
                          revert yc
                          revert ya
                          exact HG.out
                        case way1s =>
                          refine op_run (d := 32) (v' := .pointer (some ⟨wr.heap.size, 0, none⟩)) (w' := wr.drew.alloc (.cells #[.int .i64 0, .int .i64 0, .slice none 0 0] 24)) rfl (by go_simp) ⟨KEEP.out _ (B0.alloc B0.size _), ?_⟩
                          simp only [Act.put, List.setIfInBounds_toArray, List.set_cons_zero, List.set_cons_succ]
                          have X_s : Hid (BX 24 (wr.drew.alloc (.cells #[.int .i64 0, .int .i64 0, .slice none 0 0] 24)) (wr.heap.size) #[.int .i64 0, .int .i64 0, .slice none 0 0]) := BX.new _ _ _
                          have L_s : Hid (wr.heap.size ≤ wr.heap.size) := Nat.le_refl _
                          have bc1 : Below wr.heap.size wr (wr.drew.alloc (.cells #[.int .i64 0, .int .i64 0, .slice none 0 0] 24)) := B0.alloc B0.size _
                          have HS1 : Hid (((wr.drew.alloc (.cells #[.int .i64 0, .int .i64 0, .slice none 0 0] 24)).cell? ⟨q9, 0, none⟩ = some (.int .i64 1) ∧ (wr.drew.alloc (.cells #[.int .i64 0, .int .i64 0, .slice none 0 0] 24)).cell? ⟨q9, 1, none⟩ = some (.int .i64 (b2 : Int)) ∧ (wr.drew.alloc (.cells #[.int .i64 0, .int .i64 0, .slice none 0 0] 24)).cell? ⟨q9, 2, none⟩ = some (.slice sa dl sc)) ∧ (wr.drew.alloc (.cells #[.int .i64 0, .int .i64 0, .slice none 0 0] 24)).cell? ⟨xb, xo + at0 * 2, none⟩ = some (.int .i64 1) ∧ (wr.drew.alloc (.cells #[.int .i64 0, .int .i64 0, .slice none 0 0] 24)).cell? ⟨xb, xo + at0 * 2 + 1, none⟩ = some (.int .i64 (j : Int))) := KEEP.out _ bc1
                          generalize wr.drew.alloc (.cells #[.int .i64 0, .int .i64 0, .slice none 0 0] 24) = wa1 at *
                          refine oneH (i := 5) rfl (by kernel_rfl) rfl (call_gets (d := 186) (f := 18) (xs := #[.tmp 181, .tmp 185]) (ats := #[24, 44]) rfl rfl eack (vs := #[.agg #[.int .i64 1, .int .i64 (b2 : Int), .slice sa dl sc], .agg #[.int .i64 1, .int .i64 (j : Int)]]) (by simp [Act.eval]) (CC.out _ bc1) ?_)
                          rintro vr wc2 ⟨yv, rfl, ho, hb⟩
                          have bc2 : Below wr.heap.size wr wc2 := bc1.trans (hb.mono bc1.size)
                          have OC : Hid (wc2.ownsRow wr.heap.size 33 2 (yv) dl3 ((L.drop b3).flatMap encM)) := own_lower ho bc1.size
                          obtain ⟨ya, yc, rfl⟩ := hshape _ _ OC.out
                          have HS2 : Hid ((wc2.cell? ⟨q9, 0, none⟩ = some (.int .i64 1) ∧ wc2.cell? ⟨q9, 1, none⟩ = some (.int .i64 (b2 : Int)) ∧ wc2.cell? ⟨q9, 2, none⟩ = some (.slice sa dl sc)) ∧ wc2.cell? ⟨xb, xo + at0 * 2, none⟩ = some (.int .i64 1) ∧ wc2.cell? ⟨xb, xo + at0 * 2 + 1, none⟩ = some (.int .i64 (j : Int))) := KEEP.out wc2 bc2
                          replace X_s : Hid (BX 24 wc2 (wr.heap.size) #[.int .i64 0, .int .i64 0, .slice none 0 0]) := X_s.out.below hb X_s.out.lt
                          clear ho hb
                          refine ⟨HS2.out, ?_⟩
                          simp only [Act.put, List.setIfInBounds_toArray, List.set_cons_zero, List.set_cons_succ]
                          refine takeH (i := 6) (v := .tuple #[.agg #[.int .i64 1, .int .i64 (b3 : Int), .slice ya dl3 yc], .int .i64 0]) (d := 180) rfl rfl (by kernel_rfl) (by kernel_rfl) (by kernel_rfl) (fun _ _ _ h => h) (by rfl) (fun V hV => by obtain ⟨⟨v1, v2, v3⟩, v4, v5⟩ := hV; go_simp) HS2.out ?_
                          simp only [Act.put, List.setIfInBounds_toArray, List.set_cons_zero, List.set_cons_succ]
                          refine takeH (i := 7) (v := .agg #[.int .i64 1, .int .i64 (b3 : Int), .slice ya dl3 yc]) (d := 187) rfl rfl (by kernel_rfl) (by kernel_rfl) (by kernel_rfl) (fun _ _ _ h => h) (by rfl) (fun V hV => by obtain ⟨⟨v1, v2, v3⟩, v4, v5⟩ := hV; go_simp) HS2.out ?_
                          simp only [Act.put, List.setIfInBounds_toArray, List.set_cons_zero, List.set_cons_succ]
                          refine takeH (i := 8) (v := .int .i64 0) (d := 188) rfl rfl (by kernel_rfl) (by kernel_rfl) (by kernel_rfl) (fun _ _ _ h => h) (by rfl) (fun V hV => by obtain ⟨⟨v1, v2, v3⟩, v4, v5⟩ := hV; go_simp) HS2.out ?_
                          simp only [Act.put, List.setIfInBounds_toArray, List.set_cons_zero, List.set_cons_succ]
                          obtain ⟨n0, n1, n2, n3, n4, n5⟩ := X_s.out.all3
                          have bd0 : Below wr.heap.size wr (put3 wc2 (wr.heap.size) (.int .i64 1) (.int .i64 (b3 : Int)) (.slice ya dl3 yc)) := below_put3 bc2 L_s.out _ _ _
                          have HT0 : Hid (((put3 wc2 (wr.heap.size) (.int .i64 1) (.int .i64 (b3 : Int)) (.slice ya dl3 yc)).cell? ⟨q9, 0, none⟩ = some (.int .i64 1) ∧ (put3 wc2 (wr.heap.size) (.int .i64 1) (.int .i64 (b3 : Int)) (.slice ya dl3 yc)).cell? ⟨q9, 1, none⟩ = some (.int .i64 (b2 : Int)) ∧ (put3 wc2 (wr.heap.size) (.int .i64 1) (.int .i64 (b3 : Int)) (.slice ya dl3 yc)).cell? ⟨q9, 2, none⟩ = some (.slice sa dl sc)) ∧ (put3 wc2 (wr.heap.size) (.int .i64 1) (.int .i64 (b3 : Int)) (.slice ya dl3 yc)).cell? ⟨xb, xo + at0 * 2, none⟩ = some (.int .i64 1) ∧ (put3 wc2 (wr.heap.size) (.int .i64 1) (.int .i64 (b3 : Int)) (.slice ya dl3 yc)).cell? ⟨xb, xo + at0 * 2 + 1, none⟩ = some (.int .i64 (j : Int))) := KEEP.out _ bd0
                          have Y_s : Hid (BX 24 (put3 wc2 (wr.heap.size) (.int .i64 1) (.int .i64 (b3 : Int)) (.slice ya dl3 yc)) (wr.heap.size) #[.int .i64 1, .int .i64 (b3 : Int), .slice ya dl3 yc]) := X_s.out.put3 _ _ _
                          replace OC : Hid ((put3 wc2 (wr.heap.size) (.int .i64 1) (.int .i64 (b3 : Int)) (.slice ya dl3 yc)).ownsRow wr.heap.size 33 2 (.slice ya dl3 yc) dl3 ((L.drop b3).flatMap encM)) := X_s.out.own3 OC.out (by decide)
                          refine oneH (i := 10) rfl (by kernel_rfl) rfl (op_skip (w' := (put3 wc2 (wr.heap.size) (.int .i64 1) (.int .i64 (b3 : Int)) (.slice ya dl3 yc))) rfl (by unfold put3; go_simp) ⟨HT0.out, ?_⟩)
                          clear n0 n1 n2 n3 n4 n5 X_s
                          generalize put3 wc2 (wr.heap.size) (.int .i64 1) (.int .i64 (b3 : Int)) (.slice ya dl3 yc) = wp3_0 at *
                          refine takeH (i := 11) (v := .int .i64 0) (d := 33) rfl rfl (by kernel_rfl) (by kernel_rfl) (by kernel_rfl) (fun _ _ _ h => h) (by rfl) (fun V hV => by obtain ⟨⟨v1, v2, v3⟩, v4, v5⟩ := hV; go_simp) HT0.out ?_
                          simp only [Act.put, List.setIfInBounds_toArray, List.set_cons_zero, List.set_cons_succ]
                          refine wpAnyH_done (by kernel_rfl) ?_ _
                          have FB : Hid (Below wr.heap.size wr wp3_0) := bd0
                          exact HG.out ya yc (wr.heap.size) wp3_0 Y_s OC FB L_s
                      case g =>
                        intro ya yc pr X FX FO FB NL
                        have S6 : Hid (LSt w q7 q9 q10 B X (b2 : Int) (k : Int) (.slice sa dl sc) u15 (.slice (some ⟨xb, xo, none⟩) ks.length ac) u17 (L.drop b2) ps ks (L.take k)) := S5.out.below FB.out
                        have hqt : pt ≠ q9 := by have h1 := hpt.out; have h3 := S5.out.oB; have h4 := S5.out.o10; omega
                        have FO2 : Hid (X.ownsRow wr.heap.size 33 2 (.slice ya dl3 yc) (L.drop b3).length ((L.drop b3).flatMap encM)) := by
                          show World.ownsRow _ _ _ _ _ _ _
                          rw [HD3.out]; exact FO.out
                        have S7 : Hid (LSt w q7 q9 q10 B (put3 X q9 (.int .i64 1) (.int .i64 (b3 : Int)) (.slice ya dl3 yc)) (b3 : Int) (k : Int) (.slice ya dl3 yc) u15 (.slice (some ⟨xb, xo, none⟩) ks.length ac) u17 (L.drop b3) ps ks (L.take k)) := S6.out.sends (own_lower FO2.out S5.out.hB) (S5.out.newRow (Nat.le_refl _) FO2.out)
                        have TX7 : Hid (BX 68 (put3 X q9 (.int .i64 1) (.int .i64 (b3 : Int)) (.slice ya dl3 yc)) pt #[.int .i64 kd, .int .i64 ta]) := (TX5.out.below FB.out TX5.out.lt).off3 hqt
                        obtain ⟨f0, f1, f2, _⟩ := FX.out.all3
                        obtain ⟨z0, z1, z2, z3, z4, z5⟩ := S6.out.x9.all3
                        clear KEEP CC FX FO FO2 FB S6 S5 TX5 hshape
                        go_wp2_with fail
                        go_roundw
                        case rel => exact ⟨c + 1, b3, _, by omega, by go_num, by omega, HL6.out, TX7.out, S7.out⟩
                        case measure => simp [intOf]; omega
                    · have d5 : ¬ (0 : Int) < (ks.length : Int) := by omega
                      have TL6 : Hid (Tl L ts.length (n + 1) b2 k ps ks) := Tl.early (by omega)
                      go_wp2_with fail
                      go_roundw
                      case rel => exact ⟨n + 1, b2, k, _, ps, ks, by omega, by go_num, by omega, by omega, HL5.out, TL6.out, S5.out⟩
                      case measure => simp [intOf]; omega
                  · have d5 : ¬ (c : Int) < (1 : Int) := by omega
                    have TL6 : Hid (Tl L ts.length (n + 1) b2 k ps ks) := Tl.early (by omega)
                    go_wp2_with fail
                    go_roundw
                    case rel => exact ⟨n + 1, b2, k, _, ps, ks, by omega, by go_num, by omega, by omega, HL5.out, TL6.out, S5.out⟩
                    case measure => simp [intOf]; omega
            all_goals
              as_aux_lemma =>
                obtain ⟨pa, pc, rfl⟩ := (PkR.ownd S4.out.rP).shape
                clear t0 t1
                go_wp2_with fail
                go_loopw [16, 17, 23] (fun u16 u17 i wr => ∃ (c k2 : Nat) (ks2 : List Ml), c ≤ 1 ∧ i = .int .i64 c ∧ ks2.length ≤ ks.length + c ∧ Lin L b k2 ps ks2 ∧ BX 68 wr pt #[.int .i64 kd, .int .i64 ta] ∧ LSt w q7 q9 q10 B wr (b : Int) (k2 : Int) vS (.slice pa ps.length pc) u16 u17 (L.drop b) ps ks2 (L.take k2)) (fun _ _ i _ => 1 - (intOf i).toNat)
                case atStart => exact ⟨0, k, ks, by omega, rfl, by omega, HLIN.out, TX.out, S4.out⟩
                case round =>
                  obtain ⟨c, k2, ks2, hc, rfl, hkl, hlin2, htx, hst⟩ := hrel
                  have S5 : Hid (LSt w q7 q9 q10 B wr (b : Int) (k2 : Int) vS (.slice pa ps.length pc) u16 u17 (L.drop b) ps ks2 (L.take k2)) := hst
                  have TX5 : Hid (BX 68 wr pt #[.int .i64 kd, .int .i64 ta]) := htx
                  have HL5 : Hid (Lin L b k2 ps ks2) := hlin2
                  have hk2 := hlin2.kn
                  clear hst htx hlin2 S4 TX
                  by_cases hcN : c < 1
                  · by_cases hps0 : 0 < ps.length
                    · have d5 : (c : Int) < (1 : Int) := by omega
                      have d6 : (0 : Int) < (ps.length : Int) := by omega
                      obtain ⟨t0, t1, _⟩ := TX5.out.all2
                      go_wp2_with fail
                      refine (picked_any ta (ps.length : Int) _ (by omega) (by omega) (by omega) (by omega)).mono ?_
                      rintro E w9 ⟨rfl, hw⟩
                      replace hw := hw.symm
                      subst hw
                      obtain ⟨hp0, hp1⟩ := pickF_bd ta (ps.length : Int) (by omega)
                      generalize pickF ta (ps.length : Int) = pi at *
                      obtain ⟨at0, rfl⟩ := Int.eq_ofNat_of_zero_le hp0
                      obtain ⟨xb, xo, cap', e1, _, _, lb, hv⟩ := PkR.at (PkR.ownd S5.out.rP) hps0
                      injection e1 with e1 _ e3
                      subst e1 e3
                      obtain ⟨x, hx⟩ := getX (es := ps) (i := at0) (by omega)
                      obtain ⟨i, m, rfl, hm, hi⟩ := HL5.out.pk x (List.mem_of_getElem? hx)
                      have HM : Hid (L[i]? = some m) := hm
                      obtain ⟨c1, c2, c3, c4⟩ := hv at0 _ hx
                      have p0 : (0 : Int) ≤ (at0 : Int) := by omega
                      have p1 : (at0 : Int) < (ps.length : Int) := by omega
                      have KEEP : Hid (∀ V, Below wr.heap.size wr V → (V.cell? ⟨q10, 0, none⟩ = some (.int .i64 1) ∧ V.cell? ⟨q10, 1, none⟩ = some (.int .i64 (k2 : Int))) ∧ (V.cell? ⟨xb, xo + at0 * 4, none⟩ = some (.int .i64 1) ∧ V.cell? ⟨xb, xo + at0 * 4 + 1, none⟩ = some (.int .i64 (i : Int))) ∧ V.cell? ⟨xb, xo + at0 * 4 + 2, none⟩ = some (.int .i64 m.1) ∧ V.cell? ⟨xb, xo + at0 * 4 + 3, none⟩ = some (.int .i64 m.2)) := fun V hV => by
                        obtain ⟨h1, h2, _⟩ := (S5.out.x10.below hV S5.out.x10.lt).all2
                        exact ⟨⟨h1, h2⟩, ⟨(hV.cell (p := ⟨xb, xo + at0 * 4, none⟩) lb).trans c1, (hV.cell (p := ⟨xb, xo + at0 * 4 + 1, none⟩) lb).trans c2⟩, (hV.cell (p := ⟨xb, xo + at0 * 4 + 2, none⟩) lb).trans c3, (hV.cell (p := ⟨xb, xo + at0 * 4 + 3, none⟩) lb).trans c4⟩
                      have CC : Hid (∀ X, Below wr.heap.size wr X → Calls Try.prog 20 #[.agg #[.int .i64 1, .int .i64 (k2 : Int)], .agg #[.int .i64 1, .int .i64 (i : Int), .int .i64 m.1, .int .i64 m.2]] X fun E w' => ∃ u, E = .returned u ∧ (∃ y, u = .tuple #[.agg #[.int .i64 1, .int .i64 ((wantF k2 i : Nat) : Int)], y, .agg #[.int .i64 1, .int .i64 ((wantF k2 i : Nat) : Int)], .int .i64 0] ∧ w'.ownsRow X.heap.size 33 2 y (hearL (k2 : Int) (i : Int) m).length ((hearL (k2 : Int) (i : Int) m).flatMap encM) ∧ Below X.heap.size X w')) := fun X _ => hearOne (by omega) X
                      clear hv hx hm c1 c2 c3 c4
                      go_upto_region 39 with fail
                      clear t0 t1
                      apply Hid.cut
                      case h =>
                        intro HG
                        have B0 : Below wr.heap.size wr wr.drew := (Below.refl _ _).drew
                        have HS0 : Hid ((wr.drew.cell? ⟨q10, 0, none⟩ = some (.int .i64 1) ∧ wr.drew.cell? ⟨q10, 1, none⟩ = some (.int .i64 (k2 : Int))) ∧ (wr.drew.cell? ⟨xb, xo + at0 * 4, none⟩ = some (.int .i64 1) ∧ wr.drew.cell? ⟨xb, xo + at0 * 4 + 1, none⟩ = some (.int .i64 (i : Int))) ∧ wr.drew.cell? ⟨xb, xo + at0 * 4 + 2, none⟩ = some (.int .i64 m.1) ∧ wr.drew.cell? ⟨xb, xo + at0 * 4 + 3, none⟩ = some (.int .i64 m.2)) := KEEP.out wr.drew B0
                        refine wp_region_held (S := fun V => (V.cell? ⟨q10, 0, none⟩ = some (.int .i64 1) ∧ V.cell? ⟨q10, 1, none⟩ = some (.int .i64 (k2 : Int))) ∧ (V.cell? ⟨xb, xo + at0 * 4, none⟩ = some (.int .i64 1) ∧ V.cell? ⟨xb, xo + at0 * 4 + 1, none⟩ = some (.int .i64 (i : Int))) ∧ V.cell? ⟨xb, xo + at0 * 4 + 2, none⟩ = some (.int .i64 m.1) ∧ V.cell? ⟨xb, xo + at0 * 4 + 3, none⟩ = some (.int .i64 m.2)) (by kernel_rfl) ?_
                        simp only [List.size_toArray, List.length_cons, List.length_nil, Nat.reduceAdd]
                        refine takeH (i := 0) (v := .agg #[.int .i64 1, .int .i64 (k2 : Int)]) (d := 131) rfl rfl (by kernel_rfl) (by kernel_rfl) (by kernel_rfl) (fun _ _ _ h => h) (by rfl) (fun V hV => by obtain ⟨⟨v1, v2⟩, ⟨v3, v4⟩, v5, v6⟩ := hV; go_simp) HS0.out ?_
                        simp only [Act.put, List.setIfInBounds_toArray, List.set_cons_zero, List.set_cons_succ]
                        refine takeH (i := 1) (v := .slice (some ⟨xb, xo, none⟩) ps.length pc) (d := 132) rfl rfl (by kernel_rfl) (by kernel_rfl) (by kernel_rfl) (fun _ _ _ h => h) (by rfl) (fun V hV => by obtain ⟨⟨v1, v2⟩, ⟨v3, v4⟩, v5, v6⟩ := hV; go_simp) HS0.out ?_
                        simp only [Act.put, List.setIfInBounds_toArray, List.set_cons_zero, List.set_cons_succ]
                        refine takeH (i := 2) (v := .int .i64 (at0 : Int)) (d := 133) rfl rfl (by kernel_rfl) (by kernel_rfl) (by kernel_rfl) (fun _ _ _ h => h) (by rfl) (fun V hV => by obtain ⟨⟨v1, v2⟩, ⟨v3, v4⟩, v5, v6⟩ := hV; go_simp) HS0.out ?_
                        simp only [Act.put, List.setIfInBounds_toArray, List.set_cons_zero, List.set_cons_succ]
                        refine takeH (i := 3) (v := .pointer (some ⟨xb, xo + at0 * 4, none⟩)) (d := 134) rfl rfl (by kernel_rfl) (by kernel_rfl) (by kernel_rfl) (fun _ _ _ h => h) (by rfl) (fun V hV => by obtain ⟨⟨v1, v2⟩, ⟨v3, v4⟩, v5, v6⟩ := hV; go_simp) HS0.out ?_
                        simp only [Act.put, List.setIfInBounds_toArray, List.set_cons_zero, List.set_cons_succ]
                        refine takeH (i := 4) (v := .agg #[.int .i64 1, .int .i64 (i : Int), .int .i64 m.1, .int .i64 m.2]) (d := 135) rfl rfl (by kernel_rfl) (by kernel_rfl) (by kernel_rfl) (fun _ _ _ h => h) (by rfl) (fun V hV => by obtain ⟨⟨v1, v2⟩, ⟨v3, v4⟩, v5, v6⟩ := hV; go_simp) HS0.out ?_
                        simp only [Act.put, List.setIfInBounds_toArray, List.set_cons_zero, List.set_cons_succ]
                        refine threeH (i := 5) (j := 11) (m := 12) rfl rfl rfl (by kernel_rfl) rfl rfl rfl ?way1call ?way1r ?way1a
                        case way1call =>
                          refine call_gets (d := 136) (f := 20) (xs := #[.tmp 131, .tmp 135]) (ats := #[26, 48]) rfl rfl ehear (vs := #[.agg #[.int .i64 1, .int .i64 (k2 : Int)], .agg #[.int .i64 1, .int .i64 (i : Int), .int .i64 m.1, .int .i64 m.2]]) (by simp [Act.eval]) (CC.out _ B0) ?_
                          rintro vr wc1 ⟨yv, rfl, ho, hb⟩
                          have bc1 : Below wr.heap.size wr wc1 := B0.trans (hb.mono B0.size)
                          have OC : Hid (wc1.ownsRow wr.heap.size 33 2 (yv) (hearL (k2 : Int) (i : Int) m).length ((hearL (k2 : Int) (i : Int) m).flatMap encM)) := own_lower ho B0.size
                          obtain ⟨ya, yc, rfl⟩ := (MlR.ownd OC.out).shape
                          have HS1 : Hid ((wc1.cell? ⟨q10, 0, none⟩ = some (.int .i64 1) ∧ wc1.cell? ⟨q10, 1, none⟩ = some (.int .i64 (k2 : Int))) ∧ (wc1.cell? ⟨xb, xo + at0 * 4, none⟩ = some (.int .i64 1) ∧ wc1.cell? ⟨xb, xo + at0 * 4 + 1, none⟩ = some (.int .i64 (i : Int))) ∧ wc1.cell? ⟨xb, xo + at0 * 4 + 2, none⟩ = some (.int .i64 m.1) ∧ wc1.cell? ⟨xb, xo + at0 * 4 + 3, none⟩ = some (.int .i64 m.2)) := KEEP.out wc1 bc1
                          clear ho hb
                          refine ⟨HS1.out, ?_⟩
                          simp only [Act.put, List.setIfInBounds_toArray, List.set_cons_zero, List.set_cons_succ]
                          refine takeH (i := 6) (v := .tuple #[.agg #[.int .i64 1, .int .i64 ((wantF k2 i : Nat) : Int)], .slice ya (hearL (k2 : Int) (i : Int) m).length yc, .agg #[.int .i64 1, .int .i64 ((wantF k2 i : Nat) : Int)], .int .i64 0]) (d := 130) rfl rfl (by kernel_rfl) (by kernel_rfl) (by kernel_rfl) (fun _ _ _ h => h) (by rfl) (fun V hV => by obtain ⟨⟨v1, v2⟩, ⟨v3, v4⟩, v5, v6⟩ := hV; go_simp) HS1.out ?_
                          simp only [Act.put, List.setIfInBounds_toArray, List.set_cons_zero, List.set_cons_succ]
                          refine takeH (i := 7) (v := .agg #[.int .i64 1, .int .i64 ((wantF k2 i : Nat) : Int)]) (d := 137) rfl rfl (by kernel_rfl) (by kernel_rfl) (by kernel_rfl) (fun _ _ _ h => h) (by rfl) (fun V hV => by obtain ⟨⟨v1, v2⟩, ⟨v3, v4⟩, v5, v6⟩ := hV; go_simp) HS1.out ?_
                          simp only [Act.put, List.setIfInBounds_toArray, List.set_cons_zero, List.set_cons_succ]
                          refine takeH (i := 8) (v := .slice ya (hearL (k2 : Int) (i : Int) m).length yc) (d := 138) rfl rfl (by kernel_rfl) (by kernel_rfl) (by kernel_rfl) (fun _ _ _ h => h) (by rfl) (fun V hV => by obtain ⟨⟨v1, v2⟩, ⟨v3, v4⟩, v5, v6⟩ := hV; go_simp) HS1.out ?_
                          simp only [Act.put, List.setIfInBounds_toArray, List.set_cons_zero, List.set_cons_succ]
                          refine takeH (i := 9) (v := .agg #[.int .i64 1, .int .i64 ((wantF k2 i : Nat) : Int)]) (d := 139) rfl rfl (by kernel_rfl) (by kernel_rfl) (by kernel_rfl) (fun _ _ _ h => h) (by rfl) (fun V hV => by obtain ⟨⟨v1, v2⟩, ⟨v3, v4⟩, v5, v6⟩ := hV; go_simp) HS1.out ?_
                          simp only [Act.put, List.setIfInBounds_toArray, List.set_cons_zero, List.set_cons_succ]
                          refine takeH (i := 10) (v := .int .i64 0) (d := 140) rfl rfl (by kernel_rfl) (by kernel_rfl) (by kernel_rfl) (fun _ _ _ h => h) (by rfl) (fun V hV => by obtain ⟨⟨v1, v2⟩, ⟨v3, v4⟩, v5, v6⟩ := hV; go_simp) HS1.out ?_
                          simp only [Act.put, List.setIfInBounds_toArray, List.set_cons_zero, List.set_cons_succ]
                          refine twoH (i := 11) (j := 12) rfl rfl (by kernel_rfl) rfl rfl ?way2r ?way2a
                          case way2r =>
                            refine op_run (d := 25) (v' := .pointer (some ⟨wc1.heap.size, 0, none⟩)) (w' := wc1.alloc (.cells #[.int .i64 0, .int .i64 0] 26)) rfl (by go_simp) ⟨KEEP.out _ (bc1.alloc bc1.size _), ?_⟩
                            simp only [Act.put, List.setIfInBounds_toArray, List.set_cons_zero, List.set_cons_succ]
                            have X_r : Hid (BX 26 (wc1.alloc (.cells #[.int .i64 0, .int .i64 0] 26)) (wc1.heap.size) #[.int .i64 0, .int .i64 0]) := BX.new _ _ _
                            have L_r : Hid (wr.heap.size ≤ wc1.heap.size) := bc1.size
                            have bc2 : Below wr.heap.size wr (wc1.alloc (.cells #[.int .i64 0, .int .i64 0] 26)) := bc1.alloc bc1.size _
                            have HS2 : Hid (((wc1.alloc (.cells #[.int .i64 0, .int .i64 0] 26)).cell? ⟨q10, 0, none⟩ = some (.int .i64 1) ∧ (wc1.alloc (.cells #[.int .i64 0, .int .i64 0] 26)).cell? ⟨q10, 1, none⟩ = some (.int .i64 (k2 : Int))) ∧ ((wc1.alloc (.cells #[.int .i64 0, .int .i64 0] 26)).cell? ⟨xb, xo + at0 * 4, none⟩ = some (.int .i64 1) ∧ (wc1.alloc (.cells #[.int .i64 0, .int .i64 0] 26)).cell? ⟨xb, xo + at0 * 4 + 1, none⟩ = some (.int .i64 (i : Int))) ∧ (wc1.alloc (.cells #[.int .i64 0, .int .i64 0] 26)).cell? ⟨xb, xo + at0 * 4 + 2, none⟩ = some (.int .i64 m.1) ∧ (wc1.alloc (.cells #[.int .i64 0, .int .i64 0] 26)).cell? ⟨xb, xo + at0 * 4 + 3, none⟩ = some (.int .i64 m.2)) := KEEP.out _ bc2
                            replace OC : Hid ((wc1.alloc (.cells #[.int .i64 0, .int .i64 0] 26)).ownsRow wr.heap.size 33 2 (.slice ya (hearL (k2 : Int) (i : Int) m).length yc) (hearL (k2 : Int) (i : Int) m).length ((hearL (k2 : Int) (i : Int) m).flatMap encM)) := OC.out.alloc _
                            generalize wc1.alloc (.cells #[.int .i64 0, .int .i64 0] 26) = wa2 at *
                            refine oneH (i := 12) rfl (by kernel_rfl) rfl (op_run (d := 27) (v' := .pointer (some ⟨wa2.heap.size, 0, none⟩)) (w' := wa2.alloc (.cells #[.int .i64 0, .int .i64 0] 44)) rfl (by go_simp) ⟨KEEP.out _ (bc2.alloc bc2.size _), ?_⟩)
                            simp only [Act.put, List.setIfInBounds_toArray, List.set_cons_zero, List.set_cons_succ]
                            have NE_r_a : (wc1.heap.size) ≠ wa2.heap.size := Nat.ne_of_lt X_r.out.lt
                            have X_a : Hid (BX 44 (wa2.alloc (.cells #[.int .i64 0, .int .i64 0] 44)) (wa2.heap.size) #[.int .i64 0, .int .i64 0]) := BX.new _ _ _
                            have L_a : Hid (wr.heap.size ≤ wa2.heap.size) := bc2.size
                            have bc3 : Below wr.heap.size wr (wa2.alloc (.cells #[.int .i64 0, .int .i64 0] 44)) := bc2.alloc bc2.size _
                            have HS3 : Hid (((wa2.alloc (.cells #[.int .i64 0, .int .i64 0] 44)).cell? ⟨q10, 0, none⟩ = some (.int .i64 1) ∧ (wa2.alloc (.cells #[.int .i64 0, .int .i64 0] 44)).cell? ⟨q10, 1, none⟩ = some (.int .i64 (k2 : Int))) ∧ ((wa2.alloc (.cells #[.int .i64 0, .int .i64 0] 44)).cell? ⟨xb, xo + at0 * 4, none⟩ = some (.int .i64 1) ∧ (wa2.alloc (.cells #[.int .i64 0, .int .i64 0] 44)).cell? ⟨xb, xo + at0 * 4 + 1, none⟩ = some (.int .i64 (i : Int))) ∧ (wa2.alloc (.cells #[.int .i64 0, .int .i64 0] 44)).cell? ⟨xb, xo + at0 * 4 + 2, none⟩ = some (.int .i64 m.1) ∧ (wa2.alloc (.cells #[.int .i64 0, .int .i64 0] 44)).cell? ⟨xb, xo + at0 * 4 + 3, none⟩ = some (.int .i64 m.2)) := KEEP.out _ bc3
                            replace X_r : Hid (BX 26 (wa2.alloc (.cells #[.int .i64 0, .int .i64 0] 44)) (wc1.heap.size) #[.int .i64 0, .int .i64 0]) := X_r.out.below (below_alloc _ _) X_r.out.lt
                            replace OC : Hid ((wa2.alloc (.cells #[.int .i64 0, .int .i64 0] 44)).ownsRow wr.heap.size 33 2 (.slice ya (hearL (k2 : Int) (i : Int) m).length yc) (hearL (k2 : Int) (i : Int) m).length ((hearL (k2 : Int) (i : Int) m).flatMap encM)) := OC.out.alloc _
                            generalize wa2.alloc (.cells #[.int .i64 0, .int .i64 0] 44) = wa3 at *
                            obtain ⟨n0, n1, n2, n3⟩ := X_r.out.all2
                            have bd0 : Below wr.heap.size wr (put2 wa3 (wc1.heap.size) (.int .i64 1) (.int .i64 ((wantF k2 i : Nat) : Int))) := below_put2 bc3 L_r.out _ _
                            have HT0 : Hid (((put2 wa3 (wc1.heap.size) (.int .i64 1) (.int .i64 ((wantF k2 i : Nat) : Int))).cell? ⟨q10, 0, none⟩ = some (.int .i64 1) ∧ (put2 wa3 (wc1.heap.size) (.int .i64 1) (.int .i64 ((wantF k2 i : Nat) : Int))).cell? ⟨q10, 1, none⟩ = some (.int .i64 (k2 : Int))) ∧ ((put2 wa3 (wc1.heap.size) (.int .i64 1) (.int .i64 ((wantF k2 i : Nat) : Int))).cell? ⟨xb, xo + at0 * 4, none⟩ = some (.int .i64 1) ∧ (put2 wa3 (wc1.heap.size) (.int .i64 1) (.int .i64 ((wantF k2 i : Nat) : Int))).cell? ⟨xb, xo + at0 * 4 + 1, none⟩ = some (.int .i64 (i : Int))) ∧ (put2 wa3 (wc1.heap.size) (.int .i64 1) (.int .i64 ((wantF k2 i : Nat) : Int))).cell? ⟨xb, xo + at0 * 4 + 2, none⟩ = some (.int .i64 m.1) ∧ (put2 wa3 (wc1.heap.size) (.int .i64 1) (.int .i64 ((wantF k2 i : Nat) : Int))).cell? ⟨xb, xo + at0 * 4 + 3, none⟩ = some (.int .i64 m.2)) := KEEP.out _ bd0
                            have Y_r : Hid (BX 26 (put2 wa3 (wc1.heap.size) (.int .i64 1) (.int .i64 ((wantF k2 i : Nat) : Int))) (wc1.heap.size) #[.int .i64 1, .int .i64 ((wantF k2 i : Nat) : Int)]) := X_r.out.put2 _ _
                            replace X_a : Hid (BX 44 (put2 wa3 (wc1.heap.size) (.int .i64 1) (.int .i64 ((wantF k2 i : Nat) : Int))) (wa2.heap.size) #[.int .i64 0, .int .i64 0]) := X_a.out.off2 NE_r_a.symm
                            replace OC : Hid ((put2 wa3 (wc1.heap.size) (.int .i64 1) (.int .i64 ((wantF k2 i : Nat) : Int))).ownsRow wr.heap.size 33 2 (.slice ya (hearL (k2 : Int) (i : Int) m).length yc) (hearL (k2 : Int) (i : Int) m).length ((hearL (k2 : Int) (i : Int) m).flatMap encM)) := X_r.out.own2 OC.out (by decide)
                            refine oneH (i := 13) rfl (by kernel_rfl) rfl (op_skip (w' := (put2 wa3 (wc1.heap.size) (.int .i64 1) (.int .i64 ((wantF k2 i : Nat) : Int)))) rfl (by unfold put2; go_simp) ⟨HT0.out, ?_⟩)
                            clear n0 n1 n2 n3 X_r
                            generalize put2 wa3 (wc1.heap.size) (.int .i64 1) (.int .i64 ((wantF k2 i : Nat) : Int)) = wp4_0 at *
                            refine takeH (i := 14) (v := .slice ya (hearL (k2 : Int) (i : Int) m).length yc) (d := 26) rfl rfl (by kernel_rfl) (by kernel_rfl) (by kernel_rfl) (fun _ _ _ h => h) (by rfl) (fun V hV => by obtain ⟨⟨v1, v2⟩, ⟨v3, v4⟩, v5, v6⟩ := hV; go_simp) HT0.out ?_
                            simp only [Act.put, List.setIfInBounds_toArray, List.set_cons_zero, List.set_cons_succ]
                            obtain ⟨n0, n1, n2, n3⟩ := X_a.out.all2
                            have bd1 : Below wr.heap.size wr (put2 wp4_0 (wa2.heap.size) (.int .i64 1) (.int .i64 ((wantF k2 i : Nat) : Int))) := below_put2 bd0 L_a.out _ _
                            have HT1 : Hid (((put2 wp4_0 (wa2.heap.size) (.int .i64 1) (.int .i64 ((wantF k2 i : Nat) : Int))).cell? ⟨q10, 0, none⟩ = some (.int .i64 1) ∧ (put2 wp4_0 (wa2.heap.size) (.int .i64 1) (.int .i64 ((wantF k2 i : Nat) : Int))).cell? ⟨q10, 1, none⟩ = some (.int .i64 (k2 : Int))) ∧ ((put2 wp4_0 (wa2.heap.size) (.int .i64 1) (.int .i64 ((wantF k2 i : Nat) : Int))).cell? ⟨xb, xo + at0 * 4, none⟩ = some (.int .i64 1) ∧ (put2 wp4_0 (wa2.heap.size) (.int .i64 1) (.int .i64 ((wantF k2 i : Nat) : Int))).cell? ⟨xb, xo + at0 * 4 + 1, none⟩ = some (.int .i64 (i : Int))) ∧ (put2 wp4_0 (wa2.heap.size) (.int .i64 1) (.int .i64 ((wantF k2 i : Nat) : Int))).cell? ⟨xb, xo + at0 * 4 + 2, none⟩ = some (.int .i64 m.1) ∧ (put2 wp4_0 (wa2.heap.size) (.int .i64 1) (.int .i64 ((wantF k2 i : Nat) : Int))).cell? ⟨xb, xo + at0 * 4 + 3, none⟩ = some (.int .i64 m.2)) := KEEP.out _ bd1
                            replace Y_r : Hid (BX 26 (put2 wp4_0 (wa2.heap.size) (.int .i64 1) (.int .i64 ((wantF k2 i : Nat) : Int))) (wc1.heap.size) #[.int .i64 1, .int .i64 ((wantF k2 i : Nat) : Int)]) := Y_r.out.off2 NE_r_a
                            have Y_a : Hid (BX 44 (put2 wp4_0 (wa2.heap.size) (.int .i64 1) (.int .i64 ((wantF k2 i : Nat) : Int))) (wa2.heap.size) #[.int .i64 1, .int .i64 ((wantF k2 i : Nat) : Int)]) := X_a.out.put2 _ _
                            replace OC : Hid ((put2 wp4_0 (wa2.heap.size) (.int .i64 1) (.int .i64 ((wantF k2 i : Nat) : Int))).ownsRow wr.heap.size 33 2 (.slice ya (hearL (k2 : Int) (i : Int) m).length yc) (hearL (k2 : Int) (i : Int) m).length ((hearL (k2 : Int) (i : Int) m).flatMap encM)) := X_a.out.own2 OC.out (by decide)
                            refine oneH (i := 15) rfl (by kernel_rfl) rfl (op_skip (w' := (put2 wp4_0 (wa2.heap.size) (.int .i64 1) (.int .i64 ((wantF k2 i : Nat) : Int)))) rfl (by unfold put2; go_simp) ⟨HT1.out, ?_⟩)
                            clear n0 n1 n2 n3 X_a
                            generalize put2 wp4_0 (wa2.heap.size) (.int .i64 1) (.int .i64 ((wantF k2 i : Nat) : Int)) = wp4_1 at *
                            refine takeH (i := 16) (v := .int .i64 0) (d := 28) rfl rfl (by kernel_rfl) (by kernel_rfl) (by kernel_rfl) (fun _ _ _ h => h) (by rfl) (fun V hV => by obtain ⟨⟨v1, v2⟩, ⟨v3, v4⟩, v5, v6⟩ := hV; go_simp) HT1.out ?_
                            simp only [Act.put, List.setIfInBounds_toArray, List.set_cons_zero, List.set_cons_succ]
                            refine wpAnyH_done (by kernel_rfl) ?_ _
                            have FB : Hid (Below wr.heap.size wr wp4_1) := bd1
                            clear bc1 HS1 bc2 HS2 NE_r_a bc3 HS3 bd0 HT0 bd1 HT1
                            generalize wc1.heap.size = pb_r at *
                            generalize wa2.heap.size = pb_a at *
                            revert L_a
                            revert L_r
                            revert FB
                            revert OC
                            revert Y_a
                            revert Y_r
                            revert wp4_1
                            revert pb_a
                            revert pb_r
                            revert yc
                            revert ya
                            exact HG.out
                          case way2a =>
                            refine op_run (d := 27) (v' := .pointer (some ⟨wc1.heap.size, 0, none⟩)) (w' := wc1.alloc (.cells #[.int .i64 0, .int .i64 0] 44)) rfl (by go_simp) ⟨KEEP.out _ (bc1.alloc bc1.size _), ?_⟩
                            simp only [Act.put, List.setIfInBounds_toArray, List.set_cons_zero, List.set_cons_succ]
                            have X_a : Hid (BX 44 (wc1.alloc (.cells #[.int .i64 0, .int .i64 0] 44)) (wc1.heap.size) #[.int .i64 0, .int .i64 0]) := BX.new _ _ _
                            have L_a : Hid (wr.heap.size ≤ wc1.heap.size) := bc1.size
                            have bc2 : Below wr.heap.size wr (wc1.alloc (.cells #[.int .i64 0, .int .i64 0] 44)) := bc1.alloc bc1.size _
                            have HS2 : Hid (((wc1.alloc (.cells #[.int .i64 0, .int .i64 0] 44)).cell? ⟨q10, 0, none⟩ = some (.int .i64 1) ∧ (wc1.alloc (.cells #[.int .i64 0, .int .i64 0] 44)).cell? ⟨q10, 1, none⟩ = some (.int .i64 (k2 : Int))) ∧ ((wc1.alloc (.cells #[.int .i64 0, .int .i64 0] 44)).cell? ⟨xb, xo + at0 * 4, none⟩ = some (.int .i64 1) ∧ (wc1.alloc (.cells #[.int .i64 0, .int .i64 0] 44)).cell? ⟨xb, xo + at0 * 4 + 1, none⟩ = some (.int .i64 (i : Int))) ∧ (wc1.alloc (.cells #[.int .i64 0, .int .i64 0] 44)).cell? ⟨xb, xo + at0 * 4 + 2, none⟩ = some (.int .i64 m.1) ∧ (wc1.alloc (.cells #[.int .i64 0, .int .i64 0] 44)).cell? ⟨xb, xo + at0 * 4 + 3, none⟩ = some (.int .i64 m.2)) := KEEP.out _ bc2
                            replace OC : Hid ((wc1.alloc (.cells #[.int .i64 0, .int .i64 0] 44)).ownsRow wr.heap.size 33 2 (.slice ya (hearL (k2 : Int) (i : Int) m).length yc) (hearL (k2 : Int) (i : Int) m).length ((hearL (k2 : Int) (i : Int) m).flatMap encM)) := OC.out.alloc _
                            generalize wc1.alloc (.cells #[.int .i64 0, .int .i64 0] 44) = wa2 at *
                            refine oneH (i := 11) rfl (by kernel_rfl) rfl (op_run (d := 25) (v' := .pointer (some ⟨wa2.heap.size, 0, none⟩)) (w' := wa2.alloc (.cells #[.int .i64 0, .int .i64 0] 26)) rfl (by go_simp) ⟨KEEP.out _ (bc2.alloc bc2.size _), ?_⟩)
                            simp only [Act.put, List.setIfInBounds_toArray, List.set_cons_zero, List.set_cons_succ]
                            have NE_a_r : (wc1.heap.size) ≠ wa2.heap.size := Nat.ne_of_lt X_a.out.lt
                            have X_r : Hid (BX 26 (wa2.alloc (.cells #[.int .i64 0, .int .i64 0] 26)) (wa2.heap.size) #[.int .i64 0, .int .i64 0]) := BX.new _ _ _
                            have L_r : Hid (wr.heap.size ≤ wa2.heap.size) := bc2.size
                            have bc3 : Below wr.heap.size wr (wa2.alloc (.cells #[.int .i64 0, .int .i64 0] 26)) := bc2.alloc bc2.size _
                            have HS3 : Hid (((wa2.alloc (.cells #[.int .i64 0, .int .i64 0] 26)).cell? ⟨q10, 0, none⟩ = some (.int .i64 1) ∧ (wa2.alloc (.cells #[.int .i64 0, .int .i64 0] 26)).cell? ⟨q10, 1, none⟩ = some (.int .i64 (k2 : Int))) ∧ ((wa2.alloc (.cells #[.int .i64 0, .int .i64 0] 26)).cell? ⟨xb, xo + at0 * 4, none⟩ = some (.int .i64 1) ∧ (wa2.alloc (.cells #[.int .i64 0, .int .i64 0] 26)).cell? ⟨xb, xo + at0 * 4 + 1, none⟩ = some (.int .i64 (i : Int))) ∧ (wa2.alloc (.cells #[.int .i64 0, .int .i64 0] 26)).cell? ⟨xb, xo + at0 * 4 + 2, none⟩ = some (.int .i64 m.1) ∧ (wa2.alloc (.cells #[.int .i64 0, .int .i64 0] 26)).cell? ⟨xb, xo + at0 * 4 + 3, none⟩ = some (.int .i64 m.2)) := KEEP.out _ bc3
                            replace X_a : Hid (BX 44 (wa2.alloc (.cells #[.int .i64 0, .int .i64 0] 26)) (wc1.heap.size) #[.int .i64 0, .int .i64 0]) := X_a.out.below (below_alloc _ _) X_a.out.lt
                            replace OC : Hid ((wa2.alloc (.cells #[.int .i64 0, .int .i64 0] 26)).ownsRow wr.heap.size 33 2 (.slice ya (hearL (k2 : Int) (i : Int) m).length yc) (hearL (k2 : Int) (i : Int) m).length ((hearL (k2 : Int) (i : Int) m).flatMap encM)) := OC.out.alloc _
                            generalize wa2.alloc (.cells #[.int .i64 0, .int .i64 0] 26) = wa3 at *
                            obtain ⟨n0, n1, n2, n3⟩ := X_r.out.all2
                            have bd0 : Below wr.heap.size wr (put2 wa3 (wa2.heap.size) (.int .i64 1) (.int .i64 ((wantF k2 i : Nat) : Int))) := below_put2 bc3 L_r.out _ _
                            have HT0 : Hid (((put2 wa3 (wa2.heap.size) (.int .i64 1) (.int .i64 ((wantF k2 i : Nat) : Int))).cell? ⟨q10, 0, none⟩ = some (.int .i64 1) ∧ (put2 wa3 (wa2.heap.size) (.int .i64 1) (.int .i64 ((wantF k2 i : Nat) : Int))).cell? ⟨q10, 1, none⟩ = some (.int .i64 (k2 : Int))) ∧ ((put2 wa3 (wa2.heap.size) (.int .i64 1) (.int .i64 ((wantF k2 i : Nat) : Int))).cell? ⟨xb, xo + at0 * 4, none⟩ = some (.int .i64 1) ∧ (put2 wa3 (wa2.heap.size) (.int .i64 1) (.int .i64 ((wantF k2 i : Nat) : Int))).cell? ⟨xb, xo + at0 * 4 + 1, none⟩ = some (.int .i64 (i : Int))) ∧ (put2 wa3 (wa2.heap.size) (.int .i64 1) (.int .i64 ((wantF k2 i : Nat) : Int))).cell? ⟨xb, xo + at0 * 4 + 2, none⟩ = some (.int .i64 m.1) ∧ (put2 wa3 (wa2.heap.size) (.int .i64 1) (.int .i64 ((wantF k2 i : Nat) : Int))).cell? ⟨xb, xo + at0 * 4 + 3, none⟩ = some (.int .i64 m.2)) := KEEP.out _ bd0
                            replace X_a : Hid (BX 44 (put2 wa3 (wa2.heap.size) (.int .i64 1) (.int .i64 ((wantF k2 i : Nat) : Int))) (wc1.heap.size) #[.int .i64 0, .int .i64 0]) := X_a.out.off2 NE_a_r
                            have Y_r : Hid (BX 26 (put2 wa3 (wa2.heap.size) (.int .i64 1) (.int .i64 ((wantF k2 i : Nat) : Int))) (wa2.heap.size) #[.int .i64 1, .int .i64 ((wantF k2 i : Nat) : Int)]) := X_r.out.put2 _ _
                            replace OC : Hid ((put2 wa3 (wa2.heap.size) (.int .i64 1) (.int .i64 ((wantF k2 i : Nat) : Int))).ownsRow wr.heap.size 33 2 (.slice ya (hearL (k2 : Int) (i : Int) m).length yc) (hearL (k2 : Int) (i : Int) m).length ((hearL (k2 : Int) (i : Int) m).flatMap encM)) := X_r.out.own2 OC.out (by decide)
                            refine oneH (i := 13) rfl (by kernel_rfl) rfl (op_skip (w' := (put2 wa3 (wa2.heap.size) (.int .i64 1) (.int .i64 ((wantF k2 i : Nat) : Int)))) rfl (by unfold put2; go_simp) ⟨HT0.out, ?_⟩)
                            clear n0 n1 n2 n3 X_r
                            generalize put2 wa3 (wa2.heap.size) (.int .i64 1) (.int .i64 ((wantF k2 i : Nat) : Int)) = wp4_0 at *
                            refine takeH (i := 14) (v := .slice ya (hearL (k2 : Int) (i : Int) m).length yc) (d := 26) rfl rfl (by kernel_rfl) (by kernel_rfl) (by kernel_rfl) (fun _ _ _ h => h) (by rfl) (fun V hV => by obtain ⟨⟨v1, v2⟩, ⟨v3, v4⟩, v5, v6⟩ := hV; go_simp) HT0.out ?_
                            simp only [Act.put, List.setIfInBounds_toArray, List.set_cons_zero, List.set_cons_succ]
                            obtain ⟨n0, n1, n2, n3⟩ := X_a.out.all2
                            have bd1 : Below wr.heap.size wr (put2 wp4_0 (wc1.heap.size) (.int .i64 1) (.int .i64 ((wantF k2 i : Nat) : Int))) := below_put2 bd0 L_a.out _ _
                            have HT1 : Hid (((put2 wp4_0 (wc1.heap.size) (.int .i64 1) (.int .i64 ((wantF k2 i : Nat) : Int))).cell? ⟨q10, 0, none⟩ = some (.int .i64 1) ∧ (put2 wp4_0 (wc1.heap.size) (.int .i64 1) (.int .i64 ((wantF k2 i : Nat) : Int))).cell? ⟨q10, 1, none⟩ = some (.int .i64 (k2 : Int))) ∧ ((put2 wp4_0 (wc1.heap.size) (.int .i64 1) (.int .i64 ((wantF k2 i : Nat) : Int))).cell? ⟨xb, xo + at0 * 4, none⟩ = some (.int .i64 1) ∧ (put2 wp4_0 (wc1.heap.size) (.int .i64 1) (.int .i64 ((wantF k2 i : Nat) : Int))).cell? ⟨xb, xo + at0 * 4 + 1, none⟩ = some (.int .i64 (i : Int))) ∧ (put2 wp4_0 (wc1.heap.size) (.int .i64 1) (.int .i64 ((wantF k2 i : Nat) : Int))).cell? ⟨xb, xo + at0 * 4 + 2, none⟩ = some (.int .i64 m.1) ∧ (put2 wp4_0 (wc1.heap.size) (.int .i64 1) (.int .i64 ((wantF k2 i : Nat) : Int))).cell? ⟨xb, xo + at0 * 4 + 3, none⟩ = some (.int .i64 m.2)) := KEEP.out _ bd1
                            have Y_a : Hid (BX 44 (put2 wp4_0 (wc1.heap.size) (.int .i64 1) (.int .i64 ((wantF k2 i : Nat) : Int))) (wc1.heap.size) #[.int .i64 1, .int .i64 ((wantF k2 i : Nat) : Int)]) := X_a.out.put2 _ _
                            replace Y_r : Hid (BX 26 (put2 wp4_0 (wc1.heap.size) (.int .i64 1) (.int .i64 ((wantF k2 i : Nat) : Int))) (wa2.heap.size) #[.int .i64 1, .int .i64 ((wantF k2 i : Nat) : Int)]) := Y_r.out.off2 NE_a_r.symm
                            replace OC : Hid ((put2 wp4_0 (wc1.heap.size) (.int .i64 1) (.int .i64 ((wantF k2 i : Nat) : Int))).ownsRow wr.heap.size 33 2 (.slice ya (hearL (k2 : Int) (i : Int) m).length yc) (hearL (k2 : Int) (i : Int) m).length ((hearL (k2 : Int) (i : Int) m).flatMap encM)) := X_a.out.own2 OC.out (by decide)
                            refine oneH (i := 15) rfl (by kernel_rfl) rfl (op_skip (w' := (put2 wp4_0 (wc1.heap.size) (.int .i64 1) (.int .i64 ((wantF k2 i : Nat) : Int)))) rfl (by unfold put2; go_simp) ⟨HT1.out, ?_⟩)
                            clear n0 n1 n2 n3 X_a
                            generalize put2 wp4_0 (wc1.heap.size) (.int .i64 1) (.int .i64 ((wantF k2 i : Nat) : Int)) = wp4_1 at *
                            refine takeH (i := 16) (v := .int .i64 0) (d := 28) rfl rfl (by kernel_rfl) (by kernel_rfl) (by kernel_rfl) (fun _ _ _ h => h) (by rfl) (fun V hV => by obtain ⟨⟨v1, v2⟩, ⟨v3, v4⟩, v5, v6⟩ := hV; go_simp) HT1.out ?_
                            simp only [Act.put, List.setIfInBounds_toArray, List.set_cons_zero, List.set_cons_succ]
                            refine wpAnyH_done (by kernel_rfl) ?_ _
                            have FB : Hid (Below wr.heap.size wr wp4_1) := bd1
                            exact HG.out ya yc (wa2.heap.size) (wc1.heap.size) wp4_1 Y_r Y_a OC FB L_r L_a
                        case way1r =>
                          refine op_run (d := 25) (v' := .pointer (some ⟨wr.heap.size, 0, none⟩)) (w' := wr.drew.alloc (.cells #[.int .i64 0, .int .i64 0] 26)) rfl (by go_simp) ⟨KEEP.out _ (B0.alloc B0.size _), ?_⟩
                          simp only [Act.put, List.setIfInBounds_toArray, List.set_cons_zero, List.set_cons_succ]
                          have X_r : Hid (BX 26 (wr.drew.alloc (.cells #[.int .i64 0, .int .i64 0] 26)) (wr.heap.size) #[.int .i64 0, .int .i64 0]) := BX.new _ _ _
                          have L_r : Hid (wr.heap.size ≤ wr.heap.size) := Nat.le_refl _
                          have bc1 : Below wr.heap.size wr (wr.drew.alloc (.cells #[.int .i64 0, .int .i64 0] 26)) := B0.alloc B0.size _
                          have HS1 : Hid (((wr.drew.alloc (.cells #[.int .i64 0, .int .i64 0] 26)).cell? ⟨q10, 0, none⟩ = some (.int .i64 1) ∧ (wr.drew.alloc (.cells #[.int .i64 0, .int .i64 0] 26)).cell? ⟨q10, 1, none⟩ = some (.int .i64 (k2 : Int))) ∧ ((wr.drew.alloc (.cells #[.int .i64 0, .int .i64 0] 26)).cell? ⟨xb, xo + at0 * 4, none⟩ = some (.int .i64 1) ∧ (wr.drew.alloc (.cells #[.int .i64 0, .int .i64 0] 26)).cell? ⟨xb, xo + at0 * 4 + 1, none⟩ = some (.int .i64 (i : Int))) ∧ (wr.drew.alloc (.cells #[.int .i64 0, .int .i64 0] 26)).cell? ⟨xb, xo + at0 * 4 + 2, none⟩ = some (.int .i64 m.1) ∧ (wr.drew.alloc (.cells #[.int .i64 0, .int .i64 0] 26)).cell? ⟨xb, xo + at0 * 4 + 3, none⟩ = some (.int .i64 m.2)) := KEEP.out _ bc1
                          generalize wr.drew.alloc (.cells #[.int .i64 0, .int .i64 0] 26) = wa1 at *
                          refine twoH (i := 5) (j := 12) rfl rfl (by kernel_rfl) rfl rfl ?way2call ?way2a
                          case way2call =>
                            refine call_gets (d := 136) (f := 20) (xs := #[.tmp 131, .tmp 135]) (ats := #[26, 48]) rfl rfl ehear (vs := #[.agg #[.int .i64 1, .int .i64 (k2 : Int)], .agg #[.int .i64 1, .int .i64 (i : Int), .int .i64 m.1, .int .i64 m.2]]) (by simp [Act.eval]) (CC.out _ bc1) ?_
                            rintro vr wc2 ⟨yv, rfl, ho, hb⟩
                            have bc2 : Below wr.heap.size wr wc2 := bc1.trans (hb.mono bc1.size)
                            have OC : Hid (wc2.ownsRow wr.heap.size 33 2 (yv) (hearL (k2 : Int) (i : Int) m).length ((hearL (k2 : Int) (i : Int) m).flatMap encM)) := own_lower ho bc1.size
                            obtain ⟨ya, yc, rfl⟩ := (MlR.ownd OC.out).shape
                            have HS2 : Hid ((wc2.cell? ⟨q10, 0, none⟩ = some (.int .i64 1) ∧ wc2.cell? ⟨q10, 1, none⟩ = some (.int .i64 (k2 : Int))) ∧ (wc2.cell? ⟨xb, xo + at0 * 4, none⟩ = some (.int .i64 1) ∧ wc2.cell? ⟨xb, xo + at0 * 4 + 1, none⟩ = some (.int .i64 (i : Int))) ∧ wc2.cell? ⟨xb, xo + at0 * 4 + 2, none⟩ = some (.int .i64 m.1) ∧ wc2.cell? ⟨xb, xo + at0 * 4 + 3, none⟩ = some (.int .i64 m.2)) := KEEP.out wc2 bc2
                            replace X_r : Hid (BX 26 wc2 (wr.heap.size) #[.int .i64 0, .int .i64 0]) := X_r.out.below hb X_r.out.lt
                            clear ho hb
                            refine ⟨HS2.out, ?_⟩
                            simp only [Act.put, List.setIfInBounds_toArray, List.set_cons_zero, List.set_cons_succ]
                            refine takeH (i := 6) (v := .tuple #[.agg #[.int .i64 1, .int .i64 ((wantF k2 i : Nat) : Int)], .slice ya (hearL (k2 : Int) (i : Int) m).length yc, .agg #[.int .i64 1, .int .i64 ((wantF k2 i : Nat) : Int)], .int .i64 0]) (d := 130) rfl rfl (by kernel_rfl) (by kernel_rfl) (by kernel_rfl) (fun _ _ _ h => h) (by rfl) (fun V hV => by obtain ⟨⟨v1, v2⟩, ⟨v3, v4⟩, v5, v6⟩ := hV; go_simp) HS2.out ?_
                            simp only [Act.put, List.setIfInBounds_toArray, List.set_cons_zero, List.set_cons_succ]
                            refine takeH (i := 7) (v := .agg #[.int .i64 1, .int .i64 ((wantF k2 i : Nat) : Int)]) (d := 137) rfl rfl (by kernel_rfl) (by kernel_rfl) (by kernel_rfl) (fun _ _ _ h => h) (by rfl) (fun V hV => by obtain ⟨⟨v1, v2⟩, ⟨v3, v4⟩, v5, v6⟩ := hV; go_simp) HS2.out ?_
                            simp only [Act.put, List.setIfInBounds_toArray, List.set_cons_zero, List.set_cons_succ]
                            refine takeH (i := 8) (v := .slice ya (hearL (k2 : Int) (i : Int) m).length yc) (d := 138) rfl rfl (by kernel_rfl) (by kernel_rfl) (by kernel_rfl) (fun _ _ _ h => h) (by rfl) (fun V hV => by obtain ⟨⟨v1, v2⟩, ⟨v3, v4⟩, v5, v6⟩ := hV; go_simp) HS2.out ?_
                            simp only [Act.put, List.setIfInBounds_toArray, List.set_cons_zero, List.set_cons_succ]
                            refine takeH (i := 9) (v := .agg #[.int .i64 1, .int .i64 ((wantF k2 i : Nat) : Int)]) (d := 139) rfl rfl (by kernel_rfl) (by kernel_rfl) (by kernel_rfl) (fun _ _ _ h => h) (by rfl) (fun V hV => by obtain ⟨⟨v1, v2⟩, ⟨v3, v4⟩, v5, v6⟩ := hV; go_simp) HS2.out ?_
                            simp only [Act.put, List.setIfInBounds_toArray, List.set_cons_zero, List.set_cons_succ]
                            refine takeH (i := 10) (v := .int .i64 0) (d := 140) rfl rfl (by kernel_rfl) (by kernel_rfl) (by kernel_rfl) (fun _ _ _ h => h) (by rfl) (fun V hV => by obtain ⟨⟨v1, v2⟩, ⟨v3, v4⟩, v5, v6⟩ := hV; go_simp) HS2.out ?_
                            simp only [Act.put, List.setIfInBounds_toArray, List.set_cons_zero, List.set_cons_succ]
                            refine oneH (i := 12) rfl (by kernel_rfl) rfl (op_run (d := 27) (v' := .pointer (some ⟨wc2.heap.size, 0, none⟩)) (w' := wc2.alloc (.cells #[.int .i64 0, .int .i64 0] 44)) rfl (by go_simp) ⟨KEEP.out _ (bc2.alloc bc2.size _), ?_⟩)
                            simp only [Act.put, List.setIfInBounds_toArray, List.set_cons_zero, List.set_cons_succ]
                            have NE_r_a : (wr.heap.size) ≠ wc2.heap.size := Nat.ne_of_lt X_r.out.lt
                            have X_a : Hid (BX 44 (wc2.alloc (.cells #[.int .i64 0, .int .i64 0] 44)) (wc2.heap.size) #[.int .i64 0, .int .i64 0]) := BX.new _ _ _
                            have L_a : Hid (wr.heap.size ≤ wc2.heap.size) := bc2.size
                            have bc3 : Below wr.heap.size wr (wc2.alloc (.cells #[.int .i64 0, .int .i64 0] 44)) := bc2.alloc bc2.size _
                            have HS3 : Hid (((wc2.alloc (.cells #[.int .i64 0, .int .i64 0] 44)).cell? ⟨q10, 0, none⟩ = some (.int .i64 1) ∧ (wc2.alloc (.cells #[.int .i64 0, .int .i64 0] 44)).cell? ⟨q10, 1, none⟩ = some (.int .i64 (k2 : Int))) ∧ ((wc2.alloc (.cells #[.int .i64 0, .int .i64 0] 44)).cell? ⟨xb, xo + at0 * 4, none⟩ = some (.int .i64 1) ∧ (wc2.alloc (.cells #[.int .i64 0, .int .i64 0] 44)).cell? ⟨xb, xo + at0 * 4 + 1, none⟩ = some (.int .i64 (i : Int))) ∧ (wc2.alloc (.cells #[.int .i64 0, .int .i64 0] 44)).cell? ⟨xb, xo + at0 * 4 + 2, none⟩ = some (.int .i64 m.1) ∧ (wc2.alloc (.cells #[.int .i64 0, .int .i64 0] 44)).cell? ⟨xb, xo + at0 * 4 + 3, none⟩ = some (.int .i64 m.2)) := KEEP.out _ bc3
                            replace X_r : Hid (BX 26 (wc2.alloc (.cells #[.int .i64 0, .int .i64 0] 44)) (wr.heap.size) #[.int .i64 0, .int .i64 0]) := X_r.out.below (below_alloc _ _) X_r.out.lt
                            replace OC : Hid ((wc2.alloc (.cells #[.int .i64 0, .int .i64 0] 44)).ownsRow wr.heap.size 33 2 (.slice ya (hearL (k2 : Int) (i : Int) m).length yc) (hearL (k2 : Int) (i : Int) m).length ((hearL (k2 : Int) (i : Int) m).flatMap encM)) := OC.out.alloc _
                            generalize wc2.alloc (.cells #[.int .i64 0, .int .i64 0] 44) = wa3 at *
                            obtain ⟨n0, n1, n2, n3⟩ := X_r.out.all2
                            have bd0 : Below wr.heap.size wr (put2 wa3 (wr.heap.size) (.int .i64 1) (.int .i64 ((wantF k2 i : Nat) : Int))) := below_put2 bc3 L_r.out _ _
                            have HT0 : Hid (((put2 wa3 (wr.heap.size) (.int .i64 1) (.int .i64 ((wantF k2 i : Nat) : Int))).cell? ⟨q10, 0, none⟩ = some (.int .i64 1) ∧ (put2 wa3 (wr.heap.size) (.int .i64 1) (.int .i64 ((wantF k2 i : Nat) : Int))).cell? ⟨q10, 1, none⟩ = some (.int .i64 (k2 : Int))) ∧ ((put2 wa3 (wr.heap.size) (.int .i64 1) (.int .i64 ((wantF k2 i : Nat) : Int))).cell? ⟨xb, xo + at0 * 4, none⟩ = some (.int .i64 1) ∧ (put2 wa3 (wr.heap.size) (.int .i64 1) (.int .i64 ((wantF k2 i : Nat) : Int))).cell? ⟨xb, xo + at0 * 4 + 1, none⟩ = some (.int .i64 (i : Int))) ∧ (put2 wa3 (wr.heap.size) (.int .i64 1) (.int .i64 ((wantF k2 i : Nat) : Int))).cell? ⟨xb, xo + at0 * 4 + 2, none⟩ = some (.int .i64 m.1) ∧ (put2 wa3 (wr.heap.size) (.int .i64 1) (.int .i64 ((wantF k2 i : Nat) : Int))).cell? ⟨xb, xo + at0 * 4 + 3, none⟩ = some (.int .i64 m.2)) := KEEP.out _ bd0
                            have Y_r : Hid (BX 26 (put2 wa3 (wr.heap.size) (.int .i64 1) (.int .i64 ((wantF k2 i : Nat) : Int))) (wr.heap.size) #[.int .i64 1, .int .i64 ((wantF k2 i : Nat) : Int)]) := X_r.out.put2 _ _
                            replace X_a : Hid (BX 44 (put2 wa3 (wr.heap.size) (.int .i64 1) (.int .i64 ((wantF k2 i : Nat) : Int))) (wc2.heap.size) #[.int .i64 0, .int .i64 0]) := X_a.out.off2 NE_r_a.symm
                            replace OC : Hid ((put2 wa3 (wr.heap.size) (.int .i64 1) (.int .i64 ((wantF k2 i : Nat) : Int))).ownsRow wr.heap.size 33 2 (.slice ya (hearL (k2 : Int) (i : Int) m).length yc) (hearL (k2 : Int) (i : Int) m).length ((hearL (k2 : Int) (i : Int) m).flatMap encM)) := X_r.out.own2 OC.out (by decide)
                            refine oneH (i := 13) rfl (by kernel_rfl) rfl (op_skip (w' := (put2 wa3 (wr.heap.size) (.int .i64 1) (.int .i64 ((wantF k2 i : Nat) : Int)))) rfl (by unfold put2; go_simp) ⟨HT0.out, ?_⟩)
                            clear n0 n1 n2 n3 X_r
                            generalize put2 wa3 (wr.heap.size) (.int .i64 1) (.int .i64 ((wantF k2 i : Nat) : Int)) = wp4_0 at *
                            refine takeH (i := 14) (v := .slice ya (hearL (k2 : Int) (i : Int) m).length yc) (d := 26) rfl rfl (by kernel_rfl) (by kernel_rfl) (by kernel_rfl) (fun _ _ _ h => h) (by rfl) (fun V hV => by obtain ⟨⟨v1, v2⟩, ⟨v3, v4⟩, v5, v6⟩ := hV; go_simp) HT0.out ?_
                            simp only [Act.put, List.setIfInBounds_toArray, List.set_cons_zero, List.set_cons_succ]
                            obtain ⟨n0, n1, n2, n3⟩ := X_a.out.all2
                            have bd1 : Below wr.heap.size wr (put2 wp4_0 (wc2.heap.size) (.int .i64 1) (.int .i64 ((wantF k2 i : Nat) : Int))) := below_put2 bd0 L_a.out _ _
                            have HT1 : Hid (((put2 wp4_0 (wc2.heap.size) (.int .i64 1) (.int .i64 ((wantF k2 i : Nat) : Int))).cell? ⟨q10, 0, none⟩ = some (.int .i64 1) ∧ (put2 wp4_0 (wc2.heap.size) (.int .i64 1) (.int .i64 ((wantF k2 i : Nat) : Int))).cell? ⟨q10, 1, none⟩ = some (.int .i64 (k2 : Int))) ∧ ((put2 wp4_0 (wc2.heap.size) (.int .i64 1) (.int .i64 ((wantF k2 i : Nat) : Int))).cell? ⟨xb, xo + at0 * 4, none⟩ = some (.int .i64 1) ∧ (put2 wp4_0 (wc2.heap.size) (.int .i64 1) (.int .i64 ((wantF k2 i : Nat) : Int))).cell? ⟨xb, xo + at0 * 4 + 1, none⟩ = some (.int .i64 (i : Int))) ∧ (put2 wp4_0 (wc2.heap.size) (.int .i64 1) (.int .i64 ((wantF k2 i : Nat) : Int))).cell? ⟨xb, xo + at0 * 4 + 2, none⟩ = some (.int .i64 m.1) ∧ (put2 wp4_0 (wc2.heap.size) (.int .i64 1) (.int .i64 ((wantF k2 i : Nat) : Int))).cell? ⟨xb, xo + at0 * 4 + 3, none⟩ = some (.int .i64 m.2)) := KEEP.out _ bd1
                            replace Y_r : Hid (BX 26 (put2 wp4_0 (wc2.heap.size) (.int .i64 1) (.int .i64 ((wantF k2 i : Nat) : Int))) (wr.heap.size) #[.int .i64 1, .int .i64 ((wantF k2 i : Nat) : Int)]) := Y_r.out.off2 NE_r_a
                            have Y_a : Hid (BX 44 (put2 wp4_0 (wc2.heap.size) (.int .i64 1) (.int .i64 ((wantF k2 i : Nat) : Int))) (wc2.heap.size) #[.int .i64 1, .int .i64 ((wantF k2 i : Nat) : Int)]) := X_a.out.put2 _ _
                            replace OC : Hid ((put2 wp4_0 (wc2.heap.size) (.int .i64 1) (.int .i64 ((wantF k2 i : Nat) : Int))).ownsRow wr.heap.size 33 2 (.slice ya (hearL (k2 : Int) (i : Int) m).length yc) (hearL (k2 : Int) (i : Int) m).length ((hearL (k2 : Int) (i : Int) m).flatMap encM)) := X_a.out.own2 OC.out (by decide)
                            refine oneH (i := 15) rfl (by kernel_rfl) rfl (op_skip (w' := (put2 wp4_0 (wc2.heap.size) (.int .i64 1) (.int .i64 ((wantF k2 i : Nat) : Int)))) rfl (by unfold put2; go_simp) ⟨HT1.out, ?_⟩)
                            clear n0 n1 n2 n3 X_a
                            generalize put2 wp4_0 (wc2.heap.size) (.int .i64 1) (.int .i64 ((wantF k2 i : Nat) : Int)) = wp4_1 at *
                            refine takeH (i := 16) (v := .int .i64 0) (d := 28) rfl rfl (by kernel_rfl) (by kernel_rfl) (by kernel_rfl) (fun _ _ _ h => h) (by rfl) (fun V hV => by obtain ⟨⟨v1, v2⟩, ⟨v3, v4⟩, v5, v6⟩ := hV; go_simp) HT1.out ?_
                            simp only [Act.put, List.setIfInBounds_toArray, List.set_cons_zero, List.set_cons_succ]
                            refine wpAnyH_done (by kernel_rfl) ?_ _
                            have FB : Hid (Below wr.heap.size wr wp4_1) := bd1
                            exact HG.out ya yc (wr.heap.size) (wc2.heap.size) wp4_1 Y_r Y_a OC FB L_r L_a
                          case way2a =>
                            refine op_run (d := 27) (v' := .pointer (some ⟨wa1.heap.size, 0, none⟩)) (w' := wa1.alloc (.cells #[.int .i64 0, .int .i64 0] 44)) rfl (by go_simp) ⟨KEEP.out _ (bc1.alloc bc1.size _), ?_⟩
                            simp only [Act.put, List.setIfInBounds_toArray, List.set_cons_zero, List.set_cons_succ]
                            have NE_r_a : (wr.heap.size) ≠ wa1.heap.size := Nat.ne_of_lt X_r.out.lt
                            have X_a : Hid (BX 44 (wa1.alloc (.cells #[.int .i64 0, .int .i64 0] 44)) (wa1.heap.size) #[.int .i64 0, .int .i64 0]) := BX.new _ _ _
                            have L_a : Hid (wr.heap.size ≤ wa1.heap.size) := bc1.size
                            have bc2 : Below wr.heap.size wr (wa1.alloc (.cells #[.int .i64 0, .int .i64 0] 44)) := bc1.alloc bc1.size _
                            have HS2 : Hid (((wa1.alloc (.cells #[.int .i64 0, .int .i64 0] 44)).cell? ⟨q10, 0, none⟩ = some (.int .i64 1) ∧ (wa1.alloc (.cells #[.int .i64 0, .int .i64 0] 44)).cell? ⟨q10, 1, none⟩ = some (.int .i64 (k2 : Int))) ∧ ((wa1.alloc (.cells #[.int .i64 0, .int .i64 0] 44)).cell? ⟨xb, xo + at0 * 4, none⟩ = some (.int .i64 1) ∧ (wa1.alloc (.cells #[.int .i64 0, .int .i64 0] 44)).cell? ⟨xb, xo + at0 * 4 + 1, none⟩ = some (.int .i64 (i : Int))) ∧ (wa1.alloc (.cells #[.int .i64 0, .int .i64 0] 44)).cell? ⟨xb, xo + at0 * 4 + 2, none⟩ = some (.int .i64 m.1) ∧ (wa1.alloc (.cells #[.int .i64 0, .int .i64 0] 44)).cell? ⟨xb, xo + at0 * 4 + 3, none⟩ = some (.int .i64 m.2)) := KEEP.out _ bc2
                            replace X_r : Hid (BX 26 (wa1.alloc (.cells #[.int .i64 0, .int .i64 0] 44)) (wr.heap.size) #[.int .i64 0, .int .i64 0]) := X_r.out.below (below_alloc _ _) X_r.out.lt
                            generalize wa1.alloc (.cells #[.int .i64 0, .int .i64 0] 44) = wa2 at *
                            refine oneH (i := 5) rfl (by kernel_rfl) rfl (call_gets (d := 136) (f := 20) (xs := #[.tmp 131, .tmp 135]) (ats := #[26, 48]) rfl rfl ehear (vs := #[.agg #[.int .i64 1, .int .i64 (k2 : Int)], .agg #[.int .i64 1, .int .i64 (i : Int), .int .i64 m.1, .int .i64 m.2]]) (by simp [Act.eval]) (CC.out _ bc2) ?_)
                            rintro vr wc3 ⟨yv, rfl, ho, hb⟩
                            have bc3 : Below wr.heap.size wr wc3 := bc2.trans (hb.mono bc2.size)
                            have OC : Hid (wc3.ownsRow wr.heap.size 33 2 (yv) (hearL (k2 : Int) (i : Int) m).length ((hearL (k2 : Int) (i : Int) m).flatMap encM)) := own_lower ho bc2.size
                            obtain ⟨ya, yc, rfl⟩ := (MlR.ownd OC.out).shape
                            have HS3 : Hid ((wc3.cell? ⟨q10, 0, none⟩ = some (.int .i64 1) ∧ wc3.cell? ⟨q10, 1, none⟩ = some (.int .i64 (k2 : Int))) ∧ (wc3.cell? ⟨xb, xo + at0 * 4, none⟩ = some (.int .i64 1) ∧ wc3.cell? ⟨xb, xo + at0 * 4 + 1, none⟩ = some (.int .i64 (i : Int))) ∧ wc3.cell? ⟨xb, xo + at0 * 4 + 2, none⟩ = some (.int .i64 m.1) ∧ wc3.cell? ⟨xb, xo + at0 * 4 + 3, none⟩ = some (.int .i64 m.2)) := KEEP.out wc3 bc3
                            replace X_r : Hid (BX 26 wc3 (wr.heap.size) #[.int .i64 0, .int .i64 0]) := X_r.out.below hb X_r.out.lt
                            replace X_a : Hid (BX 44 wc3 (wa1.heap.size) #[.int .i64 0, .int .i64 0]) := X_a.out.below hb X_a.out.lt
                            clear ho hb
                            refine ⟨HS3.out, ?_⟩
                            simp only [Act.put, List.setIfInBounds_toArray, List.set_cons_zero, List.set_cons_succ]
                            refine takeH (i := 6) (v := .tuple #[.agg #[.int .i64 1, .int .i64 ((wantF k2 i : Nat) : Int)], .slice ya (hearL (k2 : Int) (i : Int) m).length yc, .agg #[.int .i64 1, .int .i64 ((wantF k2 i : Nat) : Int)], .int .i64 0]) (d := 130) rfl rfl (by kernel_rfl) (by kernel_rfl) (by kernel_rfl) (fun _ _ _ h => h) (by rfl) (fun V hV => by obtain ⟨⟨v1, v2⟩, ⟨v3, v4⟩, v5, v6⟩ := hV; go_simp) HS3.out ?_
                            simp only [Act.put, List.setIfInBounds_toArray, List.set_cons_zero, List.set_cons_succ]
                            refine takeH (i := 7) (v := .agg #[.int .i64 1, .int .i64 ((wantF k2 i : Nat) : Int)]) (d := 137) rfl rfl (by kernel_rfl) (by kernel_rfl) (by kernel_rfl) (fun _ _ _ h => h) (by rfl) (fun V hV => by obtain ⟨⟨v1, v2⟩, ⟨v3, v4⟩, v5, v6⟩ := hV; go_simp) HS3.out ?_
                            simp only [Act.put, List.setIfInBounds_toArray, List.set_cons_zero, List.set_cons_succ]
                            refine takeH (i := 8) (v := .slice ya (hearL (k2 : Int) (i : Int) m).length yc) (d := 138) rfl rfl (by kernel_rfl) (by kernel_rfl) (by kernel_rfl) (fun _ _ _ h => h) (by rfl) (fun V hV => by obtain ⟨⟨v1, v2⟩, ⟨v3, v4⟩, v5, v6⟩ := hV; go_simp) HS3.out ?_
                            simp only [Act.put, List.setIfInBounds_toArray, List.set_cons_zero, List.set_cons_succ]
                            refine takeH (i := 9) (v := .agg #[.int .i64 1, .int .i64 ((wantF k2 i : Nat) : Int)]) (d := 139) rfl rfl (by kernel_rfl) (by kernel_rfl) (by kernel_rfl) (fun _ _ _ h => h) (by rfl) (fun V hV => by obtain ⟨⟨v1, v2⟩, ⟨v3, v4⟩, v5, v6⟩ := hV; go_simp) HS3.out ?_
                            simp only [Act.put, List.setIfInBounds_toArray, List.set_cons_zero, List.set_cons_succ]
                            refine takeH (i := 10) (v := .int .i64 0) (d := 140) rfl rfl (by kernel_rfl) (by kernel_rfl) (by kernel_rfl) (fun _ _ _ h => h) (by rfl) (fun V hV => by obtain ⟨⟨v1, v2⟩, ⟨v3, v4⟩, v5, v6⟩ := hV; go_simp) HS3.out ?_
                            simp only [Act.put, List.setIfInBounds_toArray, List.set_cons_zero, List.set_cons_succ]
                            obtain ⟨n0, n1, n2, n3⟩ := X_r.out.all2
                            have bd0 : Below wr.heap.size wr (put2 wc3 (wr.heap.size) (.int .i64 1) (.int .i64 ((wantF k2 i : Nat) : Int))) := below_put2 bc3 L_r.out _ _
                            have HT0 : Hid (((put2 wc3 (wr.heap.size) (.int .i64 1) (.int .i64 ((wantF k2 i : Nat) : Int))).cell? ⟨q10, 0, none⟩ = some (.int .i64 1) ∧ (put2 wc3 (wr.heap.size) (.int .i64 1) (.int .i64 ((wantF k2 i : Nat) : Int))).cell? ⟨q10, 1, none⟩ = some (.int .i64 (k2 : Int))) ∧ ((put2 wc3 (wr.heap.size) (.int .i64 1) (.int .i64 ((wantF k2 i : Nat) : Int))).cell? ⟨xb, xo + at0 * 4, none⟩ = some (.int .i64 1) ∧ (put2 wc3 (wr.heap.size) (.int .i64 1) (.int .i64 ((wantF k2 i : Nat) : Int))).cell? ⟨xb, xo + at0 * 4 + 1, none⟩ = some (.int .i64 (i : Int))) ∧ (put2 wc3 (wr.heap.size) (.int .i64 1) (.int .i64 ((wantF k2 i : Nat) : Int))).cell? ⟨xb, xo + at0 * 4 + 2, none⟩ = some (.int .i64 m.1) ∧ (put2 wc3 (wr.heap.size) (.int .i64 1) (.int .i64 ((wantF k2 i : Nat) : Int))).cell? ⟨xb, xo + at0 * 4 + 3, none⟩ = some (.int .i64 m.2)) := KEEP.out _ bd0
                            have Y_r : Hid (BX 26 (put2 wc3 (wr.heap.size) (.int .i64 1) (.int .i64 ((wantF k2 i : Nat) : Int))) (wr.heap.size) #[.int .i64 1, .int .i64 ((wantF k2 i : Nat) : Int)]) := X_r.out.put2 _ _
                            replace X_a : Hid (BX 44 (put2 wc3 (wr.heap.size) (.int .i64 1) (.int .i64 ((wantF k2 i : Nat) : Int))) (wa1.heap.size) #[.int .i64 0, .int .i64 0]) := X_a.out.off2 NE_r_a.symm
                            replace OC : Hid ((put2 wc3 (wr.heap.size) (.int .i64 1) (.int .i64 ((wantF k2 i : Nat) : Int))).ownsRow wr.heap.size 33 2 (.slice ya (hearL (k2 : Int) (i : Int) m).length yc) (hearL (k2 : Int) (i : Int) m).length ((hearL (k2 : Int) (i : Int) m).flatMap encM)) := X_r.out.own2 OC.out (by decide)
                            refine oneH (i := 13) rfl (by kernel_rfl) rfl (op_skip (w' := (put2 wc3 (wr.heap.size) (.int .i64 1) (.int .i64 ((wantF k2 i : Nat) : Int)))) rfl (by unfold put2; go_simp) ⟨HT0.out, ?_⟩)
                            clear n0 n1 n2 n3 X_r
                            generalize put2 wc3 (wr.heap.size) (.int .i64 1) (.int .i64 ((wantF k2 i : Nat) : Int)) = wp4_0 at *
                            refine takeH (i := 14) (v := .slice ya (hearL (k2 : Int) (i : Int) m).length yc) (d := 26) rfl rfl (by kernel_rfl) (by kernel_rfl) (by kernel_rfl) (fun _ _ _ h => h) (by rfl) (fun V hV => by obtain ⟨⟨v1, v2⟩, ⟨v3, v4⟩, v5, v6⟩ := hV; go_simp) HT0.out ?_
                            simp only [Act.put, List.setIfInBounds_toArray, List.set_cons_zero, List.set_cons_succ]
                            obtain ⟨n0, n1, n2, n3⟩ := X_a.out.all2
                            have bd1 : Below wr.heap.size wr (put2 wp4_0 (wa1.heap.size) (.int .i64 1) (.int .i64 ((wantF k2 i : Nat) : Int))) := below_put2 bd0 L_a.out _ _
                            have HT1 : Hid (((put2 wp4_0 (wa1.heap.size) (.int .i64 1) (.int .i64 ((wantF k2 i : Nat) : Int))).cell? ⟨q10, 0, none⟩ = some (.int .i64 1) ∧ (put2 wp4_0 (wa1.heap.size) (.int .i64 1) (.int .i64 ((wantF k2 i : Nat) : Int))).cell? ⟨q10, 1, none⟩ = some (.int .i64 (k2 : Int))) ∧ ((put2 wp4_0 (wa1.heap.size) (.int .i64 1) (.int .i64 ((wantF k2 i : Nat) : Int))).cell? ⟨xb, xo + at0 * 4, none⟩ = some (.int .i64 1) ∧ (put2 wp4_0 (wa1.heap.size) (.int .i64 1) (.int .i64 ((wantF k2 i : Nat) : Int))).cell? ⟨xb, xo + at0 * 4 + 1, none⟩ = some (.int .i64 (i : Int))) ∧ (put2 wp4_0 (wa1.heap.size) (.int .i64 1) (.int .i64 ((wantF k2 i : Nat) : Int))).cell? ⟨xb, xo + at0 * 4 + 2, none⟩ = some (.int .i64 m.1) ∧ (put2 wp4_0 (wa1.heap.size) (.int .i64 1) (.int .i64 ((wantF k2 i : Nat) : Int))).cell? ⟨xb, xo + at0 * 4 + 3, none⟩ = some (.int .i64 m.2)) := KEEP.out _ bd1
                            replace Y_r : Hid (BX 26 (put2 wp4_0 (wa1.heap.size) (.int .i64 1) (.int .i64 ((wantF k2 i : Nat) : Int))) (wr.heap.size) #[.int .i64 1, .int .i64 ((wantF k2 i : Nat) : Int)]) := Y_r.out.off2 NE_r_a
                            have Y_a : Hid (BX 44 (put2 wp4_0 (wa1.heap.size) (.int .i64 1) (.int .i64 ((wantF k2 i : Nat) : Int))) (wa1.heap.size) #[.int .i64 1, .int .i64 ((wantF k2 i : Nat) : Int)]) := X_a.out.put2 _ _
                            replace OC : Hid ((put2 wp4_0 (wa1.heap.size) (.int .i64 1) (.int .i64 ((wantF k2 i : Nat) : Int))).ownsRow wr.heap.size 33 2 (.slice ya (hearL (k2 : Int) (i : Int) m).length yc) (hearL (k2 : Int) (i : Int) m).length ((hearL (k2 : Int) (i : Int) m).flatMap encM)) := X_a.out.own2 OC.out (by decide)
                            refine oneH (i := 15) rfl (by kernel_rfl) rfl (op_skip (w' := (put2 wp4_0 (wa1.heap.size) (.int .i64 1) (.int .i64 ((wantF k2 i : Nat) : Int)))) rfl (by unfold put2; go_simp) ⟨HT1.out, ?_⟩)
                            clear n0 n1 n2 n3 X_a
                            generalize put2 wp4_0 (wa1.heap.size) (.int .i64 1) (.int .i64 ((wantF k2 i : Nat) : Int)) = wp4_1 at *
                            refine takeH (i := 16) (v := .int .i64 0) (d := 28) rfl rfl (by kernel_rfl) (by kernel_rfl) (by kernel_rfl) (fun _ _ _ h => h) (by rfl) (fun V hV => by obtain ⟨⟨v1, v2⟩, ⟨v3, v4⟩, v5, v6⟩ := hV; go_simp) HT1.out ?_
                            simp only [Act.put, List.setIfInBounds_toArray, List.set_cons_zero, List.set_cons_succ]
                            refine wpAnyH_done (by kernel_rfl) ?_ _
                            have FB : Hid (Below wr.heap.size wr wp4_1) := bd1
                            exact HG.out ya yc (wr.heap.size) (wa1.heap.size) wp4_1 Y_r Y_a OC FB L_r L_a
                        case way1a =>
                          refine op_run (d := 27) (v' := .pointer (some ⟨wr.heap.size, 0, none⟩)) (w' := wr.drew.alloc (.cells #[.int .i64 0, .int .i64 0] 44)) rfl (by go_simp) ⟨KEEP.out _ (B0.alloc B0.size _), ?_⟩
                          simp only [Act.put, List.setIfInBounds_toArray, List.set_cons_zero, List.set_cons_succ]
                          have X_a : Hid (BX 44 (wr.drew.alloc (.cells #[.int .i64 0, .int .i64 0] 44)) (wr.heap.size) #[.int .i64 0, .int .i64 0]) := BX.new _ _ _
                          have L_a : Hid (wr.heap.size ≤ wr.heap.size) := Nat.le_refl _
                          have bc1 : Below wr.heap.size wr (wr.drew.alloc (.cells #[.int .i64 0, .int .i64 0] 44)) := B0.alloc B0.size _
                          have HS1 : Hid (((wr.drew.alloc (.cells #[.int .i64 0, .int .i64 0] 44)).cell? ⟨q10, 0, none⟩ = some (.int .i64 1) ∧ (wr.drew.alloc (.cells #[.int .i64 0, .int .i64 0] 44)).cell? ⟨q10, 1, none⟩ = some (.int .i64 (k2 : Int))) ∧ ((wr.drew.alloc (.cells #[.int .i64 0, .int .i64 0] 44)).cell? ⟨xb, xo + at0 * 4, none⟩ = some (.int .i64 1) ∧ (wr.drew.alloc (.cells #[.int .i64 0, .int .i64 0] 44)).cell? ⟨xb, xo + at0 * 4 + 1, none⟩ = some (.int .i64 (i : Int))) ∧ (wr.drew.alloc (.cells #[.int .i64 0, .int .i64 0] 44)).cell? ⟨xb, xo + at0 * 4 + 2, none⟩ = some (.int .i64 m.1) ∧ (wr.drew.alloc (.cells #[.int .i64 0, .int .i64 0] 44)).cell? ⟨xb, xo + at0 * 4 + 3, none⟩ = some (.int .i64 m.2)) := KEEP.out _ bc1
                          generalize wr.drew.alloc (.cells #[.int .i64 0, .int .i64 0] 44) = wa1 at *
                          refine twoH (i := 5) (j := 11) rfl rfl (by kernel_rfl) rfl rfl ?way2call ?way2r
                          case way2call =>
                            refine call_gets (d := 136) (f := 20) (xs := #[.tmp 131, .tmp 135]) (ats := #[26, 48]) rfl rfl ehear (vs := #[.agg #[.int .i64 1, .int .i64 (k2 : Int)], .agg #[.int .i64 1, .int .i64 (i : Int), .int .i64 m.1, .int .i64 m.2]]) (by simp [Act.eval]) (CC.out _ bc1) ?_
                            rintro vr wc2 ⟨yv, rfl, ho, hb⟩
                            have bc2 : Below wr.heap.size wr wc2 := bc1.trans (hb.mono bc1.size)
                            have OC : Hid (wc2.ownsRow wr.heap.size 33 2 (yv) (hearL (k2 : Int) (i : Int) m).length ((hearL (k2 : Int) (i : Int) m).flatMap encM)) := own_lower ho bc1.size
                            obtain ⟨ya, yc, rfl⟩ := (MlR.ownd OC.out).shape
                            have HS2 : Hid ((wc2.cell? ⟨q10, 0, none⟩ = some (.int .i64 1) ∧ wc2.cell? ⟨q10, 1, none⟩ = some (.int .i64 (k2 : Int))) ∧ (wc2.cell? ⟨xb, xo + at0 * 4, none⟩ = some (.int .i64 1) ∧ wc2.cell? ⟨xb, xo + at0 * 4 + 1, none⟩ = some (.int .i64 (i : Int))) ∧ wc2.cell? ⟨xb, xo + at0 * 4 + 2, none⟩ = some (.int .i64 m.1) ∧ wc2.cell? ⟨xb, xo + at0 * 4 + 3, none⟩ = some (.int .i64 m.2)) := KEEP.out wc2 bc2
                            replace X_a : Hid (BX 44 wc2 (wr.heap.size) #[.int .i64 0, .int .i64 0]) := X_a.out.below hb X_a.out.lt
                            clear ho hb
                            refine ⟨HS2.out, ?_⟩
                            simp only [Act.put, List.setIfInBounds_toArray, List.set_cons_zero, List.set_cons_succ]
                            refine takeH (i := 6) (v := .tuple #[.agg #[.int .i64 1, .int .i64 ((wantF k2 i : Nat) : Int)], .slice ya (hearL (k2 : Int) (i : Int) m).length yc, .agg #[.int .i64 1, .int .i64 ((wantF k2 i : Nat) : Int)], .int .i64 0]) (d := 130) rfl rfl (by kernel_rfl) (by kernel_rfl) (by kernel_rfl) (fun _ _ _ h => h) (by rfl) (fun V hV => by obtain ⟨⟨v1, v2⟩, ⟨v3, v4⟩, v5, v6⟩ := hV; go_simp) HS2.out ?_
                            simp only [Act.put, List.setIfInBounds_toArray, List.set_cons_zero, List.set_cons_succ]
                            refine takeH (i := 7) (v := .agg #[.int .i64 1, .int .i64 ((wantF k2 i : Nat) : Int)]) (d := 137) rfl rfl (by kernel_rfl) (by kernel_rfl) (by kernel_rfl) (fun _ _ _ h => h) (by rfl) (fun V hV => by obtain ⟨⟨v1, v2⟩, ⟨v3, v4⟩, v5, v6⟩ := hV; go_simp) HS2.out ?_
                            simp only [Act.put, List.setIfInBounds_toArray, List.set_cons_zero, List.set_cons_succ]
                            refine takeH (i := 8) (v := .slice ya (hearL (k2 : Int) (i : Int) m).length yc) (d := 138) rfl rfl (by kernel_rfl) (by kernel_rfl) (by kernel_rfl) (fun _ _ _ h => h) (by rfl) (fun V hV => by obtain ⟨⟨v1, v2⟩, ⟨v3, v4⟩, v5, v6⟩ := hV; go_simp) HS2.out ?_
                            simp only [Act.put, List.setIfInBounds_toArray, List.set_cons_zero, List.set_cons_succ]
                            refine takeH (i := 9) (v := .agg #[.int .i64 1, .int .i64 ((wantF k2 i : Nat) : Int)]) (d := 139) rfl rfl (by kernel_rfl) (by kernel_rfl) (by kernel_rfl) (fun _ _ _ h => h) (by rfl) (fun V hV => by obtain ⟨⟨v1, v2⟩, ⟨v3, v4⟩, v5, v6⟩ := hV; go_simp) HS2.out ?_
                            simp only [Act.put, List.setIfInBounds_toArray, List.set_cons_zero, List.set_cons_succ]
                            refine takeH (i := 10) (v := .int .i64 0) (d := 140) rfl rfl (by kernel_rfl) (by kernel_rfl) (by kernel_rfl) (fun _ _ _ h => h) (by rfl) (fun V hV => by obtain ⟨⟨v1, v2⟩, ⟨v3, v4⟩, v5, v6⟩ := hV; go_simp) HS2.out ?_
                            simp only [Act.put, List.setIfInBounds_toArray, List.set_cons_zero, List.set_cons_succ]
                            refine oneH (i := 11) rfl (by kernel_rfl) rfl (op_run (d := 25) (v' := .pointer (some ⟨wc2.heap.size, 0, none⟩)) (w' := wc2.alloc (.cells #[.int .i64 0, .int .i64 0] 26)) rfl (by go_simp) ⟨KEEP.out _ (bc2.alloc bc2.size _), ?_⟩)
                            simp only [Act.put, List.setIfInBounds_toArray, List.set_cons_zero, List.set_cons_succ]
                            have NE_a_r : (wr.heap.size) ≠ wc2.heap.size := Nat.ne_of_lt X_a.out.lt
                            have X_r : Hid (BX 26 (wc2.alloc (.cells #[.int .i64 0, .int .i64 0] 26)) (wc2.heap.size) #[.int .i64 0, .int .i64 0]) := BX.new _ _ _
                            have L_r : Hid (wr.heap.size ≤ wc2.heap.size) := bc2.size
                            have bc3 : Below wr.heap.size wr (wc2.alloc (.cells #[.int .i64 0, .int .i64 0] 26)) := bc2.alloc bc2.size _
                            have HS3 : Hid (((wc2.alloc (.cells #[.int .i64 0, .int .i64 0] 26)).cell? ⟨q10, 0, none⟩ = some (.int .i64 1) ∧ (wc2.alloc (.cells #[.int .i64 0, .int .i64 0] 26)).cell? ⟨q10, 1, none⟩ = some (.int .i64 (k2 : Int))) ∧ ((wc2.alloc (.cells #[.int .i64 0, .int .i64 0] 26)).cell? ⟨xb, xo + at0 * 4, none⟩ = some (.int .i64 1) ∧ (wc2.alloc (.cells #[.int .i64 0, .int .i64 0] 26)).cell? ⟨xb, xo + at0 * 4 + 1, none⟩ = some (.int .i64 (i : Int))) ∧ (wc2.alloc (.cells #[.int .i64 0, .int .i64 0] 26)).cell? ⟨xb, xo + at0 * 4 + 2, none⟩ = some (.int .i64 m.1) ∧ (wc2.alloc (.cells #[.int .i64 0, .int .i64 0] 26)).cell? ⟨xb, xo + at0 * 4 + 3, none⟩ = some (.int .i64 m.2)) := KEEP.out _ bc3
                            replace X_a : Hid (BX 44 (wc2.alloc (.cells #[.int .i64 0, .int .i64 0] 26)) (wr.heap.size) #[.int .i64 0, .int .i64 0]) := X_a.out.below (below_alloc _ _) X_a.out.lt
                            replace OC : Hid ((wc2.alloc (.cells #[.int .i64 0, .int .i64 0] 26)).ownsRow wr.heap.size 33 2 (.slice ya (hearL (k2 : Int) (i : Int) m).length yc) (hearL (k2 : Int) (i : Int) m).length ((hearL (k2 : Int) (i : Int) m).flatMap encM)) := OC.out.alloc _
                            generalize wc2.alloc (.cells #[.int .i64 0, .int .i64 0] 26) = wa3 at *
                            obtain ⟨n0, n1, n2, n3⟩ := X_r.out.all2
                            have bd0 : Below wr.heap.size wr (put2 wa3 (wc2.heap.size) (.int .i64 1) (.int .i64 ((wantF k2 i : Nat) : Int))) := below_put2 bc3 L_r.out _ _
                            have HT0 : Hid (((put2 wa3 (wc2.heap.size) (.int .i64 1) (.int .i64 ((wantF k2 i : Nat) : Int))).cell? ⟨q10, 0, none⟩ = some (.int .i64 1) ∧ (put2 wa3 (wc2.heap.size) (.int .i64 1) (.int .i64 ((wantF k2 i : Nat) : Int))).cell? ⟨q10, 1, none⟩ = some (.int .i64 (k2 : Int))) ∧ ((put2 wa3 (wc2.heap.size) (.int .i64 1) (.int .i64 ((wantF k2 i : Nat) : Int))).cell? ⟨xb, xo + at0 * 4, none⟩ = some (.int .i64 1) ∧ (put2 wa3 (wc2.heap.size) (.int .i64 1) (.int .i64 ((wantF k2 i : Nat) : Int))).cell? ⟨xb, xo + at0 * 4 + 1, none⟩ = some (.int .i64 (i : Int))) ∧ (put2 wa3 (wc2.heap.size) (.int .i64 1) (.int .i64 ((wantF k2 i : Nat) : Int))).cell? ⟨xb, xo + at0 * 4 + 2, none⟩ = some (.int .i64 m.1) ∧ (put2 wa3 (wc2.heap.size) (.int .i64 1) (.int .i64 ((wantF k2 i : Nat) : Int))).cell? ⟨xb, xo + at0 * 4 + 3, none⟩ = some (.int .i64 m.2)) := KEEP.out _ bd0
                            replace X_a : Hid (BX 44 (put2 wa3 (wc2.heap.size) (.int .i64 1) (.int .i64 ((wantF k2 i : Nat) : Int))) (wr.heap.size) #[.int .i64 0, .int .i64 0]) := X_a.out.off2 NE_a_r
                            have Y_r : Hid (BX 26 (put2 wa3 (wc2.heap.size) (.int .i64 1) (.int .i64 ((wantF k2 i : Nat) : Int))) (wc2.heap.size) #[.int .i64 1, .int .i64 ((wantF k2 i : Nat) : Int)]) := X_r.out.put2 _ _
                            replace OC : Hid ((put2 wa3 (wc2.heap.size) (.int .i64 1) (.int .i64 ((wantF k2 i : Nat) : Int))).ownsRow wr.heap.size 33 2 (.slice ya (hearL (k2 : Int) (i : Int) m).length yc) (hearL (k2 : Int) (i : Int) m).length ((hearL (k2 : Int) (i : Int) m).flatMap encM)) := X_r.out.own2 OC.out (by decide)
                            refine oneH (i := 13) rfl (by kernel_rfl) rfl (op_skip (w' := (put2 wa3 (wc2.heap.size) (.int .i64 1) (.int .i64 ((wantF k2 i : Nat) : Int)))) rfl (by unfold put2; go_simp) ⟨HT0.out, ?_⟩)
                            clear n0 n1 n2 n3 X_r
                            generalize put2 wa3 (wc2.heap.size) (.int .i64 1) (.int .i64 ((wantF k2 i : Nat) : Int)) = wp4_0 at *
                            refine takeH (i := 14) (v := .slice ya (hearL (k2 : Int) (i : Int) m).length yc) (d := 26) rfl rfl (by kernel_rfl) (by kernel_rfl) (by kernel_rfl) (fun _ _ _ h => h) (by rfl) (fun V hV => by obtain ⟨⟨v1, v2⟩, ⟨v3, v4⟩, v5, v6⟩ := hV; go_simp) HT0.out ?_
                            simp only [Act.put, List.setIfInBounds_toArray, List.set_cons_zero, List.set_cons_succ]
                            obtain ⟨n0, n1, n2, n3⟩ := X_a.out.all2
                            have bd1 : Below wr.heap.size wr (put2 wp4_0 (wr.heap.size) (.int .i64 1) (.int .i64 ((wantF k2 i : Nat) : Int))) := below_put2 bd0 L_a.out _ _
                            have HT1 : Hid (((put2 wp4_0 (wr.heap.size) (.int .i64 1) (.int .i64 ((wantF k2 i : Nat) : Int))).cell? ⟨q10, 0, none⟩ = some (.int .i64 1) ∧ (put2 wp4_0 (wr.heap.size) (.int .i64 1) (.int .i64 ((wantF k2 i : Nat) : Int))).cell? ⟨q10, 1, none⟩ = some (.int .i64 (k2 : Int))) ∧ ((put2 wp4_0 (wr.heap.size) (.int .i64 1) (.int .i64 ((wantF k2 i : Nat) : Int))).cell? ⟨xb, xo + at0 * 4, none⟩ = some (.int .i64 1) ∧ (put2 wp4_0 (wr.heap.size) (.int .i64 1) (.int .i64 ((wantF k2 i : Nat) : Int))).cell? ⟨xb, xo + at0 * 4 + 1, none⟩ = some (.int .i64 (i : Int))) ∧ (put2 wp4_0 (wr.heap.size) (.int .i64 1) (.int .i64 ((wantF k2 i : Nat) : Int))).cell? ⟨xb, xo + at0 * 4 + 2, none⟩ = some (.int .i64 m.1) ∧ (put2 wp4_0 (wr.heap.size) (.int .i64 1) (.int .i64 ((wantF k2 i : Nat) : Int))).cell? ⟨xb, xo + at0 * 4 + 3, none⟩ = some (.int .i64 m.2)) := KEEP.out _ bd1
                            have Y_a : Hid (BX 44 (put2 wp4_0 (wr.heap.size) (.int .i64 1) (.int .i64 ((wantF k2 i : Nat) : Int))) (wr.heap.size) #[.int .i64 1, .int .i64 ((wantF k2 i : Nat) : Int)]) := X_a.out.put2 _ _
                            replace Y_r : Hid (BX 26 (put2 wp4_0 (wr.heap.size) (.int .i64 1) (.int .i64 ((wantF k2 i : Nat) : Int))) (wc2.heap.size) #[.int .i64 1, .int .i64 ((wantF k2 i : Nat) : Int)]) := Y_r.out.off2 NE_a_r.symm
                            replace OC : Hid ((put2 wp4_0 (wr.heap.size) (.int .i64 1) (.int .i64 ((wantF k2 i : Nat) : Int))).ownsRow wr.heap.size 33 2 (.slice ya (hearL (k2 : Int) (i : Int) m).length yc) (hearL (k2 : Int) (i : Int) m).length ((hearL (k2 : Int) (i : Int) m).flatMap encM)) := X_a.out.own2 OC.out (by decide)
                            refine oneH (i := 15) rfl (by kernel_rfl) rfl (op_skip (w' := (put2 wp4_0 (wr.heap.size) (.int .i64 1) (.int .i64 ((wantF k2 i : Nat) : Int)))) rfl (by unfold put2; go_simp) ⟨HT1.out, ?_⟩)
                            clear n0 n1 n2 n3 X_a
                            generalize put2 wp4_0 (wr.heap.size) (.int .i64 1) (.int .i64 ((wantF k2 i : Nat) : Int)) = wp4_1 at *
                            refine takeH (i := 16) (v := .int .i64 0) (d := 28) rfl rfl (by kernel_rfl) (by kernel_rfl) (by kernel_rfl) (fun _ _ _ h => h) (by rfl) (fun V hV => by obtain ⟨⟨v1, v2⟩, ⟨v3, v4⟩, v5, v6⟩ := hV; go_simp) HT1.out ?_
                            simp only [Act.put, List.setIfInBounds_toArray, List.set_cons_zero, List.set_cons_succ]
                            refine wpAnyH_done (by kernel_rfl) ?_ _
                            have FB : Hid (Below wr.heap.size wr wp4_1) := bd1
                            exact HG.out ya yc (wc2.heap.size) (wr.heap.size) wp4_1 Y_r Y_a OC FB L_r L_a
                          case way2r =>
                            refine op_run (d := 25) (v' := .pointer (some ⟨wa1.heap.size, 0, none⟩)) (w' := wa1.alloc (.cells #[.int .i64 0, .int .i64 0] 26)) rfl (by go_simp) ⟨KEEP.out _ (bc1.alloc bc1.size _), ?_⟩
                            simp only [Act.put, List.setIfInBounds_toArray, List.set_cons_zero, List.set_cons_succ]
                            have NE_a_r : (wr.heap.size) ≠ wa1.heap.size := Nat.ne_of_lt X_a.out.lt
                            have X_r : Hid (BX 26 (wa1.alloc (.cells #[.int .i64 0, .int .i64 0] 26)) (wa1.heap.size) #[.int .i64 0, .int .i64 0]) := BX.new _ _ _
                            have L_r : Hid (wr.heap.size ≤ wa1.heap.size) := bc1.size
                            have bc2 : Below wr.heap.size wr (wa1.alloc (.cells #[.int .i64 0, .int .i64 0] 26)) := bc1.alloc bc1.size _
                            have HS2 : Hid (((wa1.alloc (.cells #[.int .i64 0, .int .i64 0] 26)).cell? ⟨q10, 0, none⟩ = some (.int .i64 1) ∧ (wa1.alloc (.cells #[.int .i64 0, .int .i64 0] 26)).cell? ⟨q10, 1, none⟩ = some (.int .i64 (k2 : Int))) ∧ ((wa1.alloc (.cells #[.int .i64 0, .int .i64 0] 26)).cell? ⟨xb, xo + at0 * 4, none⟩ = some (.int .i64 1) ∧ (wa1.alloc (.cells #[.int .i64 0, .int .i64 0] 26)).cell? ⟨xb, xo + at0 * 4 + 1, none⟩ = some (.int .i64 (i : Int))) ∧ (wa1.alloc (.cells #[.int .i64 0, .int .i64 0] 26)).cell? ⟨xb, xo + at0 * 4 + 2, none⟩ = some (.int .i64 m.1) ∧ (wa1.alloc (.cells #[.int .i64 0, .int .i64 0] 26)).cell? ⟨xb, xo + at0 * 4 + 3, none⟩ = some (.int .i64 m.2)) := KEEP.out _ bc2
                            replace X_a : Hid (BX 44 (wa1.alloc (.cells #[.int .i64 0, .int .i64 0] 26)) (wr.heap.size) #[.int .i64 0, .int .i64 0]) := X_a.out.below (below_alloc _ _) X_a.out.lt
                            generalize wa1.alloc (.cells #[.int .i64 0, .int .i64 0] 26) = wa2 at *
                            refine oneH (i := 5) rfl (by kernel_rfl) rfl (call_gets (d := 136) (f := 20) (xs := #[.tmp 131, .tmp 135]) (ats := #[26, 48]) rfl rfl ehear (vs := #[.agg #[.int .i64 1, .int .i64 (k2 : Int)], .agg #[.int .i64 1, .int .i64 (i : Int), .int .i64 m.1, .int .i64 m.2]]) (by simp [Act.eval]) (CC.out _ bc2) ?_)
                            rintro vr wc3 ⟨yv, rfl, ho, hb⟩
                            have bc3 : Below wr.heap.size wr wc3 := bc2.trans (hb.mono bc2.size)
                            have OC : Hid (wc3.ownsRow wr.heap.size 33 2 (yv) (hearL (k2 : Int) (i : Int) m).length ((hearL (k2 : Int) (i : Int) m).flatMap encM)) := own_lower ho bc2.size
                            obtain ⟨ya, yc, rfl⟩ := (MlR.ownd OC.out).shape
                            have HS3 : Hid ((wc3.cell? ⟨q10, 0, none⟩ = some (.int .i64 1) ∧ wc3.cell? ⟨q10, 1, none⟩ = some (.int .i64 (k2 : Int))) ∧ (wc3.cell? ⟨xb, xo + at0 * 4, none⟩ = some (.int .i64 1) ∧ wc3.cell? ⟨xb, xo + at0 * 4 + 1, none⟩ = some (.int .i64 (i : Int))) ∧ wc3.cell? ⟨xb, xo + at0 * 4 + 2, none⟩ = some (.int .i64 m.1) ∧ wc3.cell? ⟨xb, xo + at0 * 4 + 3, none⟩ = some (.int .i64 m.2)) := KEEP.out wc3 bc3
                            replace X_a : Hid (BX 44 wc3 (wr.heap.size) #[.int .i64 0, .int .i64 0]) := X_a.out.below hb X_a.out.lt
                            replace X_r : Hid (BX 26 wc3 (wa1.heap.size) #[.int .i64 0, .int .i64 0]) := X_r.out.below hb X_r.out.lt
                            clear ho hb
                            refine ⟨HS3.out, ?_⟩
                            simp only [Act.put, List.setIfInBounds_toArray, List.set_cons_zero, List.set_cons_succ]
                            refine takeH (i := 6) (v := .tuple #[.agg #[.int .i64 1, .int .i64 ((wantF k2 i : Nat) : Int)], .slice ya (hearL (k2 : Int) (i : Int) m).length yc, .agg #[.int .i64 1, .int .i64 ((wantF k2 i : Nat) : Int)], .int .i64 0]) (d := 130) rfl rfl (by kernel_rfl) (by kernel_rfl) (by kernel_rfl) (fun _ _ _ h => h) (by rfl) (fun V hV => by obtain ⟨⟨v1, v2⟩, ⟨v3, v4⟩, v5, v6⟩ := hV; go_simp) HS3.out ?_
                            simp only [Act.put, List.setIfInBounds_toArray, List.set_cons_zero, List.set_cons_succ]
                            refine takeH (i := 7) (v := .agg #[.int .i64 1, .int .i64 ((wantF k2 i : Nat) : Int)]) (d := 137) rfl rfl (by kernel_rfl) (by kernel_rfl) (by kernel_rfl) (fun _ _ _ h => h) (by rfl) (fun V hV => by obtain ⟨⟨v1, v2⟩, ⟨v3, v4⟩, v5, v6⟩ := hV; go_simp) HS3.out ?_
                            simp only [Act.put, List.setIfInBounds_toArray, List.set_cons_zero, List.set_cons_succ]
                            refine takeH (i := 8) (v := .slice ya (hearL (k2 : Int) (i : Int) m).length yc) (d := 138) rfl rfl (by kernel_rfl) (by kernel_rfl) (by kernel_rfl) (fun _ _ _ h => h) (by rfl) (fun V hV => by obtain ⟨⟨v1, v2⟩, ⟨v3, v4⟩, v5, v6⟩ := hV; go_simp) HS3.out ?_
                            simp only [Act.put, List.setIfInBounds_toArray, List.set_cons_zero, List.set_cons_succ]
                            refine takeH (i := 9) (v := .agg #[.int .i64 1, .int .i64 ((wantF k2 i : Nat) : Int)]) (d := 139) rfl rfl (by kernel_rfl) (by kernel_rfl) (by kernel_rfl) (fun _ _ _ h => h) (by rfl) (fun V hV => by obtain ⟨⟨v1, v2⟩, ⟨v3, v4⟩, v5, v6⟩ := hV; go_simp) HS3.out ?_
                            simp only [Act.put, List.setIfInBounds_toArray, List.set_cons_zero, List.set_cons_succ]
                            refine takeH (i := 10) (v := .int .i64 0) (d := 140) rfl rfl (by kernel_rfl) (by kernel_rfl) (by kernel_rfl) (fun _ _ _ h => h) (by rfl) (fun V hV => by obtain ⟨⟨v1, v2⟩, ⟨v3, v4⟩, v5, v6⟩ := hV; go_simp) HS3.out ?_
                            simp only [Act.put, List.setIfInBounds_toArray, List.set_cons_zero, List.set_cons_succ]
                            obtain ⟨n0, n1, n2, n3⟩ := X_r.out.all2
                            have bd0 : Below wr.heap.size wr (put2 wc3 (wa1.heap.size) (.int .i64 1) (.int .i64 ((wantF k2 i : Nat) : Int))) := below_put2 bc3 L_r.out _ _
                            have HT0 : Hid (((put2 wc3 (wa1.heap.size) (.int .i64 1) (.int .i64 ((wantF k2 i : Nat) : Int))).cell? ⟨q10, 0, none⟩ = some (.int .i64 1) ∧ (put2 wc3 (wa1.heap.size) (.int .i64 1) (.int .i64 ((wantF k2 i : Nat) : Int))).cell? ⟨q10, 1, none⟩ = some (.int .i64 (k2 : Int))) ∧ ((put2 wc3 (wa1.heap.size) (.int .i64 1) (.int .i64 ((wantF k2 i : Nat) : Int))).cell? ⟨xb, xo + at0 * 4, none⟩ = some (.int .i64 1) ∧ (put2 wc3 (wa1.heap.size) (.int .i64 1) (.int .i64 ((wantF k2 i : Nat) : Int))).cell? ⟨xb, xo + at0 * 4 + 1, none⟩ = some (.int .i64 (i : Int))) ∧ (put2 wc3 (wa1.heap.size) (.int .i64 1) (.int .i64 ((wantF k2 i : Nat) : Int))).cell? ⟨xb, xo + at0 * 4 + 2, none⟩ = some (.int .i64 m.1) ∧ (put2 wc3 (wa1.heap.size) (.int .i64 1) (.int .i64 ((wantF k2 i : Nat) : Int))).cell? ⟨xb, xo + at0 * 4 + 3, none⟩ = some (.int .i64 m.2)) := KEEP.out _ bd0
                            replace X_a : Hid (BX 44 (put2 wc3 (wa1.heap.size) (.int .i64 1) (.int .i64 ((wantF k2 i : Nat) : Int))) (wr.heap.size) #[.int .i64 0, .int .i64 0]) := X_a.out.off2 NE_a_r
                            have Y_r : Hid (BX 26 (put2 wc3 (wa1.heap.size) (.int .i64 1) (.int .i64 ((wantF k2 i : Nat) : Int))) (wa1.heap.size) #[.int .i64 1, .int .i64 ((wantF k2 i : Nat) : Int)]) := X_r.out.put2 _ _
                            replace OC : Hid ((put2 wc3 (wa1.heap.size) (.int .i64 1) (.int .i64 ((wantF k2 i : Nat) : Int))).ownsRow wr.heap.size 33 2 (.slice ya (hearL (k2 : Int) (i : Int) m).length yc) (hearL (k2 : Int) (i : Int) m).length ((hearL (k2 : Int) (i : Int) m).flatMap encM)) := X_r.out.own2 OC.out (by decide)
                            refine oneH (i := 13) rfl (by kernel_rfl) rfl (op_skip (w' := (put2 wc3 (wa1.heap.size) (.int .i64 1) (.int .i64 ((wantF k2 i : Nat) : Int)))) rfl (by unfold put2; go_simp) ⟨HT0.out, ?_⟩)
                            clear n0 n1 n2 n3 X_r
                            generalize put2 wc3 (wa1.heap.size) (.int .i64 1) (.int .i64 ((wantF k2 i : Nat) : Int)) = wp4_0 at *
                            refine takeH (i := 14) (v := .slice ya (hearL (k2 : Int) (i : Int) m).length yc) (d := 26) rfl rfl (by kernel_rfl) (by kernel_rfl) (by kernel_rfl) (fun _ _ _ h => h) (by rfl) (fun V hV => by obtain ⟨⟨v1, v2⟩, ⟨v3, v4⟩, v5, v6⟩ := hV; go_simp) HT0.out ?_
                            simp only [Act.put, List.setIfInBounds_toArray, List.set_cons_zero, List.set_cons_succ]
                            obtain ⟨n0, n1, n2, n3⟩ := X_a.out.all2
                            have bd1 : Below wr.heap.size wr (put2 wp4_0 (wr.heap.size) (.int .i64 1) (.int .i64 ((wantF k2 i : Nat) : Int))) := below_put2 bd0 L_a.out _ _
                            have HT1 : Hid (((put2 wp4_0 (wr.heap.size) (.int .i64 1) (.int .i64 ((wantF k2 i : Nat) : Int))).cell? ⟨q10, 0, none⟩ = some (.int .i64 1) ∧ (put2 wp4_0 (wr.heap.size) (.int .i64 1) (.int .i64 ((wantF k2 i : Nat) : Int))).cell? ⟨q10, 1, none⟩ = some (.int .i64 (k2 : Int))) ∧ ((put2 wp4_0 (wr.heap.size) (.int .i64 1) (.int .i64 ((wantF k2 i : Nat) : Int))).cell? ⟨xb, xo + at0 * 4, none⟩ = some (.int .i64 1) ∧ (put2 wp4_0 (wr.heap.size) (.int .i64 1) (.int .i64 ((wantF k2 i : Nat) : Int))).cell? ⟨xb, xo + at0 * 4 + 1, none⟩ = some (.int .i64 (i : Int))) ∧ (put2 wp4_0 (wr.heap.size) (.int .i64 1) (.int .i64 ((wantF k2 i : Nat) : Int))).cell? ⟨xb, xo + at0 * 4 + 2, none⟩ = some (.int .i64 m.1) ∧ (put2 wp4_0 (wr.heap.size) (.int .i64 1) (.int .i64 ((wantF k2 i : Nat) : Int))).cell? ⟨xb, xo + at0 * 4 + 3, none⟩ = some (.int .i64 m.2)) := KEEP.out _ bd1
                            have Y_a : Hid (BX 44 (put2 wp4_0 (wr.heap.size) (.int .i64 1) (.int .i64 ((wantF k2 i : Nat) : Int))) (wr.heap.size) #[.int .i64 1, .int .i64 ((wantF k2 i : Nat) : Int)]) := X_a.out.put2 _ _
                            replace Y_r : Hid (BX 26 (put2 wp4_0 (wr.heap.size) (.int .i64 1) (.int .i64 ((wantF k2 i : Nat) : Int))) (wa1.heap.size) #[.int .i64 1, .int .i64 ((wantF k2 i : Nat) : Int)]) := Y_r.out.off2 NE_a_r.symm
                            replace OC : Hid ((put2 wp4_0 (wr.heap.size) (.int .i64 1) (.int .i64 ((wantF k2 i : Nat) : Int))).ownsRow wr.heap.size 33 2 (.slice ya (hearL (k2 : Int) (i : Int) m).length yc) (hearL (k2 : Int) (i : Int) m).length ((hearL (k2 : Int) (i : Int) m).flatMap encM)) := X_a.out.own2 OC.out (by decide)
                            refine oneH (i := 15) rfl (by kernel_rfl) rfl (op_skip (w' := (put2 wp4_0 (wr.heap.size) (.int .i64 1) (.int .i64 ((wantF k2 i : Nat) : Int)))) rfl (by unfold put2; go_simp) ⟨HT1.out, ?_⟩)
                            clear n0 n1 n2 n3 X_a
                            generalize put2 wp4_0 (wr.heap.size) (.int .i64 1) (.int .i64 ((wantF k2 i : Nat) : Int)) = wp4_1 at *
                            refine takeH (i := 16) (v := .int .i64 0) (d := 28) rfl rfl (by kernel_rfl) (by kernel_rfl) (by kernel_rfl) (fun _ _ _ h => h) (by rfl) (fun V hV => by obtain ⟨⟨v1, v2⟩, ⟨v3, v4⟩, v5, v6⟩ := hV; go_simp) HT1.out ?_
                            simp only [Act.put, List.setIfInBounds_toArray, List.set_cons_zero, List.set_cons_succ]
                            refine wpAnyH_done (by kernel_rfl) ?_ _
                            have FB : Hid (Below wr.heap.size wr wp4_1) := bd1
                            exact HG.out ya yc (wa1.heap.size) (wr.heap.size) wp4_1 Y_r Y_a OC FB L_r L_a
                      case g =>
                        intro ya yc pr pk X FX FY FO FB NL NL2
                        have S6 : Hid (LSt w q7 q9 q10 B X (b : Int) (k2 : Int) vS (.slice (some ⟨xb, xo, none⟩) ps.length pc) u16 u17 (L.drop b) ps ks2 (L.take k2)) := S5.out.below FB.out
                        have hqk : pk ≠ q10 := by have h1 := NL2.out; have h2 := S5.out.hB; have h3 := S5.out.oB; omega
                        have hqt : pt ≠ q10 := by have h1 := hpt.out; have h3 := S5.out.oB; omega
                        have S7 : Hid (LSt w q7 q9 q10 B (put2 X q10 (.int .i64 1) (.int .i64 ((wantF k2 i : Nat) : Int))) (b : Int) ((wantF k2 i : Nat) : Int) vS (.slice (some ⟨xb, xo, none⟩) ps.length pc) u16 u17 (L.drop b) ps ks2 (L.take k2)) := S6.out.wants
                        have FY7 : Hid (BX 44 (put2 X q10 (.int .i64 1) (.int .i64 ((wantF k2 i : Nat) : Int))) pk #[.int .i64 1, .int .i64 ((wantF k2 i : Nat) : Int)]) := FY.out.off2 hqk
                        have TX7 : Hid (BX 68 (put2 X q10 (.int .i64 1) (.int .i64 ((wantF k2 i : Nat) : Int))) pt #[.int .i64 kd, .int .i64 ta]) := (TX5.out.below FB.out TX5.out.lt).off2 hqt
                        have FO7 : Hid ((put2 X q10 (.int .i64 1) (.int .i64 ((wantF k2 i : Nat) : Int))).ownsRow wr.heap.size 33 2 (.slice ya (hearL (k2 : Int) (i : Int) m).length yc) (hearL (k2 : Int) (i : Int) m).length ((hearL (k2 : Int) (i : Int) m).flatMap encM)) := S6.out.x10.own2 FO.out (by decide)
                        have HTK : Hid (L.take k2 ++ hearL (k2 : Int) (i : Int) m = L.take (wantF k2 i)) := take_hear HM.out
                        have hhl := hearL_len (k2 : Int) (i : Int) m
                        have htl : (L.take k2).length ≤ 12 := by rw [List.length_take]; omega
                        obtain ⟨f0, f1, _⟩ := FX.out.all2
                        obtain ⟨z0, z1, z2, z3⟩ := S6.out.x10.all2
                        clear KEEP CC FX FY FO FB NL2 S6
                        generalize hearL (k2 : Int) (i : Int) m = hl at *
                        clear S5 TX5
                        generalize L.take k2 = tk at *
                        go_upto_region 43 with fail
                        clear f0 f1 z0 z1 z2 z3
                        unfold put2 at S7 FY7 TX7 FO7
                        generalize (X.setCell ⟨q10, 0, none⟩ (.int .i64 1)).setCell ⟨q10, 1, none⟩ (.int .i64 ((wantF k2 i : Nat) : Int)) = X1 at *
                        go_wp2_with (at_builtin; refine wpList_append_rowKat kM rfl _ _ rfl B _ tk rfl S7.out.rG _ hl rfl (MlR.ownd FO7.out) ?d1 ?d2 S7.out.hB ?_)
                        case d1 => simp only [kM]; omega
                        case d2 => unfold maxLen; omega
                        intro v8 w8 ho8 hg8 hat8
                        have S8 : Hid (LSt w q7 q9 q10 B w8 (b : Int) ((wantF k2 i : Nat) : Int) vS (.slice (some ⟨xb, xo, none⟩) ps.length pc) u16 v8 (L.drop b) ps ks2 (L.take (wantF k2 i))) := S7.out.gets (by rw [← HTK.out]; simpa [kM] using ho8) hg8 hat8
                        have FY8 : Hid (BX 44 w8 pk #[.int .i64 1, .int .i64 ((wantF k2 i : Nat) : Int)]) := FY7.out.grown S7.out.rG (by decide) hg8
                        have TX8 : Hid (BX 68 w8 pt #[.int .i64 kd, .int .i64 ta]) := TX7.out.grown S7.out.rG (by decide) hg8
                        obtain ⟨f0, f1, _⟩ := FY8.out.all2
                        clear ho8 hg8 hat8 S7 FY7 TX7 FO7 HTK hhl htl
                        go_wp2_with (at_builtin; refine wpList_append_newK kA rfl _ _ rfl B _ ks2 rfl (S8.out.rA.alloc _) w8.heap.size (1, ((wantF k2 i : Nat) : Int)) rfl #[.int .i64 1, .int .i64 ((wantF k2 i : Nat) : Int)] rfl (0, 0) (heap_alloc_new _ _) ?d1 ?d2 ?d3 ?_)
                        case d1 => simp only [kA]; omega
                        case d2 => unfold maxLen; omega
                        case d3 => have h1 := S8.out.hB; first | omega | (simp; omega)
                        intro g gc w9 ho9 hb9 hg9
                        have S9 : Hid (LSt w q7 q9 q10 B w9 (b : Int) ((wantF k2 i : Nat) : Int) vS (.slice (some ⟨xb, xo, none⟩) ps.length pc) (.slice (some ⟨g, 0, none⟩) (ks2.length + 1) gc) v8 (L.drop b) ps (ks2 ++ [(1, ((wantF k2 i : Nat) : Int))]) (L.take (wantF k2 i))) := (S8.out.below (below_alloc _ _)).acks (by rw [List.length_append, flat_snoc]; exact ho9) hg9
                        have TX9 : Hid (BX 68 w9 pt #[.int .i64 kd, .int .i64 ta]) := (TX8.out.below (below_alloc _ _) TX8.out.lt).grown (S8.out.rA.alloc _) (by decide) hg9
                        clear ho9 hb9 hg9 f0 f1 S8 FY8 TX8
                        go_wp2_with fail
                        go_roundw
                        case rel => exact ⟨c + 1, wantF k2 i, ks2 ++ [(1, ((wantF k2 i : Nat) : Int))], by omega, by go_num, by rw [List.length_append, List.length_singleton]; omega, HL5.out.hear HM.out hi, TX9.out, S9.out⟩
                        case measure => simp [intOf]; omega
                    · have d5 : ¬ (0 : Int) < (ps.length : Int) := by omega
                      obtain ⟨t0, t1, _⟩ := TX5.out.all2
                      clear t0 t1
                      have TL6 : Hid (Tl L ts.length (n + 1) b k2 ps ks2) := Tl.early (by omega)
                      go_wp2_with fail
                      go_roundw
                      case rel => exact ⟨n + 1, b, k2, _, ps, ks2, by omega, by go_num, by omega, by omega, HL5.out, TL6.out, S5.out⟩
                      case measure => simp [intOf]; omega
                  · have d5 : ¬ (c : Int) < (1 : Int) := by omega
                    obtain ⟨t0, t1, _⟩ := TX5.out.all2
                    clear t0 t1
                    have TL6 : Hid (Tl L ts.length (n + 1) b k2 ps ks2) := Tl.early (by omega)
                    go_wp2_with fail
                    go_roundw
                    case rel => exact ⟨n + 1, b, k2, _, ps, ks2, by omega, by go_num, by omega, by omega, HL5.out, TL6.out, S5.out⟩
                    case measure => simp [intOf]; omega
          · have d1 : ¬ (n : Int) < (ts.length : Int) := by omega
            have dN : decide (ts.length ≤ n) = true := by simp; omega
            rcases (by omega : n % 3 = 0 ∨ n % 3 = 1 ∨ n % 3 = 2) with h3 | h3 | h3
            · as_aux_lemma =>
                have em : Int.tmod (n : Int) 3 = 0 := by rw [Int.tmod_eq_emod_of_nonneg (by omega)]; omega
                go_upto_region 20 with fail
                have TN : BX 68 (wr.alloc (.cells #[.int .i64 0, .int .i64 0] 68)) wr.heap.size #[.int .i64 0, .int .i64 0] := BX.new _ _ _
                have S4 : Hid (LSt w q7 q9 q10 B (wr.alloc (.cells #[.int .i64 0, .int .i64 0] 68)) (b : Int) (k : Int) vS u15 u16 u17 (L.drop b) ps ks (L.take k)) := S3.out.below (below_alloc _ _)
                have hpt : Hid (B ≤ wr.heap.size) := S3.out.hB
                generalize wr.alloc (.cells #[.int .i64 0, .int .i64 0] 68) = W4 at *
                generalize wr.heap.size = pt at *
                have TX : Hid (BX 68 W4 pt #[.int .i64 0, .int .i64 0]) := TN
                obtain ⟨t0, t1, _⟩ := TN.all2
                clear TN S3
                go_wp2_with fail
                refine (picked_any 0 5 _ (by omega) (by omega) (by omega) (by omega)).mono ?_
                rintro E w9 ⟨rfl, hw⟩
                replace hw := hw.symm
                subst hw
                rw [show pickF 0 5 = 0 from rfl]
                obtain ⟨sa, sc, rfl⟩ := (MlR.ownd S4.out.rS).shape
                obtain ⟨q0, q1, q2, _⟩ := S4.out.x9.all3
                clear t0 t1
                generalize (L.drop b).length = dl at *
                go_wp2_with fail
                refine (dueOne hL HLIN.out _ _ (MlR.ownd S4.out.rS)).mono ?_
                rintro E w5 ⟨y, rfl, ho, hb⟩
                have S5 : Hid (LSt w q7 q9 q10 B w5 (b : Int) (k : Int) (.slice sa dl sc) u15 u16 u17 (L.drop b) ps ks (L.take k)) := S4.out.below hb
                have OY : Hid (PkR w5 y (dueF 1 (b : Int) (L.drop b))) := PkR.ownd ho
                obtain ⟨ya, yc, rfl⟩ := (PkR.ownd ho).shape
                have HDL : Hid ((dueF 1 (b : Int) (L.drop b)).length ≤ 4) := by show List.length _ ≤ 4; rw [dueF_len]; omega
                have hdl := HDL.out
                clear ho hb q0 q1 q2 S4 TX
                go_wp2_with (at_builtin; refine wpList_append_rowK kP rfl _ _ rfl B _ ps rfl S5.out.rP _ (dueF 1 (b : Int) (L.drop b)) rfl OY.out ?d1 ?d2 S5.out.hB ?_)
                case d1 => simp [kP]; omega
                case d2 => unfold maxLen; omega
                intro v6 w6 ho6 _ hg6
                have S6 : Hid (LSt w q7 q9 q10 B w6 (b : Int) (k : Int) (.slice sa dl sc) v6 u16 u17 (L.drop b) (ps ++ dueF 1 (b : Int) (L.drop b)) ks (L.take k)) := S5.out.packs (by simpa [kP] using ho6) hg6
                clear ho6 hg6 S5 OY
                go_wp2_with fail
                go_roundw
                case rel => exact ⟨n + 1, b, k, _, ps ++ dueF 1 (b : Int) (L.drop b), ks, by omega, by go_num, by rw [List.length_append]; have := HDL.out; omega, by omega, HLIN.out.due, HTL.out.due h3, S6.out⟩
                case measure => simp [intOf]; omega
            · as_aux_lemma =>
                have em : Int.tmod (n : Int) 3 = 1 := by rw [Int.tmod_eq_emod_of_nonneg (by omega)]; omega
                go_upto_region 20 with fail
                have TN : BX 68 (wr.alloc (.cells #[.int .i64 1, .int .i64 0] 68)) wr.heap.size #[.int .i64 1, .int .i64 0] := BX.new _ _ _
                have S4 : Hid (LSt w q7 q9 q10 B (wr.alloc (.cells #[.int .i64 1, .int .i64 0] 68)) (b : Int) (k : Int) vS u15 u16 u17 (L.drop b) ps ks (L.take k)) := S3.out.below (below_alloc _ _)
                have hpt : Hid (B ≤ wr.heap.size) := S3.out.hB
                generalize wr.alloc (.cells #[.int .i64 1, .int .i64 0] 68) = W4 at *
                generalize wr.heap.size = pt at *
                have TX : Hid (BX 68 W4 pt #[.int .i64 1, .int .i64 0]) := TN
                obtain ⟨t0, t1, _⟩ := TN.all2
                clear TN S3
                go_wp2_with fail
                refine (picked_any 1 5 _ (by omega) (by omega) (by omega) (by omega)).mono ?_
                rintro E w9 ⟨rfl, hw⟩
                replace hw := hw.symm
                subst hw
                rw [show pickF 1 5 = 1 from rfl]
                obtain ⟨pa, pc, rfl⟩ := (PkR.ownd S4.out.rP).shape
                clear t0 t1
                go_wp2_with fail
                go_loopw [16, 17, 23] (fun u16 u17 i wr => ∃ (c k2 : Nat) (ks2 : List Ml), c ≤ ps.length ∧ i = .int .i64 c ∧ ks2.length ≤ ks.length + c ∧ Lin L b k2 ps ks2 ∧ (∀ pre, ps = pre ++ dueF 1 (b : Int) (L.drop b) → b + (c - pre.length) ≤ k2) ∧ (0 < c → ks2.getLast? = some (1, (k2 : Int))) ∧ BX 68 wr pt #[.int .i64 1, .int .i64 0] ∧ LSt w q7 q9 q10 B wr (b : Int) (k2 : Int) vS (.slice pa ps.length pc) u16 u17 (L.drop b) ps ks2 (L.take k2)) (fun _ _ i _ => ps.length - (intOf i).toNat)
                case atStart => exact ⟨0, k, ks, by omega, rfl, by omega, HLIN.out, (fun pre _ => by have := HLIN.out.bk; omega), (fun h => by omega), TX.out, S4.out⟩
                case round =>
                  obtain ⟨c, k2, ks2, hc, rfl, hkl, hlin2, hx1, hx2, htx, hst⟩ := hrel
                  have S5 : Hid (LSt w q7 q9 q10 B wr (b : Int) (k2 : Int) vS (.slice pa ps.length pc) u16 u17 (L.drop b) ps ks2 (L.take k2)) := hst
                  have TX5 : Hid (BX 68 wr pt #[.int .i64 1, .int .i64 0]) := htx
                  have HL5 : Hid (Lin L b k2 ps ks2) := hlin2
                  have HX1 : Hid (∀ pre, ps = pre ++ dueF 1 (b : Int) (L.drop b) → b + (c - pre.length) ≤ k2) := hx1
                  have HX2 : Hid (0 < c → ks2.getLast? = some (1, (k2 : Int))) := hx2
                  clear hx1 hx2
                  have hk2 := hlin2.kn
                  clear hst htx hlin2 S4 TX
                  by_cases hcN : c < ps.length
                  · by_cases hps0 : 0 < ps.length
                    · have d5 : (c : Int) < ((ps.length : Nat) : Int) := by omega
                      have d6 : (0 : Int) < (ps.length : Int) := by omega
                      obtain ⟨t0, t1, _⟩ := TX5.out.all2
                      go_wp2_with fail
                      refine (picked_any 0 (ps.length : Int) _ (by omega) (by omega) (by omega) (by omega)).mono ?_
                      rintro E w9 ⟨rfl, hw⟩
                      replace hw := hw.symm
                      subst hw
                      obtain ⟨hp0, hp1⟩ := pickF_bd 0 (ps.length : Int) (by omega)
                      generalize pickF 0 (ps.length : Int) = pi at *
                      obtain ⟨xb, xo, cap', e1, _, _, lb, hv⟩ := PkR.at (PkR.ownd S5.out.rP) hps0
                      injection e1 with e1 _ e3
                      subst e1 e3
                      obtain ⟨x, hx⟩ := getX (es := ps) (i := c) (by omega)
                      obtain ⟨i, m, rfl, hm, hi⟩ := HL5.out.pk x (List.mem_of_getElem? hx)
                      have HM : Hid (L[i]? = some m) := hm
                      obtain ⟨c1, c2, c3, c4⟩ := hv c _ hx
                      have HPRE : Hid (∀ pre, ps = pre ++ dueF 1 (b : Int) (L.drop b) → b + (c + 1 - pre.length) ≤ wantF k2 i) := fun pre hpre => by
                        have h1 := HX1.out pre hpre
                        have h2 := wantF_ge k2 i
                        have h3 := HL5.out.bk
                        rcases Nat.lt_or_ge c pre.length with h | h
                        · omega
                        · have hh : ps[c]? = (dueF 1 (b : Int) (L.drop b))[c - pre.length]? := by rw [hpre, List.getElem?_append_right h]
                          rw [hx, dueF, pksF_at] at hh
                          cases hy : ((L.drop b).take 4)[c - pre.length]? with
                          | none => rw [hy] at hh; cases hh
                          | some m2 =>
                            rw [hy] at hh
                            simp only [Option.map_some, Option.some.injEq, Prod.mk.injEq] at hh
                            have e9 : i = b + (c - pre.length) := by have := hh.2.1; omega
                            have : b + (c - pre.length) + 1 ≤ wantF k2 i := by unfold wantF; split <;> omega
                            omega
                      have p0 : (0 : Int) ≤ (c : Int) := by omega
                      have p1 : (c : Int) < (ps.length : Int) := by omega
                      have KEEP : Hid (∀ V, Below wr.heap.size wr V → (V.cell? ⟨q10, 0, none⟩ = some (.int .i64 1) ∧ V.cell? ⟨q10, 1, none⟩ = some (.int .i64 (k2 : Int))) ∧ (V.cell? ⟨xb, xo + c * 4, none⟩ = some (.int .i64 1) ∧ V.cell? ⟨xb, xo + c * 4 + 1, none⟩ = some (.int .i64 (i : Int))) ∧ V.cell? ⟨xb, xo + c * 4 + 2, none⟩ = some (.int .i64 m.1) ∧ V.cell? ⟨xb, xo + c * 4 + 3, none⟩ = some (.int .i64 m.2)) := fun V hV => by
                        obtain ⟨h1, h2, _⟩ := (S5.out.x10.below hV S5.out.x10.lt).all2
                        exact ⟨⟨h1, h2⟩, ⟨(hV.cell (p := ⟨xb, xo + c * 4, none⟩) lb).trans c1, (hV.cell (p := ⟨xb, xo + c * 4 + 1, none⟩) lb).trans c2⟩, (hV.cell (p := ⟨xb, xo + c * 4 + 2, none⟩) lb).trans c3, (hV.cell (p := ⟨xb, xo + c * 4 + 3, none⟩) lb).trans c4⟩
                      have CC : Hid (∀ X, Below wr.heap.size wr X → Calls Try.prog 20 #[.agg #[.int .i64 1, .int .i64 (k2 : Int)], .agg #[.int .i64 1, .int .i64 (i : Int), .int .i64 m.1, .int .i64 m.2]] X fun E w' => ∃ u, E = .returned u ∧ (∃ y, u = .tuple #[.agg #[.int .i64 1, .int .i64 ((wantF k2 i : Nat) : Int)], y, .agg #[.int .i64 1, .int .i64 ((wantF k2 i : Nat) : Int)], .int .i64 0] ∧ w'.ownsRow X.heap.size 33 2 y (hearL (k2 : Int) (i : Int) m).length ((hearL (k2 : Int) (i : Int) m).flatMap encM) ∧ Below X.heap.size X w')) := fun X _ => hearOne (by omega) X
                      clear hv hx hm c1 c2 c3 c4
                      go_upto_region 39 with fail
                      clear t0 t1
                      apply Hid.cut
                      case h =>
                        intro HG
                        have B0 : Below wr.heap.size wr wr.drew := (Below.refl _ _).drew
                        have HS0 : Hid ((wr.drew.cell? ⟨q10, 0, none⟩ = some (.int .i64 1) ∧ wr.drew.cell? ⟨q10, 1, none⟩ = some (.int .i64 (k2 : Int))) ∧ (wr.drew.cell? ⟨xb, xo + c * 4, none⟩ = some (.int .i64 1) ∧ wr.drew.cell? ⟨xb, xo + c * 4 + 1, none⟩ = some (.int .i64 (i : Int))) ∧ wr.drew.cell? ⟨xb, xo + c * 4 + 2, none⟩ = some (.int .i64 m.1) ∧ wr.drew.cell? ⟨xb, xo + c * 4 + 3, none⟩ = some (.int .i64 m.2)) := KEEP.out wr.drew B0
                        refine wp_region_held (S := fun V => (V.cell? ⟨q10, 0, none⟩ = some (.int .i64 1) ∧ V.cell? ⟨q10, 1, none⟩ = some (.int .i64 (k2 : Int))) ∧ (V.cell? ⟨xb, xo + c * 4, none⟩ = some (.int .i64 1) ∧ V.cell? ⟨xb, xo + c * 4 + 1, none⟩ = some (.int .i64 (i : Int))) ∧ V.cell? ⟨xb, xo + c * 4 + 2, none⟩ = some (.int .i64 m.1) ∧ V.cell? ⟨xb, xo + c * 4 + 3, none⟩ = some (.int .i64 m.2)) (by kernel_rfl) ?_
                        simp only [List.size_toArray, List.length_cons, List.length_nil, Nat.reduceAdd]
                        refine takeH (i := 0) (v := .agg #[.int .i64 1, .int .i64 (k2 : Int)]) (d := 131) rfl rfl (by kernel_rfl) (by kernel_rfl) (by kernel_rfl) (fun _ _ _ h => h) (by rfl) (fun V hV => by obtain ⟨⟨v1, v2⟩, ⟨v3, v4⟩, v5, v6⟩ := hV; go_simp) HS0.out ?_
                        simp only [Act.put, List.setIfInBounds_toArray, List.set_cons_zero, List.set_cons_succ]
                        refine takeH (i := 1) (v := .slice (some ⟨xb, xo, none⟩) ps.length pc) (d := 132) rfl rfl (by kernel_rfl) (by kernel_rfl) (by kernel_rfl) (fun _ _ _ h => h) (by rfl) (fun V hV => by obtain ⟨⟨v1, v2⟩, ⟨v3, v4⟩, v5, v6⟩ := hV; go_simp) HS0.out ?_
                        simp only [Act.put, List.setIfInBounds_toArray, List.set_cons_zero, List.set_cons_succ]
                        refine takeH (i := 2) (v := .int .i64 (c : Int)) (d := 133) rfl rfl (by kernel_rfl) (by kernel_rfl) (by kernel_rfl) (fun _ _ _ h => h) (by rfl) (fun V hV => by obtain ⟨⟨v1, v2⟩, ⟨v3, v4⟩, v5, v6⟩ := hV; go_simp) HS0.out ?_
                        simp only [Act.put, List.setIfInBounds_toArray, List.set_cons_zero, List.set_cons_succ]
                        refine takeH (i := 3) (v := .pointer (some ⟨xb, xo + c * 4, none⟩)) (d := 134) rfl rfl (by kernel_rfl) (by kernel_rfl) (by kernel_rfl) (fun _ _ _ h => h) (by rfl) (fun V hV => by obtain ⟨⟨v1, v2⟩, ⟨v3, v4⟩, v5, v6⟩ := hV; go_simp) HS0.out ?_
                        simp only [Act.put, List.setIfInBounds_toArray, List.set_cons_zero, List.set_cons_succ]
                        refine takeH (i := 4) (v := .agg #[.int .i64 1, .int .i64 (i : Int), .int .i64 m.1, .int .i64 m.2]) (d := 135) rfl rfl (by kernel_rfl) (by kernel_rfl) (by kernel_rfl) (fun _ _ _ h => h) (by rfl) (fun V hV => by obtain ⟨⟨v1, v2⟩, ⟨v3, v4⟩, v5, v6⟩ := hV; go_simp) HS0.out ?_
                        simp only [Act.put, List.setIfInBounds_toArray, List.set_cons_zero, List.set_cons_succ]
                        refine threeH (i := 5) (j := 11) (m := 12) rfl rfl rfl (by kernel_rfl) rfl rfl rfl ?way1call ?way1r ?way1a
                        case way1call =>
                          refine call_gets (d := 136) (f := 20) (xs := #[.tmp 131, .tmp 135]) (ats := #[26, 48]) rfl rfl ehear (vs := #[.agg #[.int .i64 1, .int .i64 (k2 : Int)], .agg #[.int .i64 1, .int .i64 (i : Int), .int .i64 m.1, .int .i64 m.2]]) (by simp [Act.eval]) (CC.out _ B0) ?_
                          rintro vr wc1 ⟨yv, rfl, ho, hb⟩
                          have bc1 : Below wr.heap.size wr wc1 := B0.trans (hb.mono B0.size)
                          have OC : Hid (wc1.ownsRow wr.heap.size 33 2 (yv) (hearL (k2 : Int) (i : Int) m).length ((hearL (k2 : Int) (i : Int) m).flatMap encM)) := own_lower ho B0.size
                          obtain ⟨ya, yc, rfl⟩ := (MlR.ownd OC.out).shape
                          have HS1 : Hid ((wc1.cell? ⟨q10, 0, none⟩ = some (.int .i64 1) ∧ wc1.cell? ⟨q10, 1, none⟩ = some (.int .i64 (k2 : Int))) ∧ (wc1.cell? ⟨xb, xo + c * 4, none⟩ = some (.int .i64 1) ∧ wc1.cell? ⟨xb, xo + c * 4 + 1, none⟩ = some (.int .i64 (i : Int))) ∧ wc1.cell? ⟨xb, xo + c * 4 + 2, none⟩ = some (.int .i64 m.1) ∧ wc1.cell? ⟨xb, xo + c * 4 + 3, none⟩ = some (.int .i64 m.2)) := KEEP.out wc1 bc1
                          clear ho hb
                          refine ⟨HS1.out, ?_⟩
                          simp only [Act.put, List.setIfInBounds_toArray, List.set_cons_zero, List.set_cons_succ]
                          refine takeH (i := 6) (v := .tuple #[.agg #[.int .i64 1, .int .i64 ((wantF k2 i : Nat) : Int)], .slice ya (hearL (k2 : Int) (i : Int) m).length yc, .agg #[.int .i64 1, .int .i64 ((wantF k2 i : Nat) : Int)], .int .i64 0]) (d := 130) rfl rfl (by kernel_rfl) (by kernel_rfl) (by kernel_rfl) (fun _ _ _ h => h) (by rfl) (fun V hV => by obtain ⟨⟨v1, v2⟩, ⟨v3, v4⟩, v5, v6⟩ := hV; go_simp) HS1.out ?_
                          simp only [Act.put, List.setIfInBounds_toArray, List.set_cons_zero, List.set_cons_succ]
                          refine takeH (i := 7) (v := .agg #[.int .i64 1, .int .i64 ((wantF k2 i : Nat) : Int)]) (d := 137) rfl rfl (by kernel_rfl) (by kernel_rfl) (by kernel_rfl) (fun _ _ _ h => h) (by rfl) (fun V hV => by obtain ⟨⟨v1, v2⟩, ⟨v3, v4⟩, v5, v6⟩ := hV; go_simp) HS1.out ?_
                          simp only [Act.put, List.setIfInBounds_toArray, List.set_cons_zero, List.set_cons_succ]
                          refine takeH (i := 8) (v := .slice ya (hearL (k2 : Int) (i : Int) m).length yc) (d := 138) rfl rfl (by kernel_rfl) (by kernel_rfl) (by kernel_rfl) (fun _ _ _ h => h) (by rfl) (fun V hV => by obtain ⟨⟨v1, v2⟩, ⟨v3, v4⟩, v5, v6⟩ := hV; go_simp) HS1.out ?_
                          simp only [Act.put, List.setIfInBounds_toArray, List.set_cons_zero, List.set_cons_succ]
                          refine takeH (i := 9) (v := .agg #[.int .i64 1, .int .i64 ((wantF k2 i : Nat) : Int)]) (d := 139) rfl rfl (by kernel_rfl) (by kernel_rfl) (by kernel_rfl) (fun _ _ _ h => h) (by rfl) (fun V hV => by obtain ⟨⟨v1, v2⟩, ⟨v3, v4⟩, v5, v6⟩ := hV; go_simp) HS1.out ?_
                          simp only [Act.put, List.setIfInBounds_toArray, List.set_cons_zero, List.set_cons_succ]
                          refine takeH (i := 10) (v := .int .i64 0) (d := 140) rfl rfl (by kernel_rfl) (by kernel_rfl) (by kernel_rfl) (fun _ _ _ h => h) (by rfl) (fun V hV => by obtain ⟨⟨v1, v2⟩, ⟨v3, v4⟩, v5, v6⟩ := hV; go_simp) HS1.out ?_
                          simp only [Act.put, List.setIfInBounds_toArray, List.set_cons_zero, List.set_cons_succ]
                          refine twoH (i := 11) (j := 12) rfl rfl (by kernel_rfl) rfl rfl ?way2r ?way2a
                          case way2r =>
                            refine op_run (d := 25) (v' := .pointer (some ⟨wc1.heap.size, 0, none⟩)) (w' := wc1.alloc (.cells #[.int .i64 0, .int .i64 0] 26)) rfl (by go_simp) ⟨KEEP.out _ (bc1.alloc bc1.size _), ?_⟩
                            simp only [Act.put, List.setIfInBounds_toArray, List.set_cons_zero, List.set_cons_succ]
                            have X_r : Hid (BX 26 (wc1.alloc (.cells #[.int .i64 0, .int .i64 0] 26)) (wc1.heap.size) #[.int .i64 0, .int .i64 0]) := BX.new _ _ _
                            have L_r : Hid (wr.heap.size ≤ wc1.heap.size) := bc1.size
                            have bc2 : Below wr.heap.size wr (wc1.alloc (.cells #[.int .i64 0, .int .i64 0] 26)) := bc1.alloc bc1.size _
                            have HS2 : Hid (((wc1.alloc (.cells #[.int .i64 0, .int .i64 0] 26)).cell? ⟨q10, 0, none⟩ = some (.int .i64 1) ∧ (wc1.alloc (.cells #[.int .i64 0, .int .i64 0] 26)).cell? ⟨q10, 1, none⟩ = some (.int .i64 (k2 : Int))) ∧ ((wc1.alloc (.cells #[.int .i64 0, .int .i64 0] 26)).cell? ⟨xb, xo + c * 4, none⟩ = some (.int .i64 1) ∧ (wc1.alloc (.cells #[.int .i64 0, .int .i64 0] 26)).cell? ⟨xb, xo + c * 4 + 1, none⟩ = some (.int .i64 (i : Int))) ∧ (wc1.alloc (.cells #[.int .i64 0, .int .i64 0] 26)).cell? ⟨xb, xo + c * 4 + 2, none⟩ = some (.int .i64 m.1) ∧ (wc1.alloc (.cells #[.int .i64 0, .int .i64 0] 26)).cell? ⟨xb, xo + c * 4 + 3, none⟩ = some (.int .i64 m.2)) := KEEP.out _ bc2
                            replace OC : Hid ((wc1.alloc (.cells #[.int .i64 0, .int .i64 0] 26)).ownsRow wr.heap.size 33 2 (.slice ya (hearL (k2 : Int) (i : Int) m).length yc) (hearL (k2 : Int) (i : Int) m).length ((hearL (k2 : Int) (i : Int) m).flatMap encM)) := OC.out.alloc _
                            generalize wc1.alloc (.cells #[.int .i64 0, .int .i64 0] 26) = wa2 at *
                            refine oneH (i := 12) rfl (by kernel_rfl) rfl (op_run (d := 27) (v' := .pointer (some ⟨wa2.heap.size, 0, none⟩)) (w' := wa2.alloc (.cells #[.int .i64 0, .int .i64 0] 44)) rfl (by go_simp) ⟨KEEP.out _ (bc2.alloc bc2.size _), ?_⟩)
                            simp only [Act.put, List.setIfInBounds_toArray, List.set_cons_zero, List.set_cons_succ]
                            have NE_r_a : (wc1.heap.size) ≠ wa2.heap.size := Nat.ne_of_lt X_r.out.lt
                            have X_a : Hid (BX 44 (wa2.alloc (.cells #[.int .i64 0, .int .i64 0] 44)) (wa2.heap.size) #[.int .i64 0, .int .i64 0]) := BX.new _ _ _
                            have L_a : Hid (wr.heap.size ≤ wa2.heap.size) := bc2.size
                            have bc3 : Below wr.heap.size wr (wa2.alloc (.cells #[.int .i64 0, .int .i64 0] 44)) := bc2.alloc bc2.size _
                            have HS3 : Hid (((wa2.alloc (.cells #[.int .i64 0, .int .i64 0] 44)).cell? ⟨q10, 0, none⟩ = some (.int .i64 1) ∧ (wa2.alloc (.cells #[.int .i64 0, .int .i64 0] 44)).cell? ⟨q10, 1, none⟩ = some (.int .i64 (k2 : Int))) ∧ ((wa2.alloc (.cells #[.int .i64 0, .int .i64 0] 44)).cell? ⟨xb, xo + c * 4, none⟩ = some (.int .i64 1) ∧ (wa2.alloc (.cells #[.int .i64 0, .int .i64 0] 44)).cell? ⟨xb, xo + c * 4 + 1, none⟩ = some (.int .i64 (i : Int))) ∧ (wa2.alloc (.cells #[.int .i64 0, .int .i64 0] 44)).cell? ⟨xb, xo + c * 4 + 2, none⟩ = some (.int .i64 m.1) ∧ (wa2.alloc (.cells #[.int .i64 0, .int .i64 0] 44)).cell? ⟨xb, xo + c * 4 + 3, none⟩ = some (.int .i64 m.2)) := KEEP.out _ bc3
                            replace X_r : Hid (BX 26 (wa2.alloc (.cells #[.int .i64 0, .int .i64 0] 44)) (wc1.heap.size) #[.int .i64 0, .int .i64 0]) := X_r.out.below (below_alloc _ _) X_r.out.lt
                            replace OC : Hid ((wa2.alloc (.cells #[.int .i64 0, .int .i64 0] 44)).ownsRow wr.heap.size 33 2 (.slice ya (hearL (k2 : Int) (i : Int) m).length yc) (hearL (k2 : Int) (i : Int) m).length ((hearL (k2 : Int) (i : Int) m).flatMap encM)) := OC.out.alloc _
                            generalize wa2.alloc (.cells #[.int .i64 0, .int .i64 0] 44) = wa3 at *
                            obtain ⟨n0, n1, n2, n3⟩ := X_r.out.all2
                            have bd0 : Below wr.heap.size wr (put2 wa3 (wc1.heap.size) (.int .i64 1) (.int .i64 ((wantF k2 i : Nat) : Int))) := below_put2 bc3 L_r.out _ _
                            have HT0 : Hid (((put2 wa3 (wc1.heap.size) (.int .i64 1) (.int .i64 ((wantF k2 i : Nat) : Int))).cell? ⟨q10, 0, none⟩ = some (.int .i64 1) ∧ (put2 wa3 (wc1.heap.size) (.int .i64 1) (.int .i64 ((wantF k2 i : Nat) : Int))).cell? ⟨q10, 1, none⟩ = some (.int .i64 (k2 : Int))) ∧ ((put2 wa3 (wc1.heap.size) (.int .i64 1) (.int .i64 ((wantF k2 i : Nat) : Int))).cell? ⟨xb, xo + c * 4, none⟩ = some (.int .i64 1) ∧ (put2 wa3 (wc1.heap.size) (.int .i64 1) (.int .i64 ((wantF k2 i : Nat) : Int))).cell? ⟨xb, xo + c * 4 + 1, none⟩ = some (.int .i64 (i : Int))) ∧ (put2 wa3 (wc1.heap.size) (.int .i64 1) (.int .i64 ((wantF k2 i : Nat) : Int))).cell? ⟨xb, xo + c * 4 + 2, none⟩ = some (.int .i64 m.1) ∧ (put2 wa3 (wc1.heap.size) (.int .i64 1) (.int .i64 ((wantF k2 i : Nat) : Int))).cell? ⟨xb, xo + c * 4 + 3, none⟩ = some (.int .i64 m.2)) := KEEP.out _ bd0
                            have Y_r : Hid (BX 26 (put2 wa3 (wc1.heap.size) (.int .i64 1) (.int .i64 ((wantF k2 i : Nat) : Int))) (wc1.heap.size) #[.int .i64 1, .int .i64 ((wantF k2 i : Nat) : Int)]) := X_r.out.put2 _ _
                            replace X_a : Hid (BX 44 (put2 wa3 (wc1.heap.size) (.int .i64 1) (.int .i64 ((wantF k2 i : Nat) : Int))) (wa2.heap.size) #[.int .i64 0, .int .i64 0]) := X_a.out.off2 NE_r_a.symm
                            replace OC : Hid ((put2 wa3 (wc1.heap.size) (.int .i64 1) (.int .i64 ((wantF k2 i : Nat) : Int))).ownsRow wr.heap.size 33 2 (.slice ya (hearL (k2 : Int) (i : Int) m).length yc) (hearL (k2 : Int) (i : Int) m).length ((hearL (k2 : Int) (i : Int) m).flatMap encM)) := X_r.out.own2 OC.out (by decide)
                            refine oneH (i := 13) rfl (by kernel_rfl) rfl (op_skip (w' := (put2 wa3 (wc1.heap.size) (.int .i64 1) (.int .i64 ((wantF k2 i : Nat) : Int)))) rfl (by unfold put2; go_simp) ⟨HT0.out, ?_⟩)
                            clear n0 n1 n2 n3 X_r
                            generalize put2 wa3 (wc1.heap.size) (.int .i64 1) (.int .i64 ((wantF k2 i : Nat) : Int)) = wp4_0 at *
                            refine takeH (i := 14) (v := .slice ya (hearL (k2 : Int) (i : Int) m).length yc) (d := 26) rfl rfl (by kernel_rfl) (by kernel_rfl) (by kernel_rfl) (fun _ _ _ h => h) (by rfl) (fun V hV => by obtain ⟨⟨v1, v2⟩, ⟨v3, v4⟩, v5, v6⟩ := hV; go_simp) HT0.out ?_
                            simp only [Act.put, List.setIfInBounds_toArray, List.set_cons_zero, List.set_cons_succ]
                            obtain ⟨n0, n1, n2, n3⟩ := X_a.out.all2
                            have bd1 : Below wr.heap.size wr (put2 wp4_0 (wa2.heap.size) (.int .i64 1) (.int .i64 ((wantF k2 i : Nat) : Int))) := below_put2 bd0 L_a.out _ _
                            have HT1 : Hid (((put2 wp4_0 (wa2.heap.size) (.int .i64 1) (.int .i64 ((wantF k2 i : Nat) : Int))).cell? ⟨q10, 0, none⟩ = some (.int .i64 1) ∧ (put2 wp4_0 (wa2.heap.size) (.int .i64 1) (.int .i64 ((wantF k2 i : Nat) : Int))).cell? ⟨q10, 1, none⟩ = some (.int .i64 (k2 : Int))) ∧ ((put2 wp4_0 (wa2.heap.size) (.int .i64 1) (.int .i64 ((wantF k2 i : Nat) : Int))).cell? ⟨xb, xo + c * 4, none⟩ = some (.int .i64 1) ∧ (put2 wp4_0 (wa2.heap.size) (.int .i64 1) (.int .i64 ((wantF k2 i : Nat) : Int))).cell? ⟨xb, xo + c * 4 + 1, none⟩ = some (.int .i64 (i : Int))) ∧ (put2 wp4_0 (wa2.heap.size) (.int .i64 1) (.int .i64 ((wantF k2 i : Nat) : Int))).cell? ⟨xb, xo + c * 4 + 2, none⟩ = some (.int .i64 m.1) ∧ (put2 wp4_0 (wa2.heap.size) (.int .i64 1) (.int .i64 ((wantF k2 i : Nat) : Int))).cell? ⟨xb, xo + c * 4 + 3, none⟩ = some (.int .i64 m.2)) := KEEP.out _ bd1
                            replace Y_r : Hid (BX 26 (put2 wp4_0 (wa2.heap.size) (.int .i64 1) (.int .i64 ((wantF k2 i : Nat) : Int))) (wc1.heap.size) #[.int .i64 1, .int .i64 ((wantF k2 i : Nat) : Int)]) := Y_r.out.off2 NE_r_a
                            have Y_a : Hid (BX 44 (put2 wp4_0 (wa2.heap.size) (.int .i64 1) (.int .i64 ((wantF k2 i : Nat) : Int))) (wa2.heap.size) #[.int .i64 1, .int .i64 ((wantF k2 i : Nat) : Int)]) := X_a.out.put2 _ _
                            replace OC : Hid ((put2 wp4_0 (wa2.heap.size) (.int .i64 1) (.int .i64 ((wantF k2 i : Nat) : Int))).ownsRow wr.heap.size 33 2 (.slice ya (hearL (k2 : Int) (i : Int) m).length yc) (hearL (k2 : Int) (i : Int) m).length ((hearL (k2 : Int) (i : Int) m).flatMap encM)) := X_a.out.own2 OC.out (by decide)
                            refine oneH (i := 15) rfl (by kernel_rfl) rfl (op_skip (w' := (put2 wp4_0 (wa2.heap.size) (.int .i64 1) (.int .i64 ((wantF k2 i : Nat) : Int)))) rfl (by unfold put2; go_simp) ⟨HT1.out, ?_⟩)
                            clear n0 n1 n2 n3 X_a
                            generalize put2 wp4_0 (wa2.heap.size) (.int .i64 1) (.int .i64 ((wantF k2 i : Nat) : Int)) = wp4_1 at *
                            refine takeH (i := 16) (v := .int .i64 0) (d := 28) rfl rfl (by kernel_rfl) (by kernel_rfl) (by kernel_rfl) (fun _ _ _ h => h) (by rfl) (fun V hV => by obtain ⟨⟨v1, v2⟩, ⟨v3, v4⟩, v5, v6⟩ := hV; go_simp) HT1.out ?_
                            simp only [Act.put, List.setIfInBounds_toArray, List.set_cons_zero, List.set_cons_succ]
                            refine wpAnyH_done (by kernel_rfl) ?_ _
                            have FB : Hid (Below wr.heap.size wr wp4_1) := bd1
                            clear bc1 HS1 bc2 HS2 NE_r_a bc3 HS3 bd0 HT0 bd1 HT1
                            generalize wc1.heap.size = pb_r at *
                            generalize wa2.heap.size = pb_a at *
                            revert L_a
                            revert L_r
                            revert FB
                            revert OC
                            revert Y_a
                            revert Y_r
                            revert wp4_1
                            revert pb_a
                            revert pb_r
                            revert yc
                            revert ya
                            exact HG.out
                          case way2a =>
                            refine op_run (d := 27) (v' := .pointer (some ⟨wc1.heap.size, 0, none⟩)) (w' := wc1.alloc (.cells #[.int .i64 0, .int .i64 0] 44)) rfl (by go_simp) ⟨KEEP.out _ (bc1.alloc bc1.size _), ?_⟩
                            simp only [Act.put, List.setIfInBounds_toArray, List.set_cons_zero, List.set_cons_succ]
                            have X_a : Hid (BX 44 (wc1.alloc (.cells #[.int .i64 0, .int .i64 0] 44)) (wc1.heap.size) #[.int .i64 0, .int .i64 0]) := BX.new _ _ _
                            have L_a : Hid (wr.heap.size ≤ wc1.heap.size) := bc1.size
                            have bc2 : Below wr.heap.size wr (wc1.alloc (.cells #[.int .i64 0, .int .i64 0] 44)) := bc1.alloc bc1.size _
                            have HS2 : Hid (((wc1.alloc (.cells #[.int .i64 0, .int .i64 0] 44)).cell? ⟨q10, 0, none⟩ = some (.int .i64 1) ∧ (wc1.alloc (.cells #[.int .i64 0, .int .i64 0] 44)).cell? ⟨q10, 1, none⟩ = some (.int .i64 (k2 : Int))) ∧ ((wc1.alloc (.cells #[.int .i64 0, .int .i64 0] 44)).cell? ⟨xb, xo + c * 4, none⟩ = some (.int .i64 1) ∧ (wc1.alloc (.cells #[.int .i64 0, .int .i64 0] 44)).cell? ⟨xb, xo + c * 4 + 1, none⟩ = some (.int .i64 (i : Int))) ∧ (wc1.alloc (.cells #[.int .i64 0, .int .i64 0] 44)).cell? ⟨xb, xo + c * 4 + 2, none⟩ = some (.int .i64 m.1) ∧ (wc1.alloc (.cells #[.int .i64 0, .int .i64 0] 44)).cell? ⟨xb, xo + c * 4 + 3, none⟩ = some (.int .i64 m.2)) := KEEP.out _ bc2
                            replace OC : Hid ((wc1.alloc (.cells #[.int .i64 0, .int .i64 0] 44)).ownsRow wr.heap.size 33 2 (.slice ya (hearL (k2 : Int) (i : Int) m).length yc) (hearL (k2 : Int) (i : Int) m).length ((hearL (k2 : Int) (i : Int) m).flatMap encM)) := OC.out.alloc _
                            generalize wc1.alloc (.cells #[.int .i64 0, .int .i64 0] 44) = wa2 at *
                            refine oneH (i := 11) rfl (by kernel_rfl) rfl (op_run (d := 25) (v' := .pointer (some ⟨wa2.heap.size, 0, none⟩)) (w' := wa2.alloc (.cells #[.int .i64 0, .int .i64 0] 26)) rfl (by go_simp) ⟨KEEP.out _ (bc2.alloc bc2.size _), ?_⟩)
                            simp only [Act.put, List.setIfInBounds_toArray, List.set_cons_zero, List.set_cons_succ]
                            have NE_a_r : (wc1.heap.size) ≠ wa2.heap.size := Nat.ne_of_lt X_a.out.lt
                            have X_r : Hid (BX 26 (wa2.alloc (.cells #[.int .i64 0, .int .i64 0] 26)) (wa2.heap.size) #[.int .i64 0, .int .i64 0]) := BX.new _ _ _
                            have L_r : Hid (wr.heap.size ≤ wa2.heap.size) := bc2.size
                            have bc3 : Below wr.heap.size wr (wa2.alloc (.cells #[.int .i64 0, .int .i64 0] 26)) := bc2.alloc bc2.size _
                            have HS3 : Hid (((wa2.alloc (.cells #[.int .i64 0, .int .i64 0] 26)).cell? ⟨q10, 0, none⟩ = some (.int .i64 1) ∧ (wa2.alloc (.cells #[.int .i64 0, .int .i64 0] 26)).cell? ⟨q10, 1, none⟩ = some (.int .i64 (k2 : Int))) ∧ ((wa2.alloc (.cells #[.int .i64 0, .int .i64 0] 26)).cell? ⟨xb, xo + c * 4, none⟩ = some (.int .i64 1) ∧ (wa2.alloc (.cells #[.int .i64 0, .int .i64 0] 26)).cell? ⟨xb, xo + c * 4 + 1, none⟩ = some (.int .i64 (i : Int))) ∧ (wa2.alloc (.cells #[.int .i64 0, .int .i64 0] 26)).cell? ⟨xb, xo + c * 4 + 2, none⟩ = some (.int .i64 m.1) ∧ (wa2.alloc (.cells #[.int .i64 0, .int .i64 0] 26)).cell? ⟨xb, xo + c * 4 + 3, none⟩ = some (.int .i64 m.2)) := KEEP.out _ bc3
                            replace X_a : Hid (BX 44 (wa2.alloc (.cells #[.int .i64 0, .int .i64 0] 26)) (wc1.heap.size) #[.int .i64 0, .int .i64 0]) := X_a.out.below (below_alloc _ _) X_a.out.lt
                            replace OC : Hid ((wa2.alloc (.cells #[.int .i64 0, .int .i64 0] 26)).ownsRow wr.heap.size 33 2 (.slice ya (hearL (k2 : Int) (i : Int) m).length yc) (hearL (k2 : Int) (i : Int) m).length ((hearL (k2 : Int) (i : Int) m).flatMap encM)) := OC.out.alloc _
                            generalize wa2.alloc (.cells #[.int .i64 0, .int .i64 0] 26) = wa3 at *
                            obtain ⟨n0, n1, n2, n3⟩ := X_r.out.all2
                            have bd0 : Below wr.heap.size wr (put2 wa3 (wa2.heap.size) (.int .i64 1) (.int .i64 ((wantF k2 i : Nat) : Int))) := below_put2 bc3 L_r.out _ _
                            have HT0 : Hid (((put2 wa3 (wa2.heap.size) (.int .i64 1) (.int .i64 ((wantF k2 i : Nat) : Int))).cell? ⟨q10, 0, none⟩ = some (.int .i64 1) ∧ (put2 wa3 (wa2.heap.size) (.int .i64 1) (.int .i64 ((wantF k2 i : Nat) : Int))).cell? ⟨q10, 1, none⟩ = some (.int .i64 (k2 : Int))) ∧ ((put2 wa3 (wa2.heap.size) (.int .i64 1) (.int .i64 ((wantF k2 i : Nat) : Int))).cell? ⟨xb, xo + c * 4, none⟩ = some (.int .i64 1) ∧ (put2 wa3 (wa2.heap.size) (.int .i64 1) (.int .i64 ((wantF k2 i : Nat) : Int))).cell? ⟨xb, xo + c * 4 + 1, none⟩ = some (.int .i64 (i : Int))) ∧ (put2 wa3 (wa2.heap.size) (.int .i64 1) (.int .i64 ((wantF k2 i : Nat) : Int))).cell? ⟨xb, xo + c * 4 + 2, none⟩ = some (.int .i64 m.1) ∧ (put2 wa3 (wa2.heap.size) (.int .i64 1) (.int .i64 ((wantF k2 i : Nat) : Int))).cell? ⟨xb, xo + c * 4 + 3, none⟩ = some (.int .i64 m.2)) := KEEP.out _ bd0
                            replace X_a : Hid (BX 44 (put2 wa3 (wa2.heap.size) (.int .i64 1) (.int .i64 ((wantF k2 i : Nat) : Int))) (wc1.heap.size) #[.int .i64 0, .int .i64 0]) := X_a.out.off2 NE_a_r
                            have Y_r : Hid (BX 26 (put2 wa3 (wa2.heap.size) (.int .i64 1) (.int .i64 ((wantF k2 i : Nat) : Int))) (wa2.heap.size) #[.int .i64 1, .int .i64 ((wantF k2 i : Nat) : Int)]) := X_r.out.put2 _ _
                            replace OC : Hid ((put2 wa3 (wa2.heap.size) (.int .i64 1) (.int .i64 ((wantF k2 i : Nat) : Int))).ownsRow wr.heap.size 33 2 (.slice ya (hearL (k2 : Int) (i : Int) m).length yc) (hearL (k2 : Int) (i : Int) m).length ((hearL (k2 : Int) (i : Int) m).flatMap encM)) := X_r.out.own2 OC.out (by decide)
                            refine oneH (i := 13) rfl (by kernel_rfl) rfl (op_skip (w' := (put2 wa3 (wa2.heap.size) (.int .i64 1) (.int .i64 ((wantF k2 i : Nat) : Int)))) rfl (by unfold put2; go_simp) ⟨HT0.out, ?_⟩)
                            clear n0 n1 n2 n3 X_r
                            generalize put2 wa3 (wa2.heap.size) (.int .i64 1) (.int .i64 ((wantF k2 i : Nat) : Int)) = wp4_0 at *
                            refine takeH (i := 14) (v := .slice ya (hearL (k2 : Int) (i : Int) m).length yc) (d := 26) rfl rfl (by kernel_rfl) (by kernel_rfl) (by kernel_rfl) (fun _ _ _ h => h) (by rfl) (fun V hV => by obtain ⟨⟨v1, v2⟩, ⟨v3, v4⟩, v5, v6⟩ := hV; go_simp) HT0.out ?_
                            simp only [Act.put, List.setIfInBounds_toArray, List.set_cons_zero, List.set_cons_succ]
                            obtain ⟨n0, n1, n2, n3⟩ := X_a.out.all2
                            have bd1 : Below wr.heap.size wr (put2 wp4_0 (wc1.heap.size) (.int .i64 1) (.int .i64 ((wantF k2 i : Nat) : Int))) := below_put2 bd0 L_a.out _ _
                            have HT1 : Hid (((put2 wp4_0 (wc1.heap.size) (.int .i64 1) (.int .i64 ((wantF k2 i : Nat) : Int))).cell? ⟨q10, 0, none⟩ = some (.int .i64 1) ∧ (put2 wp4_0 (wc1.heap.size) (.int .i64 1) (.int .i64 ((wantF k2 i : Nat) : Int))).cell? ⟨q10, 1, none⟩ = some (.int .i64 (k2 : Int))) ∧ ((put2 wp4_0 (wc1.heap.size) (.int .i64 1) (.int .i64 ((wantF k2 i : Nat) : Int))).cell? ⟨xb, xo + c * 4, none⟩ = some (.int .i64 1) ∧ (put2 wp4_0 (wc1.heap.size) (.int .i64 1) (.int .i64 ((wantF k2 i : Nat) : Int))).cell? ⟨xb, xo + c * 4 + 1, none⟩ = some (.int .i64 (i : Int))) ∧ (put2 wp4_0 (wc1.heap.size) (.int .i64 1) (.int .i64 ((wantF k2 i : Nat) : Int))).cell? ⟨xb, xo + c * 4 + 2, none⟩ = some (.int .i64 m.1) ∧ (put2 wp4_0 (wc1.heap.size) (.int .i64 1) (.int .i64 ((wantF k2 i : Nat) : Int))).cell? ⟨xb, xo + c * 4 + 3, none⟩ = some (.int .i64 m.2)) := KEEP.out _ bd1
                            have Y_a : Hid (BX 44 (put2 wp4_0 (wc1.heap.size) (.int .i64 1) (.int .i64 ((wantF k2 i : Nat) : Int))) (wc1.heap.size) #[.int .i64 1, .int .i64 ((wantF k2 i : Nat) : Int)]) := X_a.out.put2 _ _
                            replace Y_r : Hid (BX 26 (put2 wp4_0 (wc1.heap.size) (.int .i64 1) (.int .i64 ((wantF k2 i : Nat) : Int))) (wa2.heap.size) #[.int .i64 1, .int .i64 ((wantF k2 i : Nat) : Int)]) := Y_r.out.off2 NE_a_r.symm
                            replace OC : Hid ((put2 wp4_0 (wc1.heap.size) (.int .i64 1) (.int .i64 ((wantF k2 i : Nat) : Int))).ownsRow wr.heap.size 33 2 (.slice ya (hearL (k2 : Int) (i : Int) m).length yc) (hearL (k2 : Int) (i : Int) m).length ((hearL (k2 : Int) (i : Int) m).flatMap encM)) := X_a.out.own2 OC.out (by decide)
                            refine oneH (i := 15) rfl (by kernel_rfl) rfl (op_skip (w' := (put2 wp4_0 (wc1.heap.size) (.int .i64 1) (.int .i64 ((wantF k2 i : Nat) : Int)))) rfl (by unfold put2; go_simp) ⟨HT1.out, ?_⟩)
                            clear n0 n1 n2 n3 X_a
                            generalize put2 wp4_0 (wc1.heap.size) (.int .i64 1) (.int .i64 ((wantF k2 i : Nat) : Int)) = wp4_1 at *
                            refine takeH (i := 16) (v := .int .i64 0) (d := 28) rfl rfl (by kernel_rfl) (by kernel_rfl) (by kernel_rfl) (fun _ _ _ h => h) (by rfl) (fun V hV => by obtain ⟨⟨v1, v2⟩, ⟨v3, v4⟩, v5, v6⟩ := hV; go_simp) HT1.out ?_
                            simp only [Act.put, List.setIfInBounds_toArray, List.set_cons_zero, List.set_cons_succ]
                            refine wpAnyH_done (by kernel_rfl) ?_ _
                            have FB : Hid (Below wr.heap.size wr wp4_1) := bd1
                            exact HG.out ya yc (wa2.heap.size) (wc1.heap.size) wp4_1 Y_r Y_a OC FB L_r L_a
                        case way1r =>
                          refine op_run (d := 25) (v' := .pointer (some ⟨wr.heap.size, 0, none⟩)) (w' := wr.drew.alloc (.cells #[.int .i64 0, .int .i64 0] 26)) rfl (by go_simp) ⟨KEEP.out _ (B0.alloc B0.size _), ?_⟩
                          simp only [Act.put, List.setIfInBounds_toArray, List.set_cons_zero, List.set_cons_succ]
                          have X_r : Hid (BX 26 (wr.drew.alloc (.cells #[.int .i64 0, .int .i64 0] 26)) (wr.heap.size) #[.int .i64 0, .int .i64 0]) := BX.new _ _ _
                          have L_r : Hid (wr.heap.size ≤ wr.heap.size) := Nat.le_refl _
                          have bc1 : Below wr.heap.size wr (wr.drew.alloc (.cells #[.int .i64 0, .int .i64 0] 26)) := B0.alloc B0.size _
                          have HS1 : Hid (((wr.drew.alloc (.cells #[.int .i64 0, .int .i64 0] 26)).cell? ⟨q10, 0, none⟩ = some (.int .i64 1) ∧ (wr.drew.alloc (.cells #[.int .i64 0, .int .i64 0] 26)).cell? ⟨q10, 1, none⟩ = some (.int .i64 (k2 : Int))) ∧ ((wr.drew.alloc (.cells #[.int .i64 0, .int .i64 0] 26)).cell? ⟨xb, xo + c * 4, none⟩ = some (.int .i64 1) ∧ (wr.drew.alloc (.cells #[.int .i64 0, .int .i64 0] 26)).cell? ⟨xb, xo + c * 4 + 1, none⟩ = some (.int .i64 (i : Int))) ∧ (wr.drew.alloc (.cells #[.int .i64 0, .int .i64 0] 26)).cell? ⟨xb, xo + c * 4 + 2, none⟩ = some (.int .i64 m.1) ∧ (wr.drew.alloc (.cells #[.int .i64 0, .int .i64 0] 26)).cell? ⟨xb, xo + c * 4 + 3, none⟩ = some (.int .i64 m.2)) := KEEP.out _ bc1
                          generalize wr.drew.alloc (.cells #[.int .i64 0, .int .i64 0] 26) = wa1 at *
                          refine twoH (i := 5) (j := 12) rfl rfl (by kernel_rfl) rfl rfl ?way2call ?way2a
                          case way2call =>
                            refine call_gets (d := 136) (f := 20) (xs := #[.tmp 131, .tmp 135]) (ats := #[26, 48]) rfl rfl ehear (vs := #[.agg #[.int .i64 1, .int .i64 (k2 : Int)], .agg #[.int .i64 1, .int .i64 (i : Int), .int .i64 m.1, .int .i64 m.2]]) (by simp [Act.eval]) (CC.out _ bc1) ?_
                            rintro vr wc2 ⟨yv, rfl, ho, hb⟩
                            have bc2 : Below wr.heap.size wr wc2 := bc1.trans (hb.mono bc1.size)
                            have OC : Hid (wc2.ownsRow wr.heap.size 33 2 (yv) (hearL (k2 : Int) (i : Int) m).length ((hearL (k2 : Int) (i : Int) m).flatMap encM)) := own_lower ho bc1.size
                            obtain ⟨ya, yc, rfl⟩ := (MlR.ownd OC.out).shape
                            have HS2 : Hid ((wc2.cell? ⟨q10, 0, none⟩ = some (.int .i64 1) ∧ wc2.cell? ⟨q10, 1, none⟩ = some (.int .i64 (k2 : Int))) ∧ (wc2.cell? ⟨xb, xo + c * 4, none⟩ = some (.int .i64 1) ∧ wc2.cell? ⟨xb, xo + c * 4 + 1, none⟩ = some (.int .i64 (i : Int))) ∧ wc2.cell? ⟨xb, xo + c * 4 + 2, none⟩ = some (.int .i64 m.1) ∧ wc2.cell? ⟨xb, xo + c * 4 + 3, none⟩ = some (.int .i64 m.2)) := KEEP.out wc2 bc2
                            replace X_r : Hid (BX 26 wc2 (wr.heap.size) #[.int .i64 0, .int .i64 0]) := X_r.out.below hb X_r.out.lt
                            clear ho hb
                            refine ⟨HS2.out, ?_⟩
                            simp only [Act.put, List.setIfInBounds_toArray, List.set_cons_zero, List.set_cons_succ]
                            refine takeH (i := 6) (v := .tuple #[.agg #[.int .i64 1, .int .i64 ((wantF k2 i : Nat) : Int)], .slice ya (hearL (k2 : Int) (i : Int) m).length yc, .agg #[.int .i64 1, .int .i64 ((wantF k2 i : Nat) : Int)], .int .i64 0]) (d := 130) rfl rfl (by kernel_rfl) (by kernel_rfl) (by kernel_rfl) (fun _ _ _ h => h) (by rfl) (fun V hV => by obtain ⟨⟨v1, v2⟩, ⟨v3, v4⟩, v5, v6⟩ := hV; go_simp) HS2.out ?_
                            simp only [Act.put, List.setIfInBounds_toArray, List.set_cons_zero, List.set_cons_succ]
                            refine takeH (i := 7) (v := .agg #[.int .i64 1, .int .i64 ((wantF k2 i : Nat) : Int)]) (d := 137) rfl rfl (by kernel_rfl) (by kernel_rfl) (by kernel_rfl) (fun _ _ _ h => h) (by rfl) (fun V hV => by obtain ⟨⟨v1, v2⟩, ⟨v3, v4⟩, v5, v6⟩ := hV; go_simp) HS2.out ?_
                            simp only [Act.put, List.setIfInBounds_toArray, List.set_cons_zero, List.set_cons_succ]
                            refine takeH (i := 8) (v := .slice ya (hearL (k2 : Int) (i : Int) m).length yc) (d := 138) rfl rfl (by kernel_rfl) (by kernel_rfl) (by kernel_rfl) (fun _ _ _ h => h) (by rfl) (fun V hV => by obtain ⟨⟨v1, v2⟩, ⟨v3, v4⟩, v5, v6⟩ := hV; go_simp) HS2.out ?_
                            simp only [Act.put, List.setIfInBounds_toArray, List.set_cons_zero, List.set_cons_succ]
                            refine takeH (i := 9) (v := .agg #[.int .i64 1, .int .i64 ((wantF k2 i : Nat) : Int)]) (d := 139) rfl rfl (by kernel_rfl) (by kernel_rfl) (by kernel_rfl) (fun _ _ _ h => h) (by rfl) (fun V hV => by obtain ⟨⟨v1, v2⟩, ⟨v3, v4⟩, v5, v6⟩ := hV; go_simp) HS2.out ?_
                            simp only [Act.put, List.setIfInBounds_toArray, List.set_cons_zero, List.set_cons_succ]
                            refine takeH (i := 10) (v := .int .i64 0) (d := 140) rfl rfl (by kernel_rfl) (by kernel_rfl) (by kernel_rfl) (fun _ _ _ h => h) (by rfl) (fun V hV => by obtain ⟨⟨v1, v2⟩, ⟨v3, v4⟩, v5, v6⟩ := hV; go_simp) HS2.out ?_
                            simp only [Act.put, List.setIfInBounds_toArray, List.set_cons_zero, List.set_cons_succ]
                            refine oneH (i := 12) rfl (by kernel_rfl) rfl (op_run (d := 27) (v' := .pointer (some ⟨wc2.heap.size, 0, none⟩)) (w' := wc2.alloc (.cells #[.int .i64 0, .int .i64 0] 44)) rfl (by go_simp) ⟨KEEP.out _ (bc2.alloc bc2.size _), ?_⟩)
                            simp only [Act.put, List.setIfInBounds_toArray, List.set_cons_zero, List.set_cons_succ]
                            have NE_r_a : (wr.heap.size) ≠ wc2.heap.size := Nat.ne_of_lt X_r.out.lt
                            have X_a : Hid (BX 44 (wc2.alloc (.cells #[.int .i64 0, .int .i64 0] 44)) (wc2.heap.size) #[.int .i64 0, .int .i64 0]) := BX.new _ _ _
                            have L_a : Hid (wr.heap.size ≤ wc2.heap.size) := bc2.size
                            have bc3 : Below wr.heap.size wr (wc2.alloc (.cells #[.int .i64 0, .int .i64 0] 44)) := bc2.alloc bc2.size _
                            have HS3 : Hid (((wc2.alloc (.cells #[.int .i64 0, .int .i64 0] 44)).cell? ⟨q10, 0, none⟩ = some (.int .i64 1) ∧ (wc2.alloc (.cells #[.int .i64 0, .int .i64 0] 44)).cell? ⟨q10, 1, none⟩ = some (.int .i64 (k2 : Int))) ∧ ((wc2.alloc (.cells #[.int .i64 0, .int .i64 0] 44)).cell? ⟨xb, xo + c * 4, none⟩ = some (.int .i64 1) ∧ (wc2.alloc (.cells #[.int .i64 0, .int .i64 0] 44)).cell? ⟨xb, xo + c * 4 + 1, none⟩ = some (.int .i64 (i : Int))) ∧ (wc2.alloc (.cells #[.int .i64 0, .int .i64 0] 44)).cell? ⟨xb, xo + c * 4 + 2, none⟩ = some (.int .i64 m.1) ∧ (wc2.alloc (.cells #[.int .i64 0, .int .i64 0] 44)).cell? ⟨xb, xo + c * 4 + 3, none⟩ = some (.int .i64 m.2)) := KEEP.out _ bc3
                            replace X_r : Hid (BX 26 (wc2.alloc (.cells #[.int .i64 0, .int .i64 0] 44)) (wr.heap.size) #[.int .i64 0, .int .i64 0]) := X_r.out.below (below_alloc _ _) X_r.out.lt
                            replace OC : Hid ((wc2.alloc (.cells #[.int .i64 0, .int .i64 0] 44)).ownsRow wr.heap.size 33 2 (.slice ya (hearL (k2 : Int) (i : Int) m).length yc) (hearL (k2 : Int) (i : Int) m).length ((hearL (k2 : Int) (i : Int) m).flatMap encM)) := OC.out.alloc _
                            generalize wc2.alloc (.cells #[.int .i64 0, .int .i64 0] 44) = wa3 at *
                            obtain ⟨n0, n1, n2, n3⟩ := X_r.out.all2
                            have bd0 : Below wr.heap.size wr (put2 wa3 (wr.heap.size) (.int .i64 1) (.int .i64 ((wantF k2 i : Nat) : Int))) := below_put2 bc3 L_r.out _ _
                            have HT0 : Hid (((put2 wa3 (wr.heap.size) (.int .i64 1) (.int .i64 ((wantF k2 i : Nat) : Int))).cell? ⟨q10, 0, none⟩ = some (.int .i64 1) ∧ (put2 wa3 (wr.heap.size) (.int .i64 1) (.int .i64 ((wantF k2 i : Nat) : Int))).cell? ⟨q10, 1, none⟩ = some (.int .i64 (k2 : Int))) ∧ ((put2 wa3 (wr.heap.size) (.int .i64 1) (.int .i64 ((wantF k2 i : Nat) : Int))).cell? ⟨xb, xo + c * 4, none⟩ = some (.int .i64 1) ∧ (put2 wa3 (wr.heap.size) (.int .i64 1) (.int .i64 ((wantF k2 i : Nat) : Int))).cell? ⟨xb, xo + c * 4 + 1, none⟩ = some (.int .i64 (i : Int))) ∧ (put2 wa3 (wr.heap.size) (.int .i64 1) (.int .i64 ((wantF k2 i : Nat) : Int))).cell? ⟨xb, xo + c * 4 + 2, none⟩ = some (.int .i64 m.1) ∧ (put2 wa3 (wr.heap.size) (.int .i64 1) (.int .i64 ((wantF k2 i : Nat) : Int))).cell? ⟨xb, xo + c * 4 + 3, none⟩ = some (.int .i64 m.2)) := KEEP.out _ bd0
                            have Y_r : Hid (BX 26 (put2 wa3 (wr.heap.size) (.int .i64 1) (.int .i64 ((wantF k2 i : Nat) : Int))) (wr.heap.size) #[.int .i64 1, .int .i64 ((wantF k2 i : Nat) : Int)]) := X_r.out.put2 _ _
                            replace X_a : Hid (BX 44 (put2 wa3 (wr.heap.size) (.int .i64 1) (.int .i64 ((wantF k2 i : Nat) : Int))) (wc2.heap.size) #[.int .i64 0, .int .i64 0]) := X_a.out.off2 NE_r_a.symm
                            replace OC : Hid ((put2 wa3 (wr.heap.size) (.int .i64 1) (.int .i64 ((wantF k2 i : Nat) : Int))).ownsRow wr.heap.size 33 2 (.slice ya (hearL (k2 : Int) (i : Int) m).length yc) (hearL (k2 : Int) (i : Int) m).length ((hearL (k2 : Int) (i : Int) m).flatMap encM)) := X_r.out.own2 OC.out (by decide)
                            refine oneH (i := 13) rfl (by kernel_rfl) rfl (op_skip (w' := (put2 wa3 (wr.heap.size) (.int .i64 1) (.int .i64 ((wantF k2 i : Nat) : Int)))) rfl (by unfold put2; go_simp) ⟨HT0.out, ?_⟩)
                            clear n0 n1 n2 n3 X_r
                            generalize put2 wa3 (wr.heap.size) (.int .i64 1) (.int .i64 ((wantF k2 i : Nat) : Int)) = wp4_0 at *
                            refine takeH (i := 14) (v := .slice ya (hearL (k2 : Int) (i : Int) m).length yc) (d := 26) rfl rfl (by kernel_rfl) (by kernel_rfl) (by kernel_rfl) (fun _ _ _ h => h) (by rfl) (fun V hV => by obtain ⟨⟨v1, v2⟩, ⟨v3, v4⟩, v5, v6⟩ := hV; go_simp) HT0.out ?_
                            simp only [Act.put, List.setIfInBounds_toArray, List.set_cons_zero, List.set_cons_succ]
                            obtain ⟨n0, n1, n2, n3⟩ := X_a.out.all2
                            have bd1 : Below wr.heap.size wr (put2 wp4_0 (wc2.heap.size) (.int .i64 1) (.int .i64 ((wantF k2 i : Nat) : Int))) := below_put2 bd0 L_a.out _ _
                            have HT1 : Hid (((put2 wp4_0 (wc2.heap.size) (.int .i64 1) (.int .i64 ((wantF k2 i : Nat) : Int))).cell? ⟨q10, 0, none⟩ = some (.int .i64 1) ∧ (put2 wp4_0 (wc2.heap.size) (.int .i64 1) (.int .i64 ((wantF k2 i : Nat) : Int))).cell? ⟨q10, 1, none⟩ = some (.int .i64 (k2 : Int))) ∧ ((put2 wp4_0 (wc2.heap.size) (.int .i64 1) (.int .i64 ((wantF k2 i : Nat) : Int))).cell? ⟨xb, xo + c * 4, none⟩ = some (.int .i64 1) ∧ (put2 wp4_0 (wc2.heap.size) (.int .i64 1) (.int .i64 ((wantF k2 i : Nat) : Int))).cell? ⟨xb, xo + c * 4 + 1, none⟩ = some (.int .i64 (i : Int))) ∧ (put2 wp4_0 (wc2.heap.size) (.int .i64 1) (.int .i64 ((wantF k2 i : Nat) : Int))).cell? ⟨xb, xo + c * 4 + 2, none⟩ = some (.int .i64 m.1) ∧ (put2 wp4_0 (wc2.heap.size) (.int .i64 1) (.int .i64 ((wantF k2 i : Nat) : Int))).cell? ⟨xb, xo + c * 4 + 3, none⟩ = some (.int .i64 m.2)) := KEEP.out _ bd1
                            replace Y_r : Hid (BX 26 (put2 wp4_0 (wc2.heap.size) (.int .i64 1) (.int .i64 ((wantF k2 i : Nat) : Int))) (wr.heap.size) #[.int .i64 1, .int .i64 ((wantF k2 i : Nat) : Int)]) := Y_r.out.off2 NE_r_a
                            have Y_a : Hid (BX 44 (put2 wp4_0 (wc2.heap.size) (.int .i64 1) (.int .i64 ((wantF k2 i : Nat) : Int))) (wc2.heap.size) #[.int .i64 1, .int .i64 ((wantF k2 i : Nat) : Int)]) := X_a.out.put2 _ _
                            replace OC : Hid ((put2 wp4_0 (wc2.heap.size) (.int .i64 1) (.int .i64 ((wantF k2 i : Nat) : Int))).ownsRow wr.heap.size 33 2 (.slice ya (hearL (k2 : Int) (i : Int) m).length yc) (hearL (k2 : Int) (i : Int) m).length ((hearL (k2 : Int) (i : Int) m).flatMap encM)) := X_a.out.own2 OC.out (by decide)
                            refine oneH (i := 15) rfl (by kernel_rfl) rfl (op_skip (w' := (put2 wp4_0 (wc2.heap.size) (.int .i64 1) (.int .i64 ((wantF k2 i : Nat) : Int)))) rfl (by unfold put2; go_simp) ⟨HT1.out, ?_⟩)
                            clear n0 n1 n2 n3 X_a
                            generalize put2 wp4_0 (wc2.heap.size) (.int .i64 1) (.int .i64 ((wantF k2 i : Nat) : Int)) = wp4_1 at *
                            refine takeH (i := 16) (v := .int .i64 0) (d := 28) rfl rfl (by kernel_rfl) (by kernel_rfl) (by kernel_rfl) (fun _ _ _ h => h) (by rfl) (fun V hV => by obtain ⟨⟨v1, v2⟩, ⟨v3, v4⟩, v5, v6⟩ := hV; go_simp) HT1.out ?_
                            simp only [Act.put, List.setIfInBounds_toArray, List.set_cons_zero, List.set_cons_succ]
                            refine wpAnyH_done (by kernel_rfl) ?_ _
                            have FB : Hid (Below wr.heap.size wr wp4_1) := bd1
                            exact HG.out ya yc (wr.heap.size) (wc2.heap.size) wp4_1 Y_r Y_a OC FB L_r L_a
                          case way2a =>
                            refine op_run (d := 27) (v' := .pointer (some ⟨wa1.heap.size, 0, none⟩)) (w' := wa1.alloc (.cells #[.int .i64 0, .int .i64 0] 44)) rfl (by go_simp) ⟨KEEP.out _ (bc1.alloc bc1.size _), ?_⟩
                            simp only [Act.put, List.setIfInBounds_toArray, List.set_cons_zero, List.set_cons_succ]
                            have NE_r_a : (wr.heap.size) ≠ wa1.heap.size := Nat.ne_of_lt X_r.out.lt
                            have X_a : Hid (BX 44 (wa1.alloc (.cells #[.int .i64 0, .int .i64 0] 44)) (wa1.heap.size) #[.int .i64 0, .int .i64 0]) := BX.new _ _ _
                            have L_a : Hid (wr.heap.size ≤ wa1.heap.size) := bc1.size
                            have bc2 : Below wr.heap.size wr (wa1.alloc (.cells #[.int .i64 0, .int .i64 0] 44)) := bc1.alloc bc1.size _
                            have HS2 : Hid (((wa1.alloc (.cells #[.int .i64 0, .int .i64 0] 44)).cell? ⟨q10, 0, none⟩ = some (.int .i64 1) ∧ (wa1.alloc (.cells #[.int .i64 0, .int .i64 0] 44)).cell? ⟨q10, 1, none⟩ = some (.int .i64 (k2 : Int))) ∧ ((wa1.alloc (.cells #[.int .i64 0, .int .i64 0] 44)).cell? ⟨xb, xo + c * 4, none⟩ = some (.int .i64 1) ∧ (wa1.alloc (.cells #[.int .i64 0, .int .i64 0] 44)).cell? ⟨xb, xo + c * 4 + 1, none⟩ = some (.int .i64 (i : Int))) ∧ (wa1.alloc (.cells #[.int .i64 0, .int .i64 0] 44)).cell? ⟨xb, xo + c * 4 + 2, none⟩ = some (.int .i64 m.1) ∧ (wa1.alloc (.cells #[.int .i64 0, .int .i64 0] 44)).cell? ⟨xb, xo + c * 4 + 3, none⟩ = some (.int .i64 m.2)) := KEEP.out _ bc2
                            replace X_r : Hid (BX 26 (wa1.alloc (.cells #[.int .i64 0, .int .i64 0] 44)) (wr.heap.size) #[.int .i64 0, .int .i64 0]) := X_r.out.below (below_alloc _ _) X_r.out.lt
                            generalize wa1.alloc (.cells #[.int .i64 0, .int .i64 0] 44) = wa2 at *
                            refine oneH (i := 5) rfl (by kernel_rfl) rfl (call_gets (d := 136) (f := 20) (xs := #[.tmp 131, .tmp 135]) (ats := #[26, 48]) rfl rfl ehear (vs := #[.agg #[.int .i64 1, .int .i64 (k2 : Int)], .agg #[.int .i64 1, .int .i64 (i : Int), .int .i64 m.1, .int .i64 m.2]]) (by simp [Act.eval]) (CC.out _ bc2) ?_)
                            rintro vr wc3 ⟨yv, rfl, ho, hb⟩
                            have bc3 : Below wr.heap.size wr wc3 := bc2.trans (hb.mono bc2.size)
                            have OC : Hid (wc3.ownsRow wr.heap.size 33 2 (yv) (hearL (k2 : Int) (i : Int) m).length ((hearL (k2 : Int) (i : Int) m).flatMap encM)) := own_lower ho bc2.size
                            obtain ⟨ya, yc, rfl⟩ := (MlR.ownd OC.out).shape
                            have HS3 : Hid ((wc3.cell? ⟨q10, 0, none⟩ = some (.int .i64 1) ∧ wc3.cell? ⟨q10, 1, none⟩ = some (.int .i64 (k2 : Int))) ∧ (wc3.cell? ⟨xb, xo + c * 4, none⟩ = some (.int .i64 1) ∧ wc3.cell? ⟨xb, xo + c * 4 + 1, none⟩ = some (.int .i64 (i : Int))) ∧ wc3.cell? ⟨xb, xo + c * 4 + 2, none⟩ = some (.int .i64 m.1) ∧ wc3.cell? ⟨xb, xo + c * 4 + 3, none⟩ = some (.int .i64 m.2)) := KEEP.out wc3 bc3
                            replace X_r : Hid (BX 26 wc3 (wr.heap.size) #[.int .i64 0, .int .i64 0]) := X_r.out.below hb X_r.out.lt
                            replace X_a : Hid (BX 44 wc3 (wa1.heap.size) #[.int .i64 0, .int .i64 0]) := X_a.out.below hb X_a.out.lt
                            clear ho hb
                            refine ⟨HS3.out, ?_⟩
                            simp only [Act.put, List.setIfInBounds_toArray, List.set_cons_zero, List.set_cons_succ]
                            refine takeH (i := 6) (v := .tuple #[.agg #[.int .i64 1, .int .i64 ((wantF k2 i : Nat) : Int)], .slice ya (hearL (k2 : Int) (i : Int) m).length yc, .agg #[.int .i64 1, .int .i64 ((wantF k2 i : Nat) : Int)], .int .i64 0]) (d := 130) rfl rfl (by kernel_rfl) (by kernel_rfl) (by kernel_rfl) (fun _ _ _ h => h) (by rfl) (fun V hV => by obtain ⟨⟨v1, v2⟩, ⟨v3, v4⟩, v5, v6⟩ := hV; go_simp) HS3.out ?_
                            simp only [Act.put, List.setIfInBounds_toArray, List.set_cons_zero, List.set_cons_succ]
                            refine takeH (i := 7) (v := .agg #[.int .i64 1, .int .i64 ((wantF k2 i : Nat) : Int)]) (d := 137) rfl rfl (by kernel_rfl) (by kernel_rfl) (by kernel_rfl) (fun _ _ _ h => h) (by rfl) (fun V hV => by obtain ⟨⟨v1, v2⟩, ⟨v3, v4⟩, v5, v6⟩ := hV; go_simp) HS3.out ?_
                            simp only [Act.put, List.setIfInBounds_toArray, List.set_cons_zero, List.set_cons_succ]
                            refine takeH (i := 8) (v := .slice ya (hearL (k2 : Int) (i : Int) m).length yc) (d := 138) rfl rfl (by kernel_rfl) (by kernel_rfl) (by kernel_rfl) (fun _ _ _ h => h) (by rfl) (fun V hV => by obtain ⟨⟨v1, v2⟩, ⟨v3, v4⟩, v5, v6⟩ := hV; go_simp) HS3.out ?_
                            simp only [Act.put, List.setIfInBounds_toArray, List.set_cons_zero, List.set_cons_succ]
                            refine takeH (i := 9) (v := .agg #[.int .i64 1, .int .i64 ((wantF k2 i : Nat) : Int)]) (d := 139) rfl rfl (by kernel_rfl) (by kernel_rfl) (by kernel_rfl) (fun _ _ _ h => h) (by rfl) (fun V hV => by obtain ⟨⟨v1, v2⟩, ⟨v3, v4⟩, v5, v6⟩ := hV; go_simp) HS3.out ?_
                            simp only [Act.put, List.setIfInBounds_toArray, List.set_cons_zero, List.set_cons_succ]
                            refine takeH (i := 10) (v := .int .i64 0) (d := 140) rfl rfl (by kernel_rfl) (by kernel_rfl) (by kernel_rfl) (fun _ _ _ h => h) (by rfl) (fun V hV => by obtain ⟨⟨v1, v2⟩, ⟨v3, v4⟩, v5, v6⟩ := hV; go_simp) HS3.out ?_
                            simp only [Act.put, List.setIfInBounds_toArray, List.set_cons_zero, List.set_cons_succ]
                            obtain ⟨n0, n1, n2, n3⟩ := X_r.out.all2
                            have bd0 : Below wr.heap.size wr (put2 wc3 (wr.heap.size) (.int .i64 1) (.int .i64 ((wantF k2 i : Nat) : Int))) := below_put2 bc3 L_r.out _ _
                            have HT0 : Hid (((put2 wc3 (wr.heap.size) (.int .i64 1) (.int .i64 ((wantF k2 i : Nat) : Int))).cell? ⟨q10, 0, none⟩ = some (.int .i64 1) ∧ (put2 wc3 (wr.heap.size) (.int .i64 1) (.int .i64 ((wantF k2 i : Nat) : Int))).cell? ⟨q10, 1, none⟩ = some (.int .i64 (k2 : Int))) ∧ ((put2 wc3 (wr.heap.size) (.int .i64 1) (.int .i64 ((wantF k2 i : Nat) : Int))).cell? ⟨xb, xo + c * 4, none⟩ = some (.int .i64 1) ∧ (put2 wc3 (wr.heap.size) (.int .i64 1) (.int .i64 ((wantF k2 i : Nat) : Int))).cell? ⟨xb, xo + c * 4 + 1, none⟩ = some (.int .i64 (i : Int))) ∧ (put2 wc3 (wr.heap.size) (.int .i64 1) (.int .i64 ((wantF k2 i : Nat) : Int))).cell? ⟨xb, xo + c * 4 + 2, none⟩ = some (.int .i64 m.1) ∧ (put2 wc3 (wr.heap.size) (.int .i64 1) (.int .i64 ((wantF k2 i : Nat) : Int))).cell? ⟨xb, xo + c * 4 + 3, none⟩ = some (.int .i64 m.2)) := KEEP.out _ bd0
                            have Y_r : Hid (BX 26 (put2 wc3 (wr.heap.size) (.int .i64 1) (.int .i64 ((wantF k2 i : Nat) : Int))) (wr.heap.size) #[.int .i64 1, .int .i64 ((wantF k2 i : Nat) : Int)]) := X_r.out.put2 _ _
                            replace X_a : Hid (BX 44 (put2 wc3 (wr.heap.size) (.int .i64 1) (.int .i64 ((wantF k2 i : Nat) : Int))) (wa1.heap.size) #[.int .i64 0, .int .i64 0]) := X_a.out.off2 NE_r_a.symm
                            replace OC : Hid ((put2 wc3 (wr.heap.size) (.int .i64 1) (.int .i64 ((wantF k2 i : Nat) : Int))).ownsRow wr.heap.size 33 2 (.slice ya (hearL (k2 : Int) (i : Int) m).length yc) (hearL (k2 : Int) (i : Int) m).length ((hearL (k2 : Int) (i : Int) m).flatMap encM)) := X_r.out.own2 OC.out (by decide)
                            refine oneH (i := 13) rfl (by kernel_rfl) rfl (op_skip (w' := (put2 wc3 (wr.heap.size) (.int .i64 1) (.int .i64 ((wantF k2 i : Nat) : Int)))) rfl (by unfold put2; go_simp) ⟨HT0.out, ?_⟩)
                            clear n0 n1 n2 n3 X_r
                            generalize put2 wc3 (wr.heap.size) (.int .i64 1) (.int .i64 ((wantF k2 i : Nat) : Int)) = wp4_0 at *
                            refine takeH (i := 14) (v := .slice ya (hearL (k2 : Int) (i : Int) m).length yc) (d := 26) rfl rfl (by kernel_rfl) (by kernel_rfl) (by kernel_rfl) (fun _ _ _ h => h) (by rfl) (fun V hV => by obtain ⟨⟨v1, v2⟩, ⟨v3, v4⟩, v5, v6⟩ := hV; go_simp) HT0.out ?_
                            simp only [Act.put, List.setIfInBounds_toArray, List.set_cons_zero, List.set_cons_succ]
                            obtain ⟨n0, n1, n2, n3⟩ := X_a.out.all2
                            have bd1 : Below wr.heap.size wr (put2 wp4_0 (wa1.heap.size) (.int .i64 1) (.int .i64 ((wantF k2 i : Nat) : Int))) := below_put2 bd0 L_a.out _ _
                            have HT1 : Hid (((put2 wp4_0 (wa1.heap.size) (.int .i64 1) (.int .i64 ((wantF k2 i : Nat) : Int))).cell? ⟨q10, 0, none⟩ = some (.int .i64 1) ∧ (put2 wp4_0 (wa1.heap.size) (.int .i64 1) (.int .i64 ((wantF k2 i : Nat) : Int))).cell? ⟨q10, 1, none⟩ = some (.int .i64 (k2 : Int))) ∧ ((put2 wp4_0 (wa1.heap.size) (.int .i64 1) (.int .i64 ((wantF k2 i : Nat) : Int))).cell? ⟨xb, xo + c * 4, none⟩ = some (.int .i64 1) ∧ (put2 wp4_0 (wa1.heap.size) (.int .i64 1) (.int .i64 ((wantF k2 i : Nat) : Int))).cell? ⟨xb, xo + c * 4 + 1, none⟩ = some (.int .i64 (i : Int))) ∧ (put2 wp4_0 (wa1.heap.size) (.int .i64 1) (.int .i64 ((wantF k2 i : Nat) : Int))).cell? ⟨xb, xo + c * 4 + 2, none⟩ = some (.int .i64 m.1) ∧ (put2 wp4_0 (wa1.heap.size) (.int .i64 1) (.int .i64 ((wantF k2 i : Nat) : Int))).cell? ⟨xb, xo + c * 4 + 3, none⟩ = some (.int .i64 m.2)) := KEEP.out _ bd1
                            replace Y_r : Hid (BX 26 (put2 wp4_0 (wa1.heap.size) (.int .i64 1) (.int .i64 ((wantF k2 i : Nat) : Int))) (wr.heap.size) #[.int .i64 1, .int .i64 ((wantF k2 i : Nat) : Int)]) := Y_r.out.off2 NE_r_a
                            have Y_a : Hid (BX 44 (put2 wp4_0 (wa1.heap.size) (.int .i64 1) (.int .i64 ((wantF k2 i : Nat) : Int))) (wa1.heap.size) #[.int .i64 1, .int .i64 ((wantF k2 i : Nat) : Int)]) := X_a.out.put2 _ _
                            replace OC : Hid ((put2 wp4_0 (wa1.heap.size) (.int .i64 1) (.int .i64 ((wantF k2 i : Nat) : Int))).ownsRow wr.heap.size 33 2 (.slice ya (hearL (k2 : Int) (i : Int) m).length yc) (hearL (k2 : Int) (i : Int) m).length ((hearL (k2 : Int) (i : Int) m).flatMap encM)) := X_a.out.own2 OC.out (by decide)
                            refine oneH (i := 15) rfl (by kernel_rfl) rfl (op_skip (w' := (put2 wp4_0 (wa1.heap.size) (.int .i64 1) (.int .i64 ((wantF k2 i : Nat) : Int)))) rfl (by unfold put2; go_simp) ⟨HT1.out, ?_⟩)
                            clear n0 n1 n2 n3 X_a
                            generalize put2 wp4_0 (wa1.heap.size) (.int .i64 1) (.int .i64 ((wantF k2 i : Nat) : Int)) = wp4_1 at *
                            refine takeH (i := 16) (v := .int .i64 0) (d := 28) rfl rfl (by kernel_rfl) (by kernel_rfl) (by kernel_rfl) (fun _ _ _ h => h) (by rfl) (fun V hV => by obtain ⟨⟨v1, v2⟩, ⟨v3, v4⟩, v5, v6⟩ := hV; go_simp) HT1.out ?_
                            simp only [Act.put, List.setIfInBounds_toArray, List.set_cons_zero, List.set_cons_succ]
                            refine wpAnyH_done (by kernel_rfl) ?_ _
                            have FB : Hid (Below wr.heap.size wr wp4_1) := bd1
                            exact HG.out ya yc (wr.heap.size) (wa1.heap.size) wp4_1 Y_r Y_a OC FB L_r L_a
                        case way1a =>
                          refine op_run (d := 27) (v' := .pointer (some ⟨wr.heap.size, 0, none⟩)) (w' := wr.drew.alloc (.cells #[.int .i64 0, .int .i64 0] 44)) rfl (by go_simp) ⟨KEEP.out _ (B0.alloc B0.size _), ?_⟩
                          simp only [Act.put, List.setIfInBounds_toArray, List.set_cons_zero, List.set_cons_succ]
                          have X_a : Hid (BX 44 (wr.drew.alloc (.cells #[.int .i64 0, .int .i64 0] 44)) (wr.heap.size) #[.int .i64 0, .int .i64 0]) := BX.new _ _ _
                          have L_a : Hid (wr.heap.size ≤ wr.heap.size) := Nat.le_refl _
                          have bc1 : Below wr.heap.size wr (wr.drew.alloc (.cells #[.int .i64 0, .int .i64 0] 44)) := B0.alloc B0.size _
                          have HS1 : Hid (((wr.drew.alloc (.cells #[.int .i64 0, .int .i64 0] 44)).cell? ⟨q10, 0, none⟩ = some (.int .i64 1) ∧ (wr.drew.alloc (.cells #[.int .i64 0, .int .i64 0] 44)).cell? ⟨q10, 1, none⟩ = some (.int .i64 (k2 : Int))) ∧ ((wr.drew.alloc (.cells #[.int .i64 0, .int .i64 0] 44)).cell? ⟨xb, xo + c * 4, none⟩ = some (.int .i64 1) ∧ (wr.drew.alloc (.cells #[.int .i64 0, .int .i64 0] 44)).cell? ⟨xb, xo + c * 4 + 1, none⟩ = some (.int .i64 (i : Int))) ∧ (wr.drew.alloc (.cells #[.int .i64 0, .int .i64 0] 44)).cell? ⟨xb, xo + c * 4 + 2, none⟩ = some (.int .i64 m.1) ∧ (wr.drew.alloc (.cells #[.int .i64 0, .int .i64 0] 44)).cell? ⟨xb, xo + c * 4 + 3, none⟩ = some (.int .i64 m.2)) := KEEP.out _ bc1
                          generalize wr.drew.alloc (.cells #[.int .i64 0, .int .i64 0] 44) = wa1 at *
                          refine twoH (i := 5) (j := 11) rfl rfl (by kernel_rfl) rfl rfl ?way2call ?way2r
                          case way2call =>
                            refine call_gets (d := 136) (f := 20) (xs := #[.tmp 131, .tmp 135]) (ats := #[26, 48]) rfl rfl ehear (vs := #[.agg #[.int .i64 1, .int .i64 (k2 : Int)], .agg #[.int .i64 1, .int .i64 (i : Int), .int .i64 m.1, .int .i64 m.2]]) (by simp [Act.eval]) (CC.out _ bc1) ?_
                            rintro vr wc2 ⟨yv, rfl, ho, hb⟩
                            have bc2 : Below wr.heap.size wr wc2 := bc1.trans (hb.mono bc1.size)
                            have OC : Hid (wc2.ownsRow wr.heap.size 33 2 (yv) (hearL (k2 : Int) (i : Int) m).length ((hearL (k2 : Int) (i : Int) m).flatMap encM)) := own_lower ho bc1.size
                            obtain ⟨ya, yc, rfl⟩ := (MlR.ownd OC.out).shape
                            have HS2 : Hid ((wc2.cell? ⟨q10, 0, none⟩ = some (.int .i64 1) ∧ wc2.cell? ⟨q10, 1, none⟩ = some (.int .i64 (k2 : Int))) ∧ (wc2.cell? ⟨xb, xo + c * 4, none⟩ = some (.int .i64 1) ∧ wc2.cell? ⟨xb, xo + c * 4 + 1, none⟩ = some (.int .i64 (i : Int))) ∧ wc2.cell? ⟨xb, xo + c * 4 + 2, none⟩ = some (.int .i64 m.1) ∧ wc2.cell? ⟨xb, xo + c * 4 + 3, none⟩ = some (.int .i64 m.2)) := KEEP.out wc2 bc2
                            replace X_a : Hid (BX 44 wc2 (wr.heap.size) #[.int .i64 0, .int .i64 0]) := X_a.out.below hb X_a.out.lt
                            clear ho hb
                            refine ⟨HS2.out, ?_⟩
                            simp only [Act.put, List.setIfInBounds_toArray, List.set_cons_zero, List.set_cons_succ]
                            refine takeH (i := 6) (v := .tuple #[.agg #[.int .i64 1, .int .i64 ((wantF k2 i : Nat) : Int)], .slice ya (hearL (k2 : Int) (i : Int) m).length yc, .agg #[.int .i64 1, .int .i64 ((wantF k2 i : Nat) : Int)], .int .i64 0]) (d := 130) rfl rfl (by kernel_rfl) (by kernel_rfl) (by kernel_rfl) (fun _ _ _ h => h) (by rfl) (fun V hV => by obtain ⟨⟨v1, v2⟩, ⟨v3, v4⟩, v5, v6⟩ := hV; go_simp) HS2.out ?_
                            simp only [Act.put, List.setIfInBounds_toArray, List.set_cons_zero, List.set_cons_succ]
                            refine takeH (i := 7) (v := .agg #[.int .i64 1, .int .i64 ((wantF k2 i : Nat) : Int)]) (d := 137) rfl rfl (by kernel_rfl) (by kernel_rfl) (by kernel_rfl) (fun _ _ _ h => h) (by rfl) (fun V hV => by obtain ⟨⟨v1, v2⟩, ⟨v3, v4⟩, v5, v6⟩ := hV; go_simp) HS2.out ?_
                            simp only [Act.put, List.setIfInBounds_toArray, List.set_cons_zero, List.set_cons_succ]
                            refine takeH (i := 8) (v := .slice ya (hearL (k2 : Int) (i : Int) m).length yc) (d := 138) rfl rfl (by kernel_rfl) (by kernel_rfl) (by kernel_rfl) (fun _ _ _ h => h) (by rfl) (fun V hV => by obtain ⟨⟨v1, v2⟩, ⟨v3, v4⟩, v5, v6⟩ := hV; go_simp) HS2.out ?_
                            simp only [Act.put, List.setIfInBounds_toArray, List.set_cons_zero, List.set_cons_succ]
                            refine takeH (i := 9) (v := .agg #[.int .i64 1, .int .i64 ((wantF k2 i : Nat) : Int)]) (d := 139) rfl rfl (by kernel_rfl) (by kernel_rfl) (by kernel_rfl) (fun _ _ _ h => h) (by rfl) (fun V hV => by obtain ⟨⟨v1, v2⟩, ⟨v3, v4⟩, v5, v6⟩ := hV; go_simp) HS2.out ?_
                            simp only [Act.put, List.setIfInBounds_toArray, List.set_cons_zero, List.set_cons_succ]
                            refine takeH (i := 10) (v := .int .i64 0) (d := 140) rfl rfl (by kernel_rfl) (by kernel_rfl) (by kernel_rfl) (fun _ _ _ h => h) (by rfl) (fun V hV => by obtain ⟨⟨v1, v2⟩, ⟨v3, v4⟩, v5, v6⟩ := hV; go_simp) HS2.out ?_
                            simp only [Act.put, List.setIfInBounds_toArray, List.set_cons_zero, List.set_cons_succ]
                            refine oneH (i := 11) rfl (by kernel_rfl) rfl (op_run (d := 25) (v' := .pointer (some ⟨wc2.heap.size, 0, none⟩)) (w' := wc2.alloc (.cells #[.int .i64 0, .int .i64 0] 26)) rfl (by go_simp) ⟨KEEP.out _ (bc2.alloc bc2.size _), ?_⟩)
                            simp only [Act.put, List.setIfInBounds_toArray, List.set_cons_zero, List.set_cons_succ]
                            have NE_a_r : (wr.heap.size) ≠ wc2.heap.size := Nat.ne_of_lt X_a.out.lt
                            have X_r : Hid (BX 26 (wc2.alloc (.cells #[.int .i64 0, .int .i64 0] 26)) (wc2.heap.size) #[.int .i64 0, .int .i64 0]) := BX.new _ _ _
                            have L_r : Hid (wr.heap.size ≤ wc2.heap.size) := bc2.size
                            have bc3 : Below wr.heap.size wr (wc2.alloc (.cells #[.int .i64 0, .int .i64 0] 26)) := bc2.alloc bc2.size _
                            have HS3 : Hid (((wc2.alloc (.cells #[.int .i64 0, .int .i64 0] 26)).cell? ⟨q10, 0, none⟩ = some (.int .i64 1) ∧ (wc2.alloc (.cells #[.int .i64 0, .int .i64 0] 26)).cell? ⟨q10, 1, none⟩ = some (.int .i64 (k2 : Int))) ∧ ((wc2.alloc (.cells #[.int .i64 0, .int .i64 0] 26)).cell? ⟨xb, xo + c * 4, none⟩ = some (.int .i64 1) ∧ (wc2.alloc (.cells #[.int .i64 0, .int .i64 0] 26)).cell? ⟨xb, xo + c * 4 + 1, none⟩ = some (.int .i64 (i : Int))) ∧ (wc2.alloc (.cells #[.int .i64 0, .int .i64 0] 26)).cell? ⟨xb, xo + c * 4 + 2, none⟩ = some (.int .i64 m.1) ∧ (wc2.alloc (.cells #[.int .i64 0, .int .i64 0] 26)).cell? ⟨xb, xo + c * 4 + 3, none⟩ = some (.int .i64 m.2)) := KEEP.out _ bc3
                            replace X_a : Hid (BX 44 (wc2.alloc (.cells #[.int .i64 0, .int .i64 0] 26)) (wr.heap.size) #[.int .i64 0, .int .i64 0]) := X_a.out.below (below_alloc _ _) X_a.out.lt
                            replace OC : Hid ((wc2.alloc (.cells #[.int .i64 0, .int .i64 0] 26)).ownsRow wr.heap.size 33 2 (.slice ya (hearL (k2 : Int) (i : Int) m).length yc) (hearL (k2 : Int) (i : Int) m).length ((hearL (k2 : Int) (i : Int) m).flatMap encM)) := OC.out.alloc _
                            generalize wc2.alloc (.cells #[.int .i64 0, .int .i64 0] 26) = wa3 at *
                            obtain ⟨n0, n1, n2, n3⟩ := X_r.out.all2
                            have bd0 : Below wr.heap.size wr (put2 wa3 (wc2.heap.size) (.int .i64 1) (.int .i64 ((wantF k2 i : Nat) : Int))) := below_put2 bc3 L_r.out _ _
                            have HT0 : Hid (((put2 wa3 (wc2.heap.size) (.int .i64 1) (.int .i64 ((wantF k2 i : Nat) : Int))).cell? ⟨q10, 0, none⟩ = some (.int .i64 1) ∧ (put2 wa3 (wc2.heap.size) (.int .i64 1) (.int .i64 ((wantF k2 i : Nat) : Int))).cell? ⟨q10, 1, none⟩ = some (.int .i64 (k2 : Int))) ∧ ((put2 wa3 (wc2.heap.size) (.int .i64 1) (.int .i64 ((wantF k2 i : Nat) : Int))).cell? ⟨xb, xo + c * 4, none⟩ = some (.int .i64 1) ∧ (put2 wa3 (wc2.heap.size) (.int .i64 1) (.int .i64 ((wantF k2 i : Nat) : Int))).cell? ⟨xb, xo + c * 4 + 1, none⟩ = some (.int .i64 (i : Int))) ∧ (put2 wa3 (wc2.heap.size) (.int .i64 1) (.int .i64 ((wantF k2 i : Nat) : Int))).cell? ⟨xb, xo + c * 4 + 2, none⟩ = some (.int .i64 m.1) ∧ (put2 wa3 (wc2.heap.size) (.int .i64 1) (.int .i64 ((wantF k2 i : Nat) : Int))).cell? ⟨xb, xo + c * 4 + 3, none⟩ = some (.int .i64 m.2)) := KEEP.out _ bd0
                            replace X_a : Hid (BX 44 (put2 wa3 (wc2.heap.size) (.int .i64 1) (.int .i64 ((wantF k2 i : Nat) : Int))) (wr.heap.size) #[.int .i64 0, .int .i64 0]) := X_a.out.off2 NE_a_r
                            have Y_r : Hid (BX 26 (put2 wa3 (wc2.heap.size) (.int .i64 1) (.int .i64 ((wantF k2 i : Nat) : Int))) (wc2.heap.size) #[.int .i64 1, .int .i64 ((wantF k2 i : Nat) : Int)]) := X_r.out.put2 _ _
                            replace OC : Hid ((put2 wa3 (wc2.heap.size) (.int .i64 1) (.int .i64 ((wantF k2 i : Nat) : Int))).ownsRow wr.heap.size 33 2 (.slice ya (hearL (k2 : Int) (i : Int) m).length yc) (hearL (k2 : Int) (i : Int) m).length ((hearL (k2 : Int) (i : Int) m).flatMap encM)) := X_r.out.own2 OC.out (by decide)
                            refine oneH (i := 13) rfl (by kernel_rfl) rfl (op_skip (w' := (put2 wa3 (wc2.heap.size) (.int .i64 1) (.int .i64 ((wantF k2 i : Nat) : Int)))) rfl (by unfold put2; go_simp) ⟨HT0.out, ?_⟩)
                            clear n0 n1 n2 n3 X_r
                            generalize put2 wa3 (wc2.heap.size) (.int .i64 1) (.int .i64 ((wantF k2 i : Nat) : Int)) = wp4_0 at *
                            refine takeH (i := 14) (v := .slice ya (hearL (k2 : Int) (i : Int) m).length yc) (d := 26) rfl rfl (by kernel_rfl) (by kernel_rfl) (by kernel_rfl) (fun _ _ _ h => h) (by rfl) (fun V hV => by obtain ⟨⟨v1, v2⟩, ⟨v3, v4⟩, v5, v6⟩ := hV; go_simp) HT0.out ?_
                            simp only [Act.put, List.setIfInBounds_toArray, List.set_cons_zero, List.set_cons_succ]
                            obtain ⟨n0, n1, n2, n3⟩ := X_a.out.all2
                            have bd1 : Below wr.heap.size wr (put2 wp4_0 (wr.heap.size) (.int .i64 1) (.int .i64 ((wantF k2 i : Nat) : Int))) := below_put2 bd0 L_a.out _ _
                            have HT1 : Hid (((put2 wp4_0 (wr.heap.size) (.int .i64 1) (.int .i64 ((wantF k2 i : Nat) : Int))).cell? ⟨q10, 0, none⟩ = some (.int .i64 1) ∧ (put2 wp4_0 (wr.heap.size) (.int .i64 1) (.int .i64 ((wantF k2 i : Nat) : Int))).cell? ⟨q10, 1, none⟩ = some (.int .i64 (k2 : Int))) ∧ ((put2 wp4_0 (wr.heap.size) (.int .i64 1) (.int .i64 ((wantF k2 i : Nat) : Int))).cell? ⟨xb, xo + c * 4, none⟩ = some (.int .i64 1) ∧ (put2 wp4_0 (wr.heap.size) (.int .i64 1) (.int .i64 ((wantF k2 i : Nat) : Int))).cell? ⟨xb, xo + c * 4 + 1, none⟩ = some (.int .i64 (i : Int))) ∧ (put2 wp4_0 (wr.heap.size) (.int .i64 1) (.int .i64 ((wantF k2 i : Nat) : Int))).cell? ⟨xb, xo + c * 4 + 2, none⟩ = some (.int .i64 m.1) ∧ (put2 wp4_0 (wr.heap.size) (.int .i64 1) (.int .i64 ((wantF k2 i : Nat) : Int))).cell? ⟨xb, xo + c * 4 + 3, none⟩ = some (.int .i64 m.2)) := KEEP.out _ bd1
                            have Y_a : Hid (BX 44 (put2 wp4_0 (wr.heap.size) (.int .i64 1) (.int .i64 ((wantF k2 i : Nat) : Int))) (wr.heap.size) #[.int .i64 1, .int .i64 ((wantF k2 i : Nat) : Int)]) := X_a.out.put2 _ _
                            replace Y_r : Hid (BX 26 (put2 wp4_0 (wr.heap.size) (.int .i64 1) (.int .i64 ((wantF k2 i : Nat) : Int))) (wc2.heap.size) #[.int .i64 1, .int .i64 ((wantF k2 i : Nat) : Int)]) := Y_r.out.off2 NE_a_r.symm
                            replace OC : Hid ((put2 wp4_0 (wr.heap.size) (.int .i64 1) (.int .i64 ((wantF k2 i : Nat) : Int))).ownsRow wr.heap.size 33 2 (.slice ya (hearL (k2 : Int) (i : Int) m).length yc) (hearL (k2 : Int) (i : Int) m).length ((hearL (k2 : Int) (i : Int) m).flatMap encM)) := X_a.out.own2 OC.out (by decide)
                            refine oneH (i := 15) rfl (by kernel_rfl) rfl (op_skip (w' := (put2 wp4_0 (wr.heap.size) (.int .i64 1) (.int .i64 ((wantF k2 i : Nat) : Int)))) rfl (by unfold put2; go_simp) ⟨HT1.out, ?_⟩)
                            clear n0 n1 n2 n3 X_a
                            generalize put2 wp4_0 (wr.heap.size) (.int .i64 1) (.int .i64 ((wantF k2 i : Nat) : Int)) = wp4_1 at *
                            refine takeH (i := 16) (v := .int .i64 0) (d := 28) rfl rfl (by kernel_rfl) (by kernel_rfl) (by kernel_rfl) (fun _ _ _ h => h) (by rfl) (fun V hV => by obtain ⟨⟨v1, v2⟩, ⟨v3, v4⟩, v5, v6⟩ := hV; go_simp) HT1.out ?_
                            simp only [Act.put, List.setIfInBounds_toArray, List.set_cons_zero, List.set_cons_succ]
                            refine wpAnyH_done (by kernel_rfl) ?_ _
                            have FB : Hid (Below wr.heap.size wr wp4_1) := bd1
                            exact HG.out ya yc (wc2.heap.size) (wr.heap.size) wp4_1 Y_r Y_a OC FB L_r L_a
                          case way2r =>
                            refine op_run (d := 25) (v' := .pointer (some ⟨wa1.heap.size, 0, none⟩)) (w' := wa1.alloc (.cells #[.int .i64 0, .int .i64 0] 26)) rfl (by go_simp) ⟨KEEP.out _ (bc1.alloc bc1.size _), ?_⟩
                            simp only [Act.put, List.setIfInBounds_toArray, List.set_cons_zero, List.set_cons_succ]
                            have NE_a_r : (wr.heap.size) ≠ wa1.heap.size := Nat.ne_of_lt X_a.out.lt
                            have X_r : Hid (BX 26 (wa1.alloc (.cells #[.int .i64 0, .int .i64 0] 26)) (wa1.heap.size) #[.int .i64 0, .int .i64 0]) := BX.new _ _ _
                            have L_r : Hid (wr.heap.size ≤ wa1.heap.size) := bc1.size
                            have bc2 : Below wr.heap.size wr (wa1.alloc (.cells #[.int .i64 0, .int .i64 0] 26)) := bc1.alloc bc1.size _
                            have HS2 : Hid (((wa1.alloc (.cells #[.int .i64 0, .int .i64 0] 26)).cell? ⟨q10, 0, none⟩ = some (.int .i64 1) ∧ (wa1.alloc (.cells #[.int .i64 0, .int .i64 0] 26)).cell? ⟨q10, 1, none⟩ = some (.int .i64 (k2 : Int))) ∧ ((wa1.alloc (.cells #[.int .i64 0, .int .i64 0] 26)).cell? ⟨xb, xo + c * 4, none⟩ = some (.int .i64 1) ∧ (wa1.alloc (.cells #[.int .i64 0, .int .i64 0] 26)).cell? ⟨xb, xo + c * 4 + 1, none⟩ = some (.int .i64 (i : Int))) ∧ (wa1.alloc (.cells #[.int .i64 0, .int .i64 0] 26)).cell? ⟨xb, xo + c * 4 + 2, none⟩ = some (.int .i64 m.1) ∧ (wa1.alloc (.cells #[.int .i64 0, .int .i64 0] 26)).cell? ⟨xb, xo + c * 4 + 3, none⟩ = some (.int .i64 m.2)) := KEEP.out _ bc2
                            replace X_a : Hid (BX 44 (wa1.alloc (.cells #[.int .i64 0, .int .i64 0] 26)) (wr.heap.size) #[.int .i64 0, .int .i64 0]) := X_a.out.below (below_alloc _ _) X_a.out.lt
                            generalize wa1.alloc (.cells #[.int .i64 0, .int .i64 0] 26) = wa2 at *
                            refine oneH (i := 5) rfl (by kernel_rfl) rfl (call_gets (d := 136) (f := 20) (xs := #[.tmp 131, .tmp 135]) (ats := #[26, 48]) rfl rfl ehear (vs := #[.agg #[.int .i64 1, .int .i64 (k2 : Int)], .agg #[.int .i64 1, .int .i64 (i : Int), .int .i64 m.1, .int .i64 m.2]]) (by simp [Act.eval]) (CC.out _ bc2) ?_)
                            rintro vr wc3 ⟨yv, rfl, ho, hb⟩
                            have bc3 : Below wr.heap.size wr wc3 := bc2.trans (hb.mono bc2.size)
                            have OC : Hid (wc3.ownsRow wr.heap.size 33 2 (yv) (hearL (k2 : Int) (i : Int) m).length ((hearL (k2 : Int) (i : Int) m).flatMap encM)) := own_lower ho bc2.size
                            obtain ⟨ya, yc, rfl⟩ := (MlR.ownd OC.out).shape
                            have HS3 : Hid ((wc3.cell? ⟨q10, 0, none⟩ = some (.int .i64 1) ∧ wc3.cell? ⟨q10, 1, none⟩ = some (.int .i64 (k2 : Int))) ∧ (wc3.cell? ⟨xb, xo + c * 4, none⟩ = some (.int .i64 1) ∧ wc3.cell? ⟨xb, xo + c * 4 + 1, none⟩ = some (.int .i64 (i : Int))) ∧ wc3.cell? ⟨xb, xo + c * 4 + 2, none⟩ = some (.int .i64 m.1) ∧ wc3.cell? ⟨xb, xo + c * 4 + 3, none⟩ = some (.int .i64 m.2)) := KEEP.out wc3 bc3
                            replace X_a : Hid (BX 44 wc3 (wr.heap.size) #[.int .i64 0, .int .i64 0]) := X_a.out.below hb X_a.out.lt
                            replace X_r : Hid (BX 26 wc3 (wa1.heap.size) #[.int .i64 0, .int .i64 0]) := X_r.out.below hb X_r.out.lt
                            clear ho hb
                            refine ⟨HS3.out, ?_⟩
                            simp only [Act.put, List.setIfInBounds_toArray, List.set_cons_zero, List.set_cons_succ]
                            refine takeH (i := 6) (v := .tuple #[.agg #[.int .i64 1, .int .i64 ((wantF k2 i : Nat) : Int)], .slice ya (hearL (k2 : Int) (i : Int) m).length yc, .agg #[.int .i64 1, .int .i64 ((wantF k2 i : Nat) : Int)], .int .i64 0]) (d := 130) rfl rfl (by kernel_rfl) (by kernel_rfl) (by kernel_rfl) (fun _ _ _ h => h) (by rfl) (fun V hV => by obtain ⟨⟨v1, v2⟩, ⟨v3, v4⟩, v5, v6⟩ := hV; go_simp) HS3.out ?_
                            simp only [Act.put, List.setIfInBounds_toArray, List.set_cons_zero, List.set_cons_succ]
                            refine takeH (i := 7) (v := .agg #[.int .i64 1, .int .i64 ((wantF k2 i : Nat) : Int)]) (d := 137) rfl rfl (by kernel_rfl) (by kernel_rfl) (by kernel_rfl) (fun _ _ _ h => h) (by rfl) (fun V hV => by obtain ⟨⟨v1, v2⟩, ⟨v3, v4⟩, v5, v6⟩ := hV; go_simp) HS3.out ?_
                            simp only [Act.put, List.setIfInBounds_toArray, List.set_cons_zero, List.set_cons_succ]
                            refine takeH (i := 8) (v := .slice ya (hearL (k2 : Int) (i : Int) m).length yc) (d := 138) rfl rfl (by kernel_rfl) (by kernel_rfl) (by kernel_rfl) (fun _ _ _ h => h) (by rfl) (fun V hV => by obtain ⟨⟨v1, v2⟩, ⟨v3, v4⟩, v5, v6⟩ := hV; go_simp) HS3.out ?_
                            simp only [Act.put, List.setIfInBounds_toArray, List.set_cons_zero, List.set_cons_succ]
                            refine takeH (i := 9) (v := .agg #[.int .i64 1, .int .i64 ((wantF k2 i : Nat) : Int)]) (d := 139) rfl rfl (by kernel_rfl) (by kernel_rfl) (by kernel_rfl) (fun _ _ _ h => h) (by rfl) (fun V hV => by obtain ⟨⟨v1, v2⟩, ⟨v3, v4⟩, v5, v6⟩ := hV; go_simp) HS3.out ?_
                            simp only [Act.put, List.setIfInBounds_toArray, List.set_cons_zero, List.set_cons_succ]
                            refine takeH (i := 10) (v := .int .i64 0) (d := 140) rfl rfl (by kernel_rfl) (by kernel_rfl) (by kernel_rfl) (fun _ _ _ h => h) (by rfl) (fun V hV => by obtain ⟨⟨v1, v2⟩, ⟨v3, v4⟩, v5, v6⟩ := hV; go_simp) HS3.out ?_
                            simp only [Act.put, List.setIfInBounds_toArray, List.set_cons_zero, List.set_cons_succ]
                            obtain ⟨n0, n1, n2, n3⟩ := X_r.out.all2
                            have bd0 : Below wr.heap.size wr (put2 wc3 (wa1.heap.size) (.int .i64 1) (.int .i64 ((wantF k2 i : Nat) : Int))) := below_put2 bc3 L_r.out _ _
                            have HT0 : Hid (((put2 wc3 (wa1.heap.size) (.int .i64 1) (.int .i64 ((wantF k2 i : Nat) : Int))).cell? ⟨q10, 0, none⟩ = some (.int .i64 1) ∧ (put2 wc3 (wa1.heap.size) (.int .i64 1) (.int .i64 ((wantF k2 i : Nat) : Int))).cell? ⟨q10, 1, none⟩ = some (.int .i64 (k2 : Int))) ∧ ((put2 wc3 (wa1.heap.size) (.int .i64 1) (.int .i64 ((wantF k2 i : Nat) : Int))).cell? ⟨xb, xo + c * 4, none⟩ = some (.int .i64 1) ∧ (put2 wc3 (wa1.heap.size) (.int .i64 1) (.int .i64 ((wantF k2 i : Nat) : Int))).cell? ⟨xb, xo + c * 4 + 1, none⟩ = some (.int .i64 (i : Int))) ∧ (put2 wc3 (wa1.heap.size) (.int .i64 1) (.int .i64 ((wantF k2 i : Nat) : Int))).cell? ⟨xb, xo + c * 4 + 2, none⟩ = some (.int .i64 m.1) ∧ (put2 wc3 (wa1.heap.size) (.int .i64 1) (.int .i64 ((wantF k2 i : Nat) : Int))).cell? ⟨xb, xo + c * 4 + 3, none⟩ = some (.int .i64 m.2)) := KEEP.out _ bd0
                            replace X_a : Hid (BX 44 (put2 wc3 (wa1.heap.size) (.int .i64 1) (.int .i64 ((wantF k2 i : Nat) : Int))) (wr.heap.size) #[.int .i64 0, .int .i64 0]) := X_a.out.off2 NE_a_r
                            have Y_r : Hid (BX 26 (put2 wc3 (wa1.heap.size) (.int .i64 1) (.int .i64 ((wantF k2 i : Nat) : Int))) (wa1.heap.size) #[.int .i64 1, .int .i64 ((wantF k2 i : Nat) : Int)]) := X_r.out.put2 _ _
                            replace OC : Hid ((put2 wc3 (wa1.heap.size) (.int .i64 1) (.int .i64 ((wantF k2 i : Nat) : Int))).ownsRow wr.heap.size 33 2 (.slice ya (hearL (k2 : Int) (i : Int) m).length yc) (hearL (k2 : Int) (i : Int) m).length ((hearL (k2 : Int) (i : Int) m).flatMap encM)) := X_r.out.own2 OC.out (by decide)
                            refine oneH (i := 13) rfl (by kernel_rfl) rfl (op_skip (w' := (put2 wc3 (wa1.heap.size) (.int .i64 1) (.int .i64 ((wantF k2 i : Nat) : Int)))) rfl (by unfold put2; go_simp) ⟨HT0.out, ?_⟩)
                            clear n0 n1 n2 n3 X_r
                            generalize put2 wc3 (wa1.heap.size) (.int .i64 1) (.int .i64 ((wantF k2 i : Nat) : Int)) = wp4_0 at *
                            refine takeH (i := 14) (v := .slice ya (hearL (k2 : Int) (i : Int) m).length yc) (d := 26) rfl rfl (by kernel_rfl) (by kernel_rfl) (by kernel_rfl) (fun _ _ _ h => h) (by rfl) (fun V hV => by obtain ⟨⟨v1, v2⟩, ⟨v3, v4⟩, v5, v6⟩ := hV; go_simp) HT0.out ?_
                            simp only [Act.put, List.setIfInBounds_toArray, List.set_cons_zero, List.set_cons_succ]
                            obtain ⟨n0, n1, n2, n3⟩ := X_a.out.all2
                            have bd1 : Below wr.heap.size wr (put2 wp4_0 (wr.heap.size) (.int .i64 1) (.int .i64 ((wantF k2 i : Nat) : Int))) := below_put2 bd0 L_a.out _ _
                            have HT1 : Hid (((put2 wp4_0 (wr.heap.size) (.int .i64 1) (.int .i64 ((wantF k2 i : Nat) : Int))).cell? ⟨q10, 0, none⟩ = some (.int .i64 1) ∧ (put2 wp4_0 (wr.heap.size) (.int .i64 1) (.int .i64 ((wantF k2 i : Nat) : Int))).cell? ⟨q10, 1, none⟩ = some (.int .i64 (k2 : Int))) ∧ ((put2 wp4_0 (wr.heap.size) (.int .i64 1) (.int .i64 ((wantF k2 i : Nat) : Int))).cell? ⟨xb, xo + c * 4, none⟩ = some (.int .i64 1) ∧ (put2 wp4_0 (wr.heap.size) (.int .i64 1) (.int .i64 ((wantF k2 i : Nat) : Int))).cell? ⟨xb, xo + c * 4 + 1, none⟩ = some (.int .i64 (i : Int))) ∧ (put2 wp4_0 (wr.heap.size) (.int .i64 1) (.int .i64 ((wantF k2 i : Nat) : Int))).cell? ⟨xb, xo + c * 4 + 2, none⟩ = some (.int .i64 m.1) ∧ (put2 wp4_0 (wr.heap.size) (.int .i64 1) (.int .i64 ((wantF k2 i : Nat) : Int))).cell? ⟨xb, xo + c * 4 + 3, none⟩ = some (.int .i64 m.2)) := KEEP.out _ bd1
                            have Y_a : Hid (BX 44 (put2 wp4_0 (wr.heap.size) (.int .i64 1) (.int .i64 ((wantF k2 i : Nat) : Int))) (wr.heap.size) #[.int .i64 1, .int .i64 ((wantF k2 i : Nat) : Int)]) := X_a.out.put2 _ _
                            replace Y_r : Hid (BX 26 (put2 wp4_0 (wr.heap.size) (.int .i64 1) (.int .i64 ((wantF k2 i : Nat) : Int))) (wa1.heap.size) #[.int .i64 1, .int .i64 ((wantF k2 i : Nat) : Int)]) := Y_r.out.off2 NE_a_r.symm
                            replace OC : Hid ((put2 wp4_0 (wr.heap.size) (.int .i64 1) (.int .i64 ((wantF k2 i : Nat) : Int))).ownsRow wr.heap.size 33 2 (.slice ya (hearL (k2 : Int) (i : Int) m).length yc) (hearL (k2 : Int) (i : Int) m).length ((hearL (k2 : Int) (i : Int) m).flatMap encM)) := X_a.out.own2 OC.out (by decide)
                            refine oneH (i := 15) rfl (by kernel_rfl) rfl (op_skip (w' := (put2 wp4_0 (wr.heap.size) (.int .i64 1) (.int .i64 ((wantF k2 i : Nat) : Int)))) rfl (by unfold put2; go_simp) ⟨HT1.out, ?_⟩)
                            clear n0 n1 n2 n3 X_a
                            generalize put2 wp4_0 (wr.heap.size) (.int .i64 1) (.int .i64 ((wantF k2 i : Nat) : Int)) = wp4_1 at *
                            refine takeH (i := 16) (v := .int .i64 0) (d := 28) rfl rfl (by kernel_rfl) (by kernel_rfl) (by kernel_rfl) (fun _ _ _ h => h) (by rfl) (fun V hV => by obtain ⟨⟨v1, v2⟩, ⟨v3, v4⟩, v5, v6⟩ := hV; go_simp) HT1.out ?_
                            simp only [Act.put, List.setIfInBounds_toArray, List.set_cons_zero, List.set_cons_succ]
                            refine wpAnyH_done (by kernel_rfl) ?_ _
                            have FB : Hid (Below wr.heap.size wr wp4_1) := bd1
                            exact HG.out ya yc (wa1.heap.size) (wr.heap.size) wp4_1 Y_r Y_a OC FB L_r L_a
                      case g =>
                        intro ya yc pr pk X FX FY FO FB NL NL2
                        have S6 : Hid (LSt w q7 q9 q10 B X (b : Int) (k2 : Int) vS (.slice (some ⟨xb, xo, none⟩) ps.length pc) u16 u17 (L.drop b) ps ks2 (L.take k2)) := S5.out.below FB.out
                        have hqk : pk ≠ q10 := by have h1 := NL2.out; have h2 := S5.out.hB; have h3 := S5.out.oB; omega
                        have hqt : pt ≠ q10 := by have h1 := hpt.out; have h3 := S5.out.oB; omega
                        have S7 : Hid (LSt w q7 q9 q10 B (put2 X q10 (.int .i64 1) (.int .i64 ((wantF k2 i : Nat) : Int))) (b : Int) ((wantF k2 i : Nat) : Int) vS (.slice (some ⟨xb, xo, none⟩) ps.length pc) u16 u17 (L.drop b) ps ks2 (L.take k2)) := S6.out.wants
                        have FY7 : Hid (BX 44 (put2 X q10 (.int .i64 1) (.int .i64 ((wantF k2 i : Nat) : Int))) pk #[.int .i64 1, .int .i64 ((wantF k2 i : Nat) : Int)]) := FY.out.off2 hqk
                        have TX7 : Hid (BX 68 (put2 X q10 (.int .i64 1) (.int .i64 ((wantF k2 i : Nat) : Int))) pt #[.int .i64 1, .int .i64 0]) := (TX5.out.below FB.out TX5.out.lt).off2 hqt
                        have FO7 : Hid ((put2 X q10 (.int .i64 1) (.int .i64 ((wantF k2 i : Nat) : Int))).ownsRow wr.heap.size 33 2 (.slice ya (hearL (k2 : Int) (i : Int) m).length yc) (hearL (k2 : Int) (i : Int) m).length ((hearL (k2 : Int) (i : Int) m).flatMap encM)) := S6.out.x10.own2 FO.out (by decide)
                        have HTK : Hid (L.take k2 ++ hearL (k2 : Int) (i : Int) m = L.take (wantF k2 i)) := take_hear HM.out
                        have hhl := hearL_len (k2 : Int) (i : Int) m
                        have htl : (L.take k2).length ≤ 12 := by rw [List.length_take]; omega
                        obtain ⟨f0, f1, _⟩ := FX.out.all2
                        obtain ⟨z0, z1, z2, z3⟩ := S6.out.x10.all2
                        clear KEEP CC FX FY FO FB NL2 S6
                        generalize hearL (k2 : Int) (i : Int) m = hl at *
                        clear S5 TX5
                        generalize L.take k2 = tk at *
                        go_upto_region 43 with fail
                        clear f0 f1 z0 z1 z2 z3
                        unfold put2 at S7 FY7 TX7 FO7
                        generalize (X.setCell ⟨q10, 0, none⟩ (.int .i64 1)).setCell ⟨q10, 1, none⟩ (.int .i64 ((wantF k2 i : Nat) : Int)) = X1 at *
                        go_wp2_with (at_builtin; refine wpList_append_rowKat kM rfl _ _ rfl B _ tk rfl S7.out.rG _ hl rfl (MlR.ownd FO7.out) ?d1 ?d2 S7.out.hB ?_)
                        case d1 => simp only [kM]; omega
                        case d2 => unfold maxLen; omega
                        intro v8 w8 ho8 hg8 hat8
                        have S8 : Hid (LSt w q7 q9 q10 B w8 (b : Int) ((wantF k2 i : Nat) : Int) vS (.slice (some ⟨xb, xo, none⟩) ps.length pc) u16 v8 (L.drop b) ps ks2 (L.take (wantF k2 i))) := S7.out.gets (by rw [← HTK.out]; simpa [kM] using ho8) hg8 hat8
                        have FY8 : Hid (BX 44 w8 pk #[.int .i64 1, .int .i64 ((wantF k2 i : Nat) : Int)]) := FY7.out.grown S7.out.rG (by decide) hg8
                        have TX8 : Hid (BX 68 w8 pt #[.int .i64 1, .int .i64 0]) := TX7.out.grown S7.out.rG (by decide) hg8
                        obtain ⟨f0, f1, _⟩ := FY8.out.all2
                        clear ho8 hg8 hat8 S7 FY7 TX7 FO7 HTK hhl htl
                        go_wp2_with (at_builtin; refine wpList_append_newK kA rfl _ _ rfl B _ ks2 rfl (S8.out.rA.alloc _) w8.heap.size (1, ((wantF k2 i : Nat) : Int)) rfl #[.int .i64 1, .int .i64 ((wantF k2 i : Nat) : Int)] rfl (0, 0) (heap_alloc_new _ _) ?d1 ?d2 ?d3 ?_)
                        case d1 => simp only [kA]; omega
                        case d2 => unfold maxLen; omega
                        case d3 => have h1 := S8.out.hB; first | omega | (simp; omega)
                        intro g gc w9 ho9 hb9 hg9
                        have S9 : Hid (LSt w q7 q9 q10 B w9 (b : Int) ((wantF k2 i : Nat) : Int) vS (.slice (some ⟨xb, xo, none⟩) ps.length pc) (.slice (some ⟨g, 0, none⟩) (ks2.length + 1) gc) v8 (L.drop b) ps (ks2 ++ [(1, ((wantF k2 i : Nat) : Int))]) (L.take (wantF k2 i))) := (S8.out.below (below_alloc _ _)).acks (by rw [List.length_append, flat_snoc]; exact ho9) hg9
                        have TX9 : Hid (BX 68 w9 pt #[.int .i64 1, .int .i64 0]) := (TX8.out.below (below_alloc _ _) TX8.out.lt).grown (S8.out.rA.alloc _) (by decide) hg9
                        clear ho9 hb9 hg9 f0 f1 S8 FY8 TX8
                        go_wp2_with fail
                        go_roundw
                        case rel => exact ⟨c + 1, wantF k2 i, ks2 ++ [(1, ((wantF k2 i : Nat) : Int))], by omega, by go_num, by rw [List.length_append, List.length_singleton]; omega, HL5.out.hear HM.out hi, (fun pre hpre => HPRE.out pre hpre), (fun _ => by simp), TX9.out, S9.out⟩
                        case measure => simp [intOf]; omega
                    · have d5 : ¬ (0 : Int) < (ps.length : Int) := by omega
                      obtain ⟨t0, t1, _⟩ := TX5.out.all2
                      clear t0 t1
                      have TL6 : Hid (Tl L ts.length (n + 1) b k2 ps ks2) := HTL.out.hear h3 (fun hne => HX2.out (by have := List.length_pos_iff.2 hne; omega)) (fun pre hpre => by have h1 := HX1.out pre hpre; have h2 := congrArg List.length hpre; rw [List.length_append, dueF_len, List.length_drop] at h2; omega)
                      go_wp2_with fail
                      go_roundw
                      case rel => exact ⟨n + 1, b, k2, _, ps, ks2, by omega, by go_num, by omega, by omega, HL5.out, TL6.out, S5.out⟩
                      case measure => simp [intOf]; omega
                  · have d5 : ¬ (c : Int) < ((ps.length : Nat) : Int) := by omega
                    obtain ⟨t0, t1, _⟩ := TX5.out.all2
                    clear t0 t1
                    have TL6 : Hid (Tl L ts.length (n + 1) b k2 ps ks2) := HTL.out.hear h3 (fun hne => HX2.out (by have := List.length_pos_iff.2 hne; omega)) (fun pre hpre => by have h1 := HX1.out pre hpre; have h2 := congrArg List.length hpre; rw [List.length_append, dueF_len, List.length_drop] at h2; omega)
                    go_wp2_with fail
                    go_roundw
                    case rel => exact ⟨n + 1, b, k2, _, ps, ks2, by omega, by go_num, by omega, by omega, HL5.out, TL6.out, S5.out⟩
                    case measure => simp [intOf]; omega
            · as_aux_lemma =>
                have em : Int.tmod (n : Int) 3 = 2 := by rw [Int.tmod_eq_emod_of_nonneg (by omega)]; omega
                go_upto_region 20 with fail
                have TN : BX 68 (wr.alloc (.cells #[.int .i64 2, .int .i64 0] 68)) wr.heap.size #[.int .i64 2, .int .i64 0] := BX.new _ _ _
                have S4 : Hid (LSt w q7 q9 q10 B (wr.alloc (.cells #[.int .i64 2, .int .i64 0] 68)) (b : Int) (k : Int) vS u15 u16 u17 (L.drop b) ps ks (L.take k)) := S3.out.below (below_alloc _ _)
                have hpt : Hid (B ≤ wr.heap.size) := S3.out.hB
                generalize wr.alloc (.cells #[.int .i64 2, .int .i64 0] 68) = W4 at *
                generalize wr.heap.size = pt at *
                have TX : Hid (BX 68 W4 pt #[.int .i64 2, .int .i64 0]) := TN
                obtain ⟨t0, t1, _⟩ := TN.all2
                clear TN S3
                go_wp2_with fail
                refine (picked_any 2 5 _ (by omega) (by omega) (by omega) (by omega)).mono ?_
                rintro E w9 ⟨rfl, hw⟩
                replace hw := hw.symm
                subst hw
                rw [show pickF 2 5 = 2 from rfl]
                obtain ⟨aa, ac, rfl⟩ := (MlR.owndA S4.out.rA).shape
                clear t0 t1
                go_wp2_with fail
                go_loopw [30] (fun i wr => ∃ (c b2 : Nat) (vS2 : Value), c ≤ ks.length ∧ i = .int .i64 c ∧ b ≤ b2 ∧ Lin L b2 k ps ks ∧ (∀ t a, t < c → ks[t]? = some a → ∀ j : Nat, a = (1, (j : Int)) → j ≤ b2) ∧ BX 68 wr pt #[.int .i64 2, .int .i64 0] ∧ LSt w q7 q9 q10 B wr (b2 : Int) (k : Int) vS2 u15 (.slice aa ks.length ac) u17 (L.drop b2) ps ks (L.take k)) (fun i _ => ks.length - (intOf i).toNat)
                case atStart => exact ⟨0, b, vS, by omega, rfl, by omega, HLIN.out, (fun t a h => by omega), TX.out, S4.out⟩
                case round =>
                  obtain ⟨c, b2, vS2, hc, rfl, hbb, hlin2, hx1, htx, hst⟩ := hrel
                  have S5 : Hid (LSt w q7 q9 q10 B wr (b2 : Int) (k : Int) vS2 u15 (.slice aa ks.length ac) u17 (L.drop b2) ps ks (L.take k)) := hst
                  have TX5 : Hid (BX 68 wr pt #[.int .i64 2, .int .i64 0]) := htx
                  have HL5 : Hid (Lin L b2 k ps ks) := hlin2
                  have HX1 : Hid (∀ t a, t < c → ks[t]? = some a → ∀ j : Nat, a = (1, (j : Int)) → j ≤ b2) := hx1
                  clear hx1
                  clear hst htx hlin2 S4 TX
                  by_cases hcN : c < ks.length
                  · by_cases hps0 : 0 < ks.length
                    · have d5 : (c : Int) < ((ks.length : Nat) : Int) := by omega
                      have d6 : (0 : Int) < (ks.length : Int) := by omega
                      obtain ⟨t0, t1, _⟩ := TX5.out.all2
                      go_wp2_with fail
                      refine (picked_any 0 (ks.length : Int) _ (by omega) (by omega) (by omega) (by omega)).mono ?_
                      rintro E w9 ⟨rfl, hw⟩
                      replace hw := hw.symm
                      subst hw
                      obtain ⟨hp0, hp1⟩ := pickF_bd 0 (ks.length : Int) (by omega)
                      generalize pickF 0 (ks.length : Int) = pi at *
                      obtain ⟨xb, xo, cap', e1, _, _, lb, hv⟩ := MlR.at (MlR.owndA S5.out.rA) hps0
                      injection e1 with e1 _ e3
                      subst e1 e3
                      obtain ⟨x, hx⟩ := getX (es := ks) (i := c) (by omega)
                      obtain ⟨j, rfl, hj⟩ := HL5.out.ak x (List.mem_of_getElem? hx)
                      obtain ⟨c1, c2⟩ := hv c _ hx
                      obtain ⟨sa, sc, rfl⟩ := (MlR.ownd S5.out.rS).shape
                      have p0 : (0 : Int) ≤ (c : Int) := by omega
                      have p1 : (c : Int) < (ks.length : Int) := by omega
                      have HL6 : Hid (Lin L (max b2 j) k ps ks) := HL5.out.ack hj
                      have hm1 : b2 ≤ max b2 j := by omega
                      have CC : Hid (∀ X, Below wr.heap.size wr X → Calls Try.prog 18 #[.agg #[.int .i64 1, .int .i64 (b2 : Int), .slice sa (L.drop b2).length sc], .agg #[.int .i64 1, .int .i64 (j : Int)]] X fun E w' => ∃ u, E = .returned u ∧ (∃ y, u = .tuple #[.agg #[.int .i64 1, .int .i64 ((max b2 j : Nat) : Int), y], .int .i64 0] ∧ w'.ownsRow X.heap.size 33 2 y (L.drop (max b2 j)).length ((L.drop (max b2 j)).flatMap encM) ∧ Below X.heap.size X w')) := fun X hX => ackOne hL HL5.out hj _ X ((MlR.ownd S5.out.rS).below hX (Nat.le_refl _))
                      have HPRE0 : Hid (∀ t a, t < c + 1 → ks[t]? = some a → ∀ j2 : Nat, a = (1, (j2 : Int)) → j2 ≤ max b2 j) := fun t a ht ha j2 hj2 => by
                        rcases Nat.lt_or_ge t c with h | h
                        · have := HX1.out t a h ha j2 hj2; omega
                        · have et : t = c := by omega
                          subst et
                          rw [hx] at ha
                          injection ha with ha
                          rw [← ha] at hj2
                          have := congrArg Prod.snd hj2
                          simp only at this
                          omega
                      generalize max b2 j = b3 at *
                      have HPRE : Hid (∀ t a, t < c + 1 → ks[t]? = some a → ∀ j2 : Nat, a = (1, (j2 : Int)) → j2 ≤ b3) := HPRE0.out
                      clear HPRE0
                      have hshape : ∀ (W : World) (y : Value), W.ownsRow wr.heap.size 33 2 y (L.drop b3).length ((L.drop b3).flatMap encM) → ∃ ya yc, y = .slice ya (L.drop b3).length yc := fun W y h => (MlR.ownd h).shape
                      obtain ⟨dl3, hdl3⟩ : ∃ dl3, (L.drop b3).length = dl3 := ⟨_, rfl⟩
                      have HD3 : Hid ((L.drop b3).length = dl3) := hdl3
                      rw [hdl3] at CC hshape
                      clear hdl3
                      generalize (L.drop b2).length = dl at *
                      have KEEP : Hid (∀ V, Below wr.heap.size wr V → (V.cell? ⟨q9, 0, none⟩ = some (.int .i64 1) ∧ V.cell? ⟨q9, 1, none⟩ = some (.int .i64 (b2 : Int)) ∧ V.cell? ⟨q9, 2, none⟩ = some (.slice sa dl sc)) ∧ V.cell? ⟨xb, xo + c * 2, none⟩ = some (.int .i64 1) ∧ V.cell? ⟨xb, xo + c * 2 + 1, none⟩ = some (.int .i64 (j : Int))) := fun V hV => by
                        obtain ⟨h1, h2, h3, _⟩ := (S5.out.x9.below hV S5.out.x9.lt).all3
                        exact ⟨⟨h1, h2, h3⟩, (hV.cell (p := ⟨xb, xo + c * 2, none⟩) lb).trans c1, (hV.cell (p := ⟨xb, xo + c * 2 + 1, none⟩) lb).trans c2⟩
                      clear hv hx c1 c2
                      go_upto_region 55 with fail
                      clear t0 t1
                      apply Hid.cut
                      case h =>
                        intro HG
                        have B0 : Below wr.heap.size wr wr.drew := (Below.refl _ _).drew
                        have HS0 : Hid ((wr.drew.cell? ⟨q9, 0, none⟩ = some (.int .i64 1) ∧ wr.drew.cell? ⟨q9, 1, none⟩ = some (.int .i64 (b2 : Int)) ∧ wr.drew.cell? ⟨q9, 2, none⟩ = some (.slice sa dl sc)) ∧ wr.drew.cell? ⟨xb, xo + c * 2, none⟩ = some (.int .i64 1) ∧ wr.drew.cell? ⟨xb, xo + c * 2 + 1, none⟩ = some (.int .i64 (j : Int))) := KEEP.out wr.drew B0
                        refine wp_region_held (S := fun V => (V.cell? ⟨q9, 0, none⟩ = some (.int .i64 1) ∧ V.cell? ⟨q9, 1, none⟩ = some (.int .i64 (b2 : Int)) ∧ V.cell? ⟨q9, 2, none⟩ = some (.slice sa dl sc)) ∧ V.cell? ⟨xb, xo + c * 2, none⟩ = some (.int .i64 1) ∧ V.cell? ⟨xb, xo + c * 2 + 1, none⟩ = some (.int .i64 (j : Int))) (by kernel_rfl) ?_
                        simp only [List.size_toArray, List.length_cons, List.length_nil, Nat.reduceAdd]
                        refine takeH (i := 0) (v := .agg #[.int .i64 1, .int .i64 (b2 : Int), .slice sa dl sc]) (d := 181) rfl rfl (by kernel_rfl) (by kernel_rfl) (by kernel_rfl) (fun _ _ _ h => h) (by rfl) (fun V hV => by obtain ⟨⟨v1, v2, v3⟩, v4, v5⟩ := hV; go_simp) HS0.out ?_
                        simp only [Act.put, List.setIfInBounds_toArray, List.set_cons_zero, List.set_cons_succ]
                        refine takeH (i := 1) (v := .slice (some ⟨xb, xo, none⟩) ks.length ac) (d := 182) rfl rfl (by kernel_rfl) (by kernel_rfl) (by kernel_rfl) (fun _ _ _ h => h) (by rfl) (fun V hV => by obtain ⟨⟨v1, v2, v3⟩, v4, v5⟩ := hV; go_simp) HS0.out ?_
                        simp only [Act.put, List.setIfInBounds_toArray, List.set_cons_zero, List.set_cons_succ]
                        refine takeH (i := 2) (v := .int .i64 (c : Int)) (d := 183) rfl rfl (by kernel_rfl) (by kernel_rfl) (by kernel_rfl) (fun _ _ _ h => h) (by rfl) (fun V hV => by obtain ⟨⟨v1, v2, v3⟩, v4, v5⟩ := hV; go_simp) HS0.out ?_
                        simp only [Act.put, List.setIfInBounds_toArray, List.set_cons_zero, List.set_cons_succ]
                        refine takeH (i := 3) (v := .pointer (some ⟨xb, xo + c * 2, none⟩)) (d := 184) rfl rfl (by kernel_rfl) (by kernel_rfl) (by kernel_rfl) (fun _ _ _ h => h) (by rfl) (fun V hV => by obtain ⟨⟨v1, v2, v3⟩, v4, v5⟩ := hV; go_simp) HS0.out ?_
                        simp only [Act.put, List.setIfInBounds_toArray, List.set_cons_zero, List.set_cons_succ]
                        refine takeH (i := 4) (v := .agg #[.int .i64 1, .int .i64 (j : Int)]) (d := 185) rfl rfl (by kernel_rfl) (by kernel_rfl) (by kernel_rfl) (fun _ _ _ h => h) (by rfl) (fun V hV => by obtain ⟨⟨v1, v2, v3⟩, v4, v5⟩ := hV; go_simp) HS0.out ?_
                        simp only [Act.put, List.setIfInBounds_toArray, List.set_cons_zero, List.set_cons_succ]
                        refine twoH (i := 5) (j := 9) rfl rfl (by kernel_rfl) rfl rfl ?way1call ?way1s
                        case way1call =>
                          refine call_gets (d := 186) (f := 18) (xs := #[.tmp 181, .tmp 185]) (ats := #[24, 44]) rfl rfl eack (vs := #[.agg #[.int .i64 1, .int .i64 (b2 : Int), .slice sa dl sc], .agg #[.int .i64 1, .int .i64 (j : Int)]]) (by simp [Act.eval]) (CC.out _ B0) ?_
                          rintro vr wc1 ⟨yv, rfl, ho, hb⟩
                          have bc1 : Below wr.heap.size wr wc1 := B0.trans (hb.mono B0.size)
                          have OC : Hid (wc1.ownsRow wr.heap.size 33 2 (yv) dl3 ((L.drop b3).flatMap encM)) := own_lower ho B0.size
                          obtain ⟨ya, yc, rfl⟩ := hshape _ _ OC.out
                          have HS1 : Hid ((wc1.cell? ⟨q9, 0, none⟩ = some (.int .i64 1) ∧ wc1.cell? ⟨q9, 1, none⟩ = some (.int .i64 (b2 : Int)) ∧ wc1.cell? ⟨q9, 2, none⟩ = some (.slice sa dl sc)) ∧ wc1.cell? ⟨xb, xo + c * 2, none⟩ = some (.int .i64 1) ∧ wc1.cell? ⟨xb, xo + c * 2 + 1, none⟩ = some (.int .i64 (j : Int))) := KEEP.out wc1 bc1
                          clear ho hb
                          refine ⟨HS1.out, ?_⟩
                          simp only [Act.put, List.setIfInBounds_toArray, List.set_cons_zero, List.set_cons_succ]
                          refine takeH (i := 6) (v := .tuple #[.agg #[.int .i64 1, .int .i64 (b3 : Int), .slice ya dl3 yc], .int .i64 0]) (d := 180) rfl rfl (by kernel_rfl) (by kernel_rfl) (by kernel_rfl) (fun _ _ _ h => h) (by rfl) (fun V hV => by obtain ⟨⟨v1, v2, v3⟩, v4, v5⟩ := hV; go_simp) HS1.out ?_
                          simp only [Act.put, List.setIfInBounds_toArray, List.set_cons_zero, List.set_cons_succ]
                          refine takeH (i := 7) (v := .agg #[.int .i64 1, .int .i64 (b3 : Int), .slice ya dl3 yc]) (d := 187) rfl rfl (by kernel_rfl) (by kernel_rfl) (by kernel_rfl) (fun _ _ _ h => h) (by rfl) (fun V hV => by obtain ⟨⟨v1, v2, v3⟩, v4, v5⟩ := hV; go_simp) HS1.out ?_
                          simp only [Act.put, List.setIfInBounds_toArray, List.set_cons_zero, List.set_cons_succ]
                          refine takeH (i := 8) (v := .int .i64 0) (d := 188) rfl rfl (by kernel_rfl) (by kernel_rfl) (by kernel_rfl) (fun _ _ _ h => h) (by rfl) (fun V hV => by obtain ⟨⟨v1, v2, v3⟩, v4, v5⟩ := hV; go_simp) HS1.out ?_
                          simp only [Act.put, List.setIfInBounds_toArray, List.set_cons_zero, List.set_cons_succ]
                          refine oneH (i := 9) rfl (by kernel_rfl) rfl (op_run (d := 32) (v' := .pointer (some ⟨wc1.heap.size, 0, none⟩)) (w' := wc1.alloc (.cells #[.int .i64 0, .int .i64 0, .slice none 0 0] 24)) rfl (by go_simp) ⟨KEEP.out _ (bc1.alloc bc1.size _), ?_⟩)
                          simp only [Act.put, List.setIfInBounds_toArray, List.set_cons_zero, List.set_cons_succ]
                          have X_s : Hid (BX 24 (wc1.alloc (.cells #[.int .i64 0, .int .i64 0, .slice none 0 0] 24)) (wc1.heap.size) #[.int .i64 0, .int .i64 0, .slice none 0 0]) := BX.new _ _ _
                          have L_s : Hid (wr.heap.size ≤ wc1.heap.size) := bc1.size
                          have bc2 : Below wr.heap.size wr (wc1.alloc (.cells #[.int .i64 0, .int .i64 0, .slice none 0 0] 24)) := bc1.alloc bc1.size _
                          have HS2 : Hid (((wc1.alloc (.cells #[.int .i64 0, .int .i64 0, .slice none 0 0] 24)).cell? ⟨q9, 0, none⟩ = some (.int .i64 1) ∧ (wc1.alloc (.cells #[.int .i64 0, .int .i64 0, .slice none 0 0] 24)).cell? ⟨q9, 1, none⟩ = some (.int .i64 (b2 : Int)) ∧ (wc1.alloc (.cells #[.int .i64 0, .int .i64 0, .slice none 0 0] 24)).cell? ⟨q9, 2, none⟩ = some (.slice sa dl sc)) ∧ (wc1.alloc (.cells #[.int .i64 0, .int .i64 0, .slice none 0 0] 24)).cell? ⟨xb, xo + c * 2, none⟩ = some (.int .i64 1) ∧ (wc1.alloc (.cells #[.int .i64 0, .int .i64 0, .slice none 0 0] 24)).cell? ⟨xb, xo + c * 2 + 1, none⟩ = some (.int .i64 (j : Int))) := KEEP.out _ bc2
                          replace OC : Hid ((wc1.alloc (.cells #[.int .i64 0, .int .i64 0, .slice none 0 0] 24)).ownsRow wr.heap.size 33 2 (.slice ya dl3 yc) dl3 ((L.drop b3).flatMap encM)) := OC.out.alloc _
                          generalize wc1.alloc (.cells #[.int .i64 0, .int .i64 0, .slice none 0 0] 24) = wa2 at *
                          obtain ⟨n0, n1, n2, n3, n4, n5⟩ := X_s.out.all3
                          have bd0 : Below wr.heap.size wr (put3 wa2 (wc1.heap.size) (.int .i64 1) (.int .i64 (b3 : Int)) (.slice ya dl3 yc)) := below_put3 bc2 L_s.out _ _ _
                          have HT0 : Hid (((put3 wa2 (wc1.heap.size) (.int .i64 1) (.int .i64 (b3 : Int)) (.slice ya dl3 yc)).cell? ⟨q9, 0, none⟩ = some (.int .i64 1) ∧ (put3 wa2 (wc1.heap.size) (.int .i64 1) (.int .i64 (b3 : Int)) (.slice ya dl3 yc)).cell? ⟨q9, 1, none⟩ = some (.int .i64 (b2 : Int)) ∧ (put3 wa2 (wc1.heap.size) (.int .i64 1) (.int .i64 (b3 : Int)) (.slice ya dl3 yc)).cell? ⟨q9, 2, none⟩ = some (.slice sa dl sc)) ∧ (put3 wa2 (wc1.heap.size) (.int .i64 1) (.int .i64 (b3 : Int)) (.slice ya dl3 yc)).cell? ⟨xb, xo + c * 2, none⟩ = some (.int .i64 1) ∧ (put3 wa2 (wc1.heap.size) (.int .i64 1) (.int .i64 (b3 : Int)) (.slice ya dl3 yc)).cell? ⟨xb, xo + c * 2 + 1, none⟩ = some (.int .i64 (j : Int))) := KEEP.out _ bd0
                          have Y_s : Hid (BX 24 (put3 wa2 (wc1.heap.size) (.int .i64 1) (.int .i64 (b3 : Int)) (.slice ya dl3 yc)) (wc1.heap.size) #[.int .i64 1, .int .i64 (b3 : Int), .slice ya dl3 yc]) := X_s.out.put3 _ _ _
                          replace OC : Hid ((put3 wa2 (wc1.heap.size) (.int .i64 1) (.int .i64 (b3 : Int)) (.slice ya dl3 yc)).ownsRow wr.heap.size 33 2 (.slice ya dl3 yc) dl3 ((L.drop b3).flatMap encM)) := X_s.out.own3 OC.out (by decide)
                          refine oneH (i := 10) rfl (by kernel_rfl) rfl (op_skip (w' := (put3 wa2 (wc1.heap.size) (.int .i64 1) (.int .i64 (b3 : Int)) (.slice ya dl3 yc))) rfl (by unfold put3; go_simp) ⟨HT0.out, ?_⟩)
                          clear n0 n1 n2 n3 n4 n5 X_s
                          generalize put3 wa2 (wc1.heap.size) (.int .i64 1) (.int .i64 (b3 : Int)) (.slice ya dl3 yc) = wp3_0 at *
                          refine takeH (i := 11) (v := .int .i64 0) (d := 33) rfl rfl (by kernel_rfl) (by kernel_rfl) (by kernel_rfl) (fun _ _ _ h => h) (by rfl) (fun V hV => by obtain ⟨⟨v1, v2, v3⟩, v4, v5⟩ := hV; go_simp) HT0.out ?_
                          simp only [Act.put, List.setIfInBounds_toArray, List.set_cons_zero, List.set_cons_succ]
                          refine wpAnyH_done (by kernel_rfl) ?_ _
                          have FB : Hid (Below wr.heap.size wr wp3_0) := bd0
                          clear bc1 HS1 bc2 HS2 bd0 HT0
                          generalize wc1.heap.size = pb_s at *
                          revert L_s
                          revert FB
                          revert OC
                          revert Y_s
                          revert wp3_0
                          revert pb_s
                          revert yc
                          revert ya
                          exact HG.out
                        case way1s =>
                          refine op_run (d := 32) (v' := .pointer (some ⟨wr.heap.size, 0, none⟩)) (w' := wr.drew.alloc (.cells #[.int .i64 0, .int .i64 0, .slice none 0 0] 24)) rfl (by go_simp) ⟨KEEP.out _ (B0.alloc B0.size _), ?_⟩
                          simp only [Act.put, List.setIfInBounds_toArray, List.set_cons_zero, List.set_cons_succ]
                          have X_s : Hid (BX 24 (wr.drew.alloc (.cells #[.int .i64 0, .int .i64 0, .slice none 0 0] 24)) (wr.heap.size) #[.int .i64 0, .int .i64 0, .slice none 0 0]) := BX.new _ _ _
                          have L_s : Hid (wr.heap.size ≤ wr.heap.size) := Nat.le_refl _
                          have bc1 : Below wr.heap.size wr (wr.drew.alloc (.cells #[.int .i64 0, .int .i64 0, .slice none 0 0] 24)) := B0.alloc B0.size _
                          have HS1 : Hid (((wr.drew.alloc (.cells #[.int .i64 0, .int .i64 0, .slice none 0 0] 24)).cell? ⟨q9, 0, none⟩ = some (.int .i64 1) ∧ (wr.drew.alloc (.cells #[.int .i64 0, .int .i64 0, .slice none 0 0] 24)).cell? ⟨q9, 1, none⟩ = some (.int .i64 (b2 : Int)) ∧ (wr.drew.alloc (.cells #[.int .i64 0, .int .i64 0, .slice none 0 0] 24)).cell? ⟨q9, 2, none⟩ = some (.slice sa dl sc)) ∧ (wr.drew.alloc (.cells #[.int .i64 0, .int .i64 0, .slice none 0 0] 24)).cell? ⟨xb, xo + c * 2, none⟩ = some (.int .i64 1) ∧ (wr.drew.alloc (.cells #[.int .i64 0, .int .i64 0, .slice none 0 0] 24)).cell? ⟨xb, xo + c * 2 + 1, none⟩ = some (.int .i64 (j : Int))) := KEEP.out _ bc1
                          generalize wr.drew.alloc (.cells #[.int .i64 0, .int .i64 0, .slice none 0 0] 24) = wa1 at *
                          refine oneH (i := 5) rfl (by kernel_rfl) rfl (call_gets (d := 186) (f := 18) (xs := #[.tmp 181, .tmp 185]) (ats := #[24, 44]) rfl rfl eack (vs := #[.agg #[.int .i64 1, .int .i64 (b2 : Int), .slice sa dl sc], .agg #[.int .i64 1, .int .i64 (j : Int)]]) (by simp [Act.eval]) (CC.out _ bc1) ?_)
                          rintro vr wc2 ⟨yv, rfl, ho, hb⟩
                          have bc2 : Below wr.heap.size wr wc2 := bc1.trans (hb.mono bc1.size)
                          have OC : Hid (wc2.ownsRow wr.heap.size 33 2 (yv) dl3 ((L.drop b3).flatMap encM)) := own_lower ho bc1.size
                          obtain ⟨ya, yc, rfl⟩ := hshape _ _ OC.out
                          have HS2 : Hid ((wc2.cell? ⟨q9, 0, none⟩ = some (.int .i64 1) ∧ wc2.cell? ⟨q9, 1, none⟩ = some (.int .i64 (b2 : Int)) ∧ wc2.cell? ⟨q9, 2, none⟩ = some (.slice sa dl sc)) ∧ wc2.cell? ⟨xb, xo + c * 2, none⟩ = some (.int .i64 1) ∧ wc2.cell? ⟨xb, xo + c * 2 + 1, none⟩ = some (.int .i64 (j : Int))) := KEEP.out wc2 bc2
                          replace X_s : Hid (BX 24 wc2 (wr.heap.size) #[.int .i64 0, .int .i64 0, .slice none 0 0]) := X_s.out.below hb X_s.out.lt
                          clear ho hb
                          refine ⟨HS2.out, ?_⟩
                          simp only [Act.put, List.setIfInBounds_toArray, List.set_cons_zero, List.set_cons_succ]
                          refine takeH (i := 6) (v := .tuple #[.agg #[.int .i64 1, .int .i64 (b3 : Int), .slice ya dl3 yc], .int .i64 0]) (d := 180) rfl rfl (by kernel_rfl) (by kernel_rfl) (by kernel_rfl) (fun _ _ _ h => h) (by rfl) (fun V hV => by obtain ⟨⟨v1, v2, v3⟩, v4, v5⟩ := hV; go_simp) HS2.out ?_
                          simp only [Act.put, List.setIfInBounds_toArray, List.set_cons_zero, List.set_cons_succ]
                          refine takeH (i := 7) (v := .agg #[.int .i64 1, .int .i64 (b3 : Int), .slice ya dl3 yc]) (d := 187) rfl rfl (by kernel_rfl) (by kernel_rfl) (by kernel_rfl) (fun _ _ _ h => h) (by rfl) (fun V hV => by obtain ⟨⟨v1, v2, v3⟩, v4, v5⟩ := hV; go_simp) HS2.out ?_
                          simp only [Act.put, List.setIfInBounds_toArray, List.set_cons_zero, List.set_cons_succ]
                          refine takeH (i := 8) (v := .int .i64 0) (d := 188) rfl rfl (by kernel_rfl) (by kernel_rfl) (by kernel_rfl) (fun _ _ _ h => h) (by rfl) (fun V hV => by obtain ⟨⟨v1, v2, v3⟩, v4, v5⟩ := hV; go_simp) HS2.out ?_
                          simp only [Act.put, List.setIfInBounds_toArray, List.set_cons_zero, List.set_cons_succ]
                          obtain ⟨n0, n1, n2, n3, n4, n5⟩ := X_s.out.all3
                          have bd0 : Below wr.heap.size wr (put3 wc2 (wr.heap.size) (.int .i64 1) (.int .i64 (b3 : Int)) (.slice ya dl3 yc)) := below_put3 bc2 L_s.out _ _ _
                          have HT0 : Hid (((put3 wc2 (wr.heap.size) (.int .i64 1) (.int .i64 (b3 : Int)) (.slice ya dl3 yc)).cell? ⟨q9, 0, none⟩ = some (.int .i64 1) ∧ (put3 wc2 (wr.heap.size) (.int .i64 1) (.int .i64 (b3 : Int)) (.slice ya dl3 yc)).cell? ⟨q9, 1, none⟩ = some (.int .i64 (b2 : Int)) ∧ (put3 wc2 (wr.heap.size) (.int .i64 1) (.int .i64 (b3 : Int)) (.slice ya dl3 yc)).cell? ⟨q9, 2, none⟩ = some (.slice sa dl sc)) ∧ (put3 wc2 (wr.heap.size) (.int .i64 1) (.int .i64 (b3 : Int)) (.slice ya dl3 yc)).cell? ⟨xb, xo + c * 2, none⟩ = some (.int .i64 1) ∧ (put3 wc2 (wr.heap.size) (.int .i64 1) (.int .i64 (b3 : Int)) (.slice ya dl3 yc)).cell? ⟨xb, xo + c * 2 + 1, none⟩ = some (.int .i64 (j : Int))) := KEEP.out _ bd0
                          have Y_s : Hid (BX 24 (put3 wc2 (wr.heap.size) (.int .i64 1) (.int .i64 (b3 : Int)) (.slice ya dl3 yc)) (wr.heap.size) #[.int .i64 1, .int .i64 (b3 : Int), .slice ya dl3 yc]) := X_s.out.put3 _ _ _
                          replace OC : Hid ((put3 wc2 (wr.heap.size) (.int .i64 1) (.int .i64 (b3 : Int)) (.slice ya dl3 yc)).ownsRow wr.heap.size 33 2 (.slice ya dl3 yc) dl3 ((L.drop b3).flatMap encM)) := X_s.out.own3 OC.out (by decide)
                          refine oneH (i := 10) rfl (by kernel_rfl) rfl (op_skip (w' := (put3 wc2 (wr.heap.size) (.int .i64 1) (.int .i64 (b3 : Int)) (.slice ya dl3 yc))) rfl (by unfold put3; go_simp) ⟨HT0.out, ?_⟩)
                          clear n0 n1 n2 n3 n4 n5 X_s
                          generalize put3 wc2 (wr.heap.size) (.int .i64 1) (.int .i64 (b3 : Int)) (.slice ya dl3 yc) = wp3_0 at *
                          refine takeH (i := 11) (v := .int .i64 0) (d := 33) rfl rfl (by kernel_rfl) (by kernel_rfl) (by kernel_rfl) (fun _ _ _ h => h) (by rfl) (fun V hV => by obtain ⟨⟨v1, v2, v3⟩, v4, v5⟩ := hV; go_simp) HT0.out ?_
                          simp only [Act.put, List.setIfInBounds_toArray, List.set_cons_zero, List.set_cons_succ]
                          refine wpAnyH_done (by kernel_rfl) ?_ _
                          have FB : Hid (Below wr.heap.size wr wp3_0) := bd0
                          exact HG.out ya yc (wr.heap.size) wp3_0 Y_s OC FB L_s
                      case g =>
                        intro ya yc pr X FX FO FB NL
                        have S6 : Hid (LSt w q7 q9 q10 B X (b2 : Int) (k : Int) (.slice sa dl sc) u15 (.slice (some ⟨xb, xo, none⟩) ks.length ac) u17 (L.drop b2) ps ks (L.take k)) := S5.out.below FB.out
                        have hqt : pt ≠ q9 := by have h1 := hpt.out; have h3 := S5.out.oB; have h4 := S5.out.o10; omega
                        have FO2 : Hid (X.ownsRow wr.heap.size 33 2 (.slice ya dl3 yc) (L.drop b3).length ((L.drop b3).flatMap encM)) := by
                          show World.ownsRow _ _ _ _ _ _ _
                          rw [HD3.out]; exact FO.out
                        have S7 : Hid (LSt w q7 q9 q10 B (put3 X q9 (.int .i64 1) (.int .i64 (b3 : Int)) (.slice ya dl3 yc)) (b3 : Int) (k : Int) (.slice ya dl3 yc) u15 (.slice (some ⟨xb, xo, none⟩) ks.length ac) u17 (L.drop b3) ps ks (L.take k)) := S6.out.sends (own_lower FO2.out S5.out.hB) (S5.out.newRow (Nat.le_refl _) FO2.out)
                        have TX7 : Hid (BX 68 (put3 X q9 (.int .i64 1) (.int .i64 (b3 : Int)) (.slice ya dl3 yc)) pt #[.int .i64 2, .int .i64 0]) := (TX5.out.below FB.out TX5.out.lt).off3 hqt
                        obtain ⟨f0, f1, f2, _⟩ := FX.out.all3
                        obtain ⟨z0, z1, z2, z3, z4, z5⟩ := S6.out.x9.all3
                        clear KEEP CC FX FO FO2 FB S6 S5 TX5 hshape
                        go_wp2_with fail
                        go_roundw
                        case rel => exact ⟨c + 1, b3, _, by omega, by go_num, by omega, HL6.out, HPRE.out, TX7.out, S7.out⟩
                        case measure => simp [intOf]; omega
                    · have d5 : ¬ (0 : Int) < (ks.length : Int) := by omega
                      have TL6 : Hid (Tl L ts.length (n + 1) b2 k ps ks) := HTL.out.ack h3 hbb (fun a ha j2 hj2 => by obtain ⟨t, ht⟩ := List.getElem?_of_mem ha; have hlt := (List.getElem?_eq_some_iff.1 ht).1; exact HX1.out t a (by omega) ht j2 hj2)
                      go_wp2_with fail
                      go_roundw
                      case rel => exact ⟨n + 1, b2, k, _, ps, ks, by omega, by go_num, by omega, by omega, HL5.out, TL6.out, S5.out⟩
                      case measure => simp [intOf]; omega
                  · have d5 : ¬ (c : Int) < ((ks.length : Nat) : Int) := by omega
                    have TL6 : Hid (Tl L ts.length (n + 1) b2 k ps ks) := HTL.out.ack h3 hbb (fun a ha j2 hj2 => by obtain ⟨t, ht⟩ := List.getElem?_of_mem ha; have hlt := (List.getElem?_eq_some_iff.1 ht).1; exact HX1.out t a (by omega) ht j2 hj2)
                    go_wp2_with fail
                    go_roundw
                    case rel => exact ⟨n + 1, b2, k, _, ps, ks, by omega, by go_num, by omega, by omega, HL5.out, TL6.out, S5.out⟩
                    case measure => simp [intOf]; omega
        · as_aux_lemma =>
            obtain rfl : n = ts.length + M := by omega
            have d0 : ¬ ((ts.length + M : Nat) : Int) < (ts.length : Int) + (M : Int) := by omega
            obtain ⟨ga, gc, rfl⟩ := (MlR.ownd S3.out.rG).shape
            obtain ⟨sa, sc, rfl⟩ := (MlR.ownd S3.out.rS).shape
            have ho7 : Hid (w.heap.size ≤ B) := by have h1 := S3.out.o7; have h2 := S3.out.o9; have h3 := S3.out.o10; have h4 := S3.out.oB; show w.heap.size ≤ B; omega
            have HX : Hid (P (.returned (.tuple #[.slice ga (L.take k).length gc, .agg #[.int .i64 1, .int .i64 (b : Int), .slice sa (L.drop b).length sc], .bool true])) (put3 wr.drew q7 (.int .i64 1) (.int .i64 (b : Int)) (.slice sa (L.drop b).length sc))) := HE.out b k _ _ _ (own_lower (S3.out.x7.drew.own3 S3.out.rG.drew (by decide)) ho7.out) (own_lower (S3.out.x7.drew.own3 S3.out.rS.drew (by decide)) ho7.out) ⟨HLIN.out.bk, hkn⟩ (fun h => HTL.out.done h) (below_put3 S3.out.bel.drew S3.out.o7 _ _ _)
            have RX : Hid (BX 24 (put3 wr.drew q7 (.int .i64 1) (.int .i64 (b : Int)) (.slice sa (L.drop b).length sc)) q7 #[.int .i64 1, .int .i64 (b : Int), .slice sa (L.drop b).length sc]) := S3.out.x7.drew.put3 _ _ _
            obtain ⟨z0, z1, z2, z3, z4, z5⟩ := S3.out.x7.all3
            obtain ⟨q0, q1, q2, _⟩ := S3.out.x9.all3
            generalize (L.take k).length = gl at *
            generalize (L.drop b).length = dl at *
            go_upto_region 59 with fail
            go_region
            go_wp2_with fail
            generalize hX : (((wr.setCell ⟨q7, 0, none⟩ (.int .i64 1)).setCell ⟨q7, 1, none⟩ (.int .i64 (b : Int))).setCell ⟨q7, 2, none⟩ (.slice sa dl sc)).drew = X
            rw [show put3 wr.drew q7 (.int .i64 1) (.int .i64 (b : Int)) (.slice sa dl sc) = X from hX] at HX RX
            obtain ⟨r0, r1, r2, _⟩ := RX.out.all3
            exact bodyPost_ret (v := .tuple #[.slice ga gl gc, .agg #[.int .i64 1, .int .i64 (b : Int), .slice sa dl sc], .bool true]) (by simp [results, Try.results24, go_sem, r0, r1, r2]) rfl HX.out
end Go.Proofs.Ytjmjpmnjibdhhaa
