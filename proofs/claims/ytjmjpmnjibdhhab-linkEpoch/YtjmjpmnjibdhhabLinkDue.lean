/-
  Contract of link.Due.
-/
import Derived.Test.YtjmjpmnjibdhhabLinkSend
import Derived.Shelf.Abstract
namespace Go.Proofs.Ytjmjpmnjibdhhab
set_option maxRecDepth 100000
open Go.ChangeShapes Go.WideShapes Go.ChangeAt Go.RowKit

/-- Packets and an error are answered; the packets lie in new memory. -/
def DueP (w : World) (f : Int) (es : List Pk) (E : Ending) (w' : World) : Prop :=
  ∃ v, E = .returned (.tuple #[v, .int .i64 f]) ∧ w'.ownsRow w.heap.size 50 4 v (okL f es).length ((okL f es).flatMap encP) ∧ Below w.heap.size w w'
theorem DueP.no {w w' : World} {f : Int} {es : List Pk} (hf : f ≠ 0) (hb : Below w.heap.size w w') : DueP w f es (.returned (.tuple #[.slice none 0 0, .int .i64 f])) w' :=
  ⟨_, rfl, by rw [okL_no hf]; exact World.ownsRow_nil _ _ _ _, hb⟩
theorem DueP.yes {w w' : World} {es : List Pk} {v : Value} (h1 : w'.ownsRow w.heap.size 50 4 v es.length (es.flatMap encP)) (hb : Below w.heap.size w w') : DueP w 0 es (.returned (.tuple #[v, .int .i64 0])) w' := ⟨_, rfl, h1, hb⟩
theorem run_cutU (a : Option Addr) (len cap hi : Nat) (h2 : hi ≤ cap) (w : World) : (Instr.slice 24 (.slice a len cap) none (some (.int .i64 (hi : Int))) none).run Try.prog w = .ok (cutP a 0 hi cap) w := by
  have hsz : (sizeOf (Try.prog.elem 24)).run Try.prog w = .ok 2 w := by kernel_rfl
  rw [run_slice_h (P := Try.prog) (w := w) 24 a len cap (by rw [Try.underlying24]; kernel_rfl) .i64 hi (by omega) (by omega), hsz]
  simp only [Result.andThen, sliced, Int.toNat_natCast, cutP]

set_option maxHeartbeats 2000000 in
set_option maxRecDepth 100000 in
theorem due_any (e b : Int) (v : Value) (l : List Ml) (w : World) (h : MlR w v l) (hl : l.length * 16 ≤ 140737488351232) :
    Calls Try.prog 11 #[.agg #[.int .i64 e, .int .i64 b, v]] w (DueP w (dueE e b l.length) (dueF e b l)) := by
  have HR : Hid (MlR w v l) := h
  obtain ⟨a, cap, rfl⟩ := h.shape
  have hlc : l.length ≤ cap := by obtain ⟨a', c', e', h1, _⟩ := h; injection e' with _ _ e3; subst e3; exact h1
  have hn : l.length ≤ 140737488355328 := by omega
  clear h
  cases hm : mayS e b l.length
  · have he : dueE e b l.length = 9 := by unfold dueE; rw [hm]; rfl
    have C1 := fun X => senderMayBe_is hm a cap hn X
    have HE : Hid (∀ w', Below w.heap.size w w' → DueP w (dueE e b l.length) (dueF e b l) (.returned (.tuple #[.slice none 0 0, .int .i64 9])) w') := fun w' hw => by rw [he]; exact DueP.no (by decide) hw
    generalize DueP w (dueE e b l.length) (dueF e b l) = P at *
    clear he hm
    go_enter Try.func11, Try.ntmps11
    go_wp2_with fail
    refine (C1 _).mono ?_
    rintro E w1 ⟨rfl, hb1⟩
    have B1 : Hid (Below w.heap.size w w1) := box_below (by simpa using hb1)
    clear hb1
    go_wp2_with fail
    exact HE.out _ B1.out
  · obtain ⟨he, hb, h5⟩ := mayS_iff.1 hm
    have C1 := fun X => senderMayBe_is hm a cap hn X
    have hE : dueE e b l.length = 0 := by unfold dueE; rw [hm]; rfl
    have C2 : Hid (∀ X, Calls Try.prog 17 #[.agg #[.int .i64 e, .int .i64 b, .slice a l.length cap]] X fun E w' => ∃ v, E = .returned v ∧ (v = .int .i64 ((min 4 l.length : Nat) : Int) ∧ Below X.heap.size X w')) := fun X => (dueCount_any e b a l.length cap hn X).mono fun E w' h => ⟨_, h.1, rfl, h.2⟩
    have HE : Hid (∀ v w', w'.ownsRow w.heap.size 50 4 v (dueF e b l).length ((dueF e b l).flatMap encP) → Below w.heap.size w w' → DueP w (dueE e b l.length) (dueF e b l) (.returned (.tuple #[v, .int .i64 0])) w') := fun v w' h1 hw => by rw [hE]; exact DueP.yes h1 hw
    generalize DueP w (dueE e b l.length) (dueF e b l) = P at *
    unfold dueF at HE
    have hD1 : min 4 l.length ≤ 4 := by omega
    have hD2 : min 4 l.length ≤ l.length := by omega
    have CR : Hid (MlR w (cutP a 0 (min 4 l.length) cap) (l.take 4)) := by
      have h := reads_cutP (m := cap) HR.out (Nat.zero_le (min 4 l.length)) hD2 (by omega) (Nat.le_refl _)
      have e1 : (l.drop 0).take (min 4 l.length - 0) = l.take 4 := by
        rw [List.drop_zero, Nat.sub_zero]
        rcases Nat.le_total l.length 4 with h | h
        · rw [Nat.min_eq_right h, List.take_of_length_le (Nat.le_refl _), List.take_of_length_le h]
        · rw [Nat.min_eq_left h]
      rw [e1] at h; exact h
    have CUT : ∀ W, (Instr.slice 24 (.slice a l.length cap) none (some (.int .i64 ((min 4 l.length : Nat) : Int))) none).run Try.prog W = .ok (cutP a 0 (min 4 l.length) cap) W := run_cutU a l.length cap _ (by omega)
    have hdl : (l.take 4).length ≤ 4 := by rw [List.length_take]; omega
    obtain ⟨ca, cc, hcv⟩ := CR.out.shape
    rw [hcv] at CR CUT
    clear hE hm hcv hlc
    generalize l.take 4 = d at *
    generalize min 4 l.length = D at *
    go_enter Try.func11, Try.ntmps11
    go_upto_region 1 with fail
    have Q0 : BX 27 (w.alloc (.cells #[.int .i64 e, .int .i64 b, .slice a l.length cap] 27)) w.heap.size #[.int .i64 e, .int .i64 b, .slice a l.length cap] := BX.new _ _ _
    have B0 : Hid (Below w.heap.size w (w.alloc (.cells #[.int .i64 e, .int .i64 b, .slice a l.length cap] 27))) := below_alloc _ _
    generalize w.alloc (.cells #[.int .i64 e, .int .i64 b, .slice a l.length cap] 27) = W0 at *
    have hs0 := Q0.lt
    have Q1 : Hid (BX 27 W0 w.heap.size #[.int .i64 e, .int .i64 b, .slice a l.length cap]) := Q0
    have R0 : Hid (MlR W0 (.slice ca d.length cc) d) := CR.out.below B0.out (Nat.le_refl _)
    obtain ⟨q0, q1, q2, _⟩ := Q0.all3
    clear Q0 CR HR
    go_wp2_with fail
    refine (C1 _).mono ?_
    rintro E w1 ⟨rfl, hb1⟩
    have B1 : Hid (Below W0.heap.size W0 w1) := hb1
    have hs1 := hb1.size
    have KEEP : Hid (∀ V, Below W0.heap.size W0 V → V.cell? ⟨w.heap.size, 0, none⟩ = some (.int .i64 e) ∧ V.cell? ⟨w.heap.size, 1, none⟩ = some (.int .i64 b) ∧ V.cell? ⟨w.heap.size, 2, none⟩ = some (.slice a l.length cap)) := fun V hV => by
      obtain ⟨h1, h2, h3, _⟩ := (Q1.out.below hV hs0).all3
      exact ⟨h1, h2, h3⟩
    clear hb1 q0 q1 q2
    go_upto_region 4 with fail
    have HSD : Hid (_ ∧ _ ∧ _) := KEEP.out w1.drew B1.out.drew
    have edc : ∀ args w, (callFunc 17 args).run Try.prog w = .ok (.enter 17 args) w := enters_of Try.func17 (by kernel_rfl) rfl
    refine wp_region_held (S := fun V => V.cell? ⟨w.heap.size, 0, none⟩ = some (.int .i64 e) ∧ V.cell? ⟨w.heap.size, 1, none⟩ = some (.int .i64 b) ∧ V.cell? ⟨w.heap.size, 2, none⟩ = some (.slice a l.length cap)) (by kernel_rfl) ?_
    simp only [List.size_toArray, List.length_cons, List.length_nil, Nat.reduceAdd]
    refine takeH (i := 0) (v := .pointer (some ⟨w.heap.size, 2, none⟩)) (d := 10) rfl rfl (by kernel_rfl) (by kernel_rfl) (by kernel_rfl) (fun _ _ _ h => h) (by rfl) (fun V hV => by obtain ⟨v1, v2, v3⟩ := hV; go_simp) HSD.out ?_
    simp only [Act.put, List.setIfInBounds_toArray, List.set_cons_zero, List.set_cons_succ]
    refine takeH (i := 1) (v := .slice a l.length cap) (d := 11) rfl rfl (by kernel_rfl) (by kernel_rfl) (by kernel_rfl) (fun _ _ _ h => h) (by rfl) (fun V hV => by obtain ⟨v1, v2, v3⟩ := hV; go_simp) HSD.out ?_
    simp only [Act.put, List.setIfInBounds_toArray, List.set_cons_zero, List.set_cons_succ]
    refine takeH (i := 2) (v := .agg #[.int .i64 e, .int .i64 b, .slice a l.length cap]) (d := 12) rfl rfl (by kernel_rfl) (by kernel_rfl) (by kernel_rfl) (fun _ _ _ h => h) (by rfl) (fun V hV => by obtain ⟨v1, v2, v3⟩ := hV; go_simp) HSD.out ?_
    simp only [Act.put, List.setIfInBounds_toArray, List.set_cons_zero, List.set_cons_succ]
    refine takeH (i := 6) (v := .int .i64 0) (d := 16) rfl rfl (by kernel_rfl) (by kernel_rfl) (by kernel_rfl) (fun _ _ _ h => h) (by rfl) (fun V hV => by obtain ⟨v1, v2, v3⟩ := hV; go_simp) HSD.out ?_
    simp only [Act.put, List.setIfInBounds_toArray, List.set_cons_zero, List.set_cons_succ]
    refine oneH (i := 3) rfl (by kernel_rfl) rfl (call_gets (d := 13) (f := 17) (xs := #[.tmp 12]) (ats := #[27]) rfl rfl edc (vs := #[.agg #[.int .i64 e, .int .i64 b, .slice a l.length cap]]) (by simp [Act.eval]) (C2.out _) ?_)
    rintro v2 w2 ⟨rfl, hb2⟩
    have B2 : Hid (Below W0.heap.size W0 w2) := B1.out.trans ((below_undrew hb2).mono hs1)
    have HS2 : Hid (_ ∧ _ ∧ _) := KEEP.out w2 B2.out
    refine ⟨HS2.out, ?_⟩
    simp only [Act.put, List.setIfInBounds_toArray, List.set_cons_zero, List.set_cons_succ]
    refine takeH (i := 4) (v := .slice ca d.length cc) (d := 14) rfl rfl (by kernel_rfl) (by kernel_rfl) (by kernel_rfl) (fun _ _ _ h => h) (by rfl) (fun V hV => by obtain ⟨v1, v2, v3⟩ := hV; go_simp) HS2.out ?_
    simp only [Act.put, List.setIfInBounds_toArray, List.set_cons_zero, List.set_cons_succ]
    refine takeH (i := 5) (v := .int .i64 (d.length : Int)) (d := 15) rfl rfl (by kernel_rfl) (by kernel_rfl) (by kernel_rfl) (fun _ _ _ h => h) (by rfl) (fun V hV => by obtain ⟨v1, v2, v3⟩ := hV; go_simp) HS2.out ?_
    simp only [Act.put, List.setIfInBounds_toArray, List.set_cons_zero, List.set_cons_succ]
    refine wpAnyH_done (by kernel_rfl) ?_ _
    have hs2 := B2.out.size
    clear hb2 HS2 HSD CUT C1 C2 B1
    go_wp2_with fail
    go_loopw [4, 16] (fun u i wr => ∃ k : Nat, k ≤ d.length ∧ i = .int .i64 k ∧ wr.ownsRow W0.heap.size 50 4 u (pksF e b (d.take k)).length ((pksF e b (d.take k)).flatMap encP) ∧ Below W0.heap.size W0 wr) (fun _ i _ => d.length - (intOf i).toNat)
    case atStart => exact ⟨0, by omega, rfl, World.ownsRow_nil _ _ _ _, B2.out⟩
    case round =>
      obtain ⟨k, hk, rfl, hown, hbel⟩ := hrel
      have OW : Hid (wr.ownsRow W0.heap.size 50 4 u4 (pksF e b (d.take k)).length ((pksF e b (d.take k)).flatMap encP)) := hown
      have HB : Hid (Below W0.heap.size W0 wr) := hbel
      have hsr := hbel.size
      obtain ⟨q0, q1, q2⟩ := KEEP.out wr hbel
      clear hown hbel
      by_cases hlt : k < d.length
      · obtain ⟨xb, xo, cap', e1, _, _, lb, hv⟩ := MlR.at (R0.out.below HB.out (Nat.le_refl _)) (by omega)
        injection e1 with e1 _ e3
        subst e1 e3
        obtain ⟨x, hx⟩ := getX hlt
        have p0 : (0 : Int) ≤ (k : Int) := by omega
        have p1 : (k : Int) < (d.length : Int) := by omega
        obtain ⟨c1, c2⟩ := hv k x hx
        have HT : Hid (pksF e b (d.take (k + 1)) = pksF e b (d.take k) ++ [(e, b + k, x)]) := by
          show pksF e b (d.take (k + 1)) = _
          rw [take_snoc hx, pksF_snoc, List.length_take, Nat.min_eq_left (by omega)]
        have hpl : (pksF e b (d.take k)).length ≤ 4 := by rw [pksF_len, List.length_take]; omega
        obtain ⟨x1, x2⟩ := x
        simp only at c1 c2
        clear hv hx
        generalize pksF e b (d.take k) = f at *
        go_upto_region 7 with fail
        have N1 : BX 41 (wr.alloc (.cells #[.int .i64 x1, .int .i64 x2] 41)) wr.heap.size #[.int .i64 x1, .int .i64 x2] := BX.new _ _ _
        have b3 : Below W0.heap.size W0 (wr.alloc (.cells #[.int .i64 x1, .int .i64 x2] 41)) := HB.out.alloc hsr _
        have o3 : (wr.alloc (.cells #[.int .i64 x1, .int .i64 x2] 41)).ownsRow W0.heap.size 50 4 u4 f.length (f.flatMap encP) := OW.out.alloc _
        have hs3 : wr.heap.size < (wr.alloc (.cells #[.int .i64 x1, .int .i64 x2] 41)).heap.size := by simp
        generalize wr.alloc (.cells #[.int .i64 x1, .int .i64 x2] 41) = W3 at *
        have B3 : Hid (Below W0.heap.size W0 W3) := b3
        have O3 : Hid (W3.ownsRow W0.heap.size 50 4 u4 f.length (f.flatMap encP)) := o3
        obtain ⟨n0, n1, _⟩ := N1.all2
        obtain ⟨q0, q1, q2⟩ := KEEP.out W3 b3
        obtain ⟨ua, uc, hue⟩ := (PkR.ownd o3).shape
        clear N1 b3 o3 c1 c2
        go_wp2_with (at_builtin; refine wpList_append_newK kP rfl _ _ rfl W0.heap.size _ f rfl (O3.out.alloc _) W3.heap.size (e, b + k, x1, x2) rfl #[.int .i64 e, .int .i64 (b + k), .int .i64 x1, .int .i64 x2] rfl (0, 0) (heap_alloc_new _ _) ?d1 ?d2 ?d3 ?_)
        case d1 => simp [kP]; omega
        case d2 => unfold maxLen; omega
        case d3 => first | omega | (simp; omega)
        intro g gc w4 ho4 hb4 hg4
        have A4 : Below W0.heap.size W0 (W3.alloc (.cells #[.int .i64 e, .int .i64 (b + k), .int .i64 x1, .int .i64 x2] 50)) := B3.out.alloc (by omega) _
        have B4 : Hid (Below W0.heap.size W0 w4) := A4.trans hb4
        have O4 : Hid (w4.ownsRow W0.heap.size 50 4 (.slice (some ⟨g, 0, none⟩) (f.length + 1) gc) (pksF e b (d.take (k + 1))).length ((pksF e b (d.take (k + 1))).flatMap encP)) := by
          show World.ownsRow _ _ _ _ _ _ _
          rw [HT.out, List.length_append, flat_snoc]
          exact ho4
        clear ho4 hb4 hg4 A4 n0 n1 q0 q1 q2 hue
        go_wp2_with fail
        go_roundw
        case rel => exact ⟨k + 1, by omega, by go_num, O4.out, B4.out⟩
        case measure => simp [intOf]; omega
      · have ek : d.take k = d := List.take_of_length_le (by omega)
        rw [ek] at OW
        obtain ⟨ua, uc, rfl⟩ := (PkR.ownd OW.out).shape
        have HX : Hid (P (.returned (.tuple #[.slice ua (pksF e b d).length uc, .int .i64 0])) wr) := HE.out _ _ (own_lower OW.out (by omega)) (B0.out.trans (HB.out.mono (by omega)))
        clear ek OW
        go_wp2_with fail
        exact HX.out
end Go.Proofs.Ytjmjpmnjibdhhab
