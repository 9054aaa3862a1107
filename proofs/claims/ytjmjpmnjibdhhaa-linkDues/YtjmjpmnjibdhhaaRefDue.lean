/-
  Contract of the document's own LinkDue.
-/
import Derived.Test.YtjmjpmnjibdhhaaLinkDue
import Derived.Test.YtjmjpmnjibdhhaaRefLink
namespace Go.Proofs.Ytjmjpmnjibdhhaa
set_option maxRecDepth 100000
open Go.ChangeShapes Go.WideShapes Go.ChangeAt Go.RowKit

set_option maxHeartbeats 2000000 in
set_option maxRecDepth 100000 in
theorem refDue_any (e b : Int) (v : Value) (l : List Ml) (w : World) (h : MlR w v l) (hl : l.length * 16 ≤ 140737488351232) :
    Calls Try.prog 16 #[.agg #[.int .i64 e, .int .i64 b, v]] w (DueP w (dueE e b l.length) (dueF e b l)) := by
  have HR : Hid (MlR w v l) := h
  obtain ⟨a, cap, rfl⟩ := h.shape
  have hlc : l.length ≤ cap := by obtain ⟨a', c', e', h1, _⟩ := h; injection e' with _ _ e3; subst e3; exact h1
  have hn : l.length ≤ 140737488355328 := by omega
  clear h
  cases hm : mayS e b l.length
  · have he : dueE e b l.length = 9 := by unfold dueE; rw [hm]; rfl
    have C1 := fun X => senderMay_is hm a cap hn X
    have HE : Hid (∀ w', Below w.heap.size w w' → DueP w (dueE e b l.length) (dueF e b l) (.returned (.tuple #[.slice none 0 0, .int .i64 9])) w') := fun w' hw => by rw [he]; exact DueP.no (by decide) hw
    generalize DueP w (dueE e b l.length) (dueF e b l) = P at *
    clear he hm
    go_enter Try.func16, Try.ntmps16
    go_wp2_with fail
    refine (C1 _).mono ?_
    rintro E w1 ⟨rfl, hb1⟩
    have B1 : Hid (Below w.heap.size w w1) := box_below (by simpa using hb1)
    clear hb1
    go_wp2_with fail
    exact HE.out _ B1.out
  · obtain ⟨he, hb, h5⟩ := mayS_iff.1 hm
    have C1 := fun X => senderMay_is hm a cap hn X
    have hE : dueE e b l.length = 0 := by unfold dueE; rw [hm]; rfl
    have HE : Hid (∀ v w', w'.ownsRow w.heap.size 48 4 v (dueF e b l).length ((dueF e b l).flatMap encP) → Below w.heap.size w w' → DueP w (dueE e b l.length) (dueF e b l) (.returned (.tuple #[v, .int .i64 0])) w') := fun v w' h1 hw => by rw [hE]; exact DueP.yes h1 hw
    generalize DueP w (dueE e b l.length) (dueF e b l) = P at *
    unfold dueF at HE
    clear hE hm hlc
    go_enter Try.func16, Try.ntmps16
    go_upto_region 1 with fail
    have Q0 : BX 24 (w.alloc (.cells #[.int .i64 e, .int .i64 b, .slice a l.length cap] 24)) w.heap.size #[.int .i64 e, .int .i64 b, .slice a l.length cap] := BX.new _ _ _
    have B0 : Hid (Below w.heap.size w (w.alloc (.cells #[.int .i64 e, .int .i64 b, .slice a l.length cap] 24))) := below_alloc _ _
    generalize w.alloc (.cells #[.int .i64 e, .int .i64 b, .slice a l.length cap] 24) = W0 at *
    have hs0 := Q0.lt
    have Q1 : Hid (BX 24 W0 w.heap.size #[.int .i64 e, .int .i64 b, .slice a l.length cap]) := Q0
    have R0 : Hid (MlR W0 (.slice a l.length cap) l) := HR.out.below B0.out (Nat.le_refl _)
    obtain ⟨q0, q1, q2, _⟩ := Q0.all3
    clear Q0 HR
    go_wp2_with fail
    refine (C1 _).mono ?_
    rintro E w1 ⟨rfl, hb1⟩
    have B1 : Hid (Below W0.heap.size W0 w1) := hb1
    have hs1 := hb1.size
    have KEEP : Hid (∀ V, Below W0.heap.size W0 V → V.cell? ⟨w.heap.size, 0, none⟩ = some (.int .i64 e) ∧ V.cell? ⟨w.heap.size, 1, none⟩ = some (.int .i64 b) ∧ V.cell? ⟨w.heap.size, 2, none⟩ = some (.slice a l.length cap)) := fun V hV => by
      obtain ⟨h1, h2, h3, _⟩ := (Q1.out.below hV hs0).all3
      exact ⟨h1, h2, h3⟩
    clear hb1 q0 q1 q2
    go_wp2_with fail
    go_loopw [4, 5] (fun u i wr => ∃ k : Nat, k ≤ l.length ∧ k ≤ 4 ∧ i = .int .i64 k ∧ wr.ownsRow W0.heap.size 48 4 u (pksF e b (l.take k)).length ((pksF e b (l.take k)).flatMap encP) ∧ Below W0.heap.size W0 wr) (fun _ i _ => l.length - (intOf i).toNat)
    case atStart => exact ⟨0, by omega, by omega, rfl, World.ownsRow_nil _ _ _ _, B1.out⟩
    case round =>
      obtain ⟨k, hk, hk4, rfl, hown, hbel⟩ := hrel
      have OW : Hid (wr.ownsRow W0.heap.size 48 4 u4 (pksF e b (l.take k)).length ((pksF e b (l.take k)).flatMap encP)) := hown
      have HB : Hid (Below W0.heap.size W0 wr) := hbel
      have hsr := hbel.size
      obtain ⟨q0, q1, q2⟩ := KEEP.out wr hbel
      clear hown hbel
      by_cases hlt : k < l.length
      · have d1 : decide ((k : Int) < (l.length : Int)) = true := by simp; omega
        by_cases hlt4 : k < 4
        · have d2 : decide ((k : Int) < 4) = true := by simp; omega
          obtain ⟨xb, xo, cap', e1, _, _, lb, hv⟩ := MlR.at (R0.out.below HB.out (Nat.le_refl _)) (by omega)
          injection e1 with e1 _ e3
          subst e1 e3
          obtain ⟨x, hx⟩ := getX hlt
          have p0 : (0 : Int) ≤ (k : Int) := by omega
          have p1 : (k : Int) < (l.length : Int) := by omega
          have HT : Hid (pksF e b (l.take (k + 1)) = pksF e b (l.take k) ++ [(e, b + k, x)]) := by
            show pksF e b (l.take (k + 1)) = _
            rw [take_snoc hx, pksF_snoc, List.length_take, Nat.min_eq_left (by omega)]
          have hpl : (pksF e b (l.take k)).length ≤ 4 := by rw [pksF_len, List.length_take]; omega
          have KEEP2 : Hid (∀ V, Below wr.heap.size wr V → (V.cell? ⟨w.heap.size, 0, none⟩ = some (.int .i64 e) ∧ V.cell? ⟨w.heap.size, 1, none⟩ = some (.int .i64 b) ∧ V.cell? ⟨w.heap.size, 2, none⟩ = some (.slice (some ⟨xb, xo, none⟩) l.length cap)) ∧ V.cell? ⟨xb, xo + k * 2, none⟩ = some (.int .i64 x.1) ∧ V.cell? ⟨xb, xo + k * 2 + 1, none⟩ = some (.int .i64 x.2)) := fun V hV => ⟨KEEP.out V (HB.out.trans (hV.mono hsr)), (hV.cell (p := ⟨xb, xo + k * 2, none⟩) lb).trans (hv k x hx).1, (hV.cell (p := ⟨xb, xo + k * 2 + 1, none⟩) lb).trans (hv k x hx).2⟩
          have wbk : IntKind.i64.wrap (b + (k : Int)) = b + (k : Int) := wrap_id64 (by omega) (by omega)
          obtain ⟨x1, x2⟩ := x
          simp only at KEEP2
          clear hv hx
          generalize pksF e b (l.take k) = f at *
          go_upto_region 7 with fail
          have HSD : Hid ((_ ∧ _ ∧ _) ∧ _ ∧ _) := KEEP2.out wr.drew (Below.refl _ _).drew
          have A3 : Below wr.heap.size wr (wr.alloc (.cells #[.int .i64 e, .int .i64 (b + k), .int .i64 x1, .int .i64 x2] 48)).drew := ((Below.refl _ _).alloc (Nat.le_refl _) _).drew
          have HSE : Hid ((_ ∧ _ ∧ _) ∧ _ ∧ _) := KEEP2.out _ A3
          have hsz : (wr.alloc (.cells #[.int .i64 e, .int .i64 (b + k), .int .i64 x1, .int .i64 x2] 48)).drew.heap.size = wr.heap.size + 1 := by simp
          obtain ⟨g, gc, w4, hrun, hown4, hgr⟩ := run_append_newK kP (w := (wr.alloc (.cells #[.int .i64 e, .int .i64 (b + k), .int .i64 x1, .int .i64 x2] 48)).drew) 38 W0.heap.size u4 f ((OW.out.alloc _).drew) wr.heap.size (e, b + k, x1, x2) #[.int .i64 e, .int .i64 (b + k), .int .i64 x1, .int .i64 x2] rfl (0, 0) (heap_alloc_new wr _) (by simp only [kP]; omega) (by unfold maxLen; omega) (by rw [hsz]; omega)
          unfold kP at hrun
          simp only at hrun
          have B4 : Hid (Below W0.heap.size W0 w4) := (HB.out.trans (A3.mono hsr)).trans ((Below.refl _ _).grown hgr (by rw [hsz]; omega) (fun j hj => (OW.out.lt j hj).1))
          have O4 : Hid (w4.ownsRow W0.heap.size 48 4 (.slice (some ⟨g, 0, none⟩) (f.length + 1) gc) (pksF e b (l.take (k + 1))).length ((pksF e b (l.take (k + 1))).flatMap encP)) := by
            show World.ownsRow _ _ _ _ _ _ _
            rw [HT.out]
            exact hown4
          clear hown4 hgr hsz q0 q1 q2
          have k1 := KEEP.out w4 B4.out
          have XC : (∀ p : Addr, p.block < W0.heap.size → w4.cell? p = wr.cell? p) := fun p hp => (B4.out.cell hp).trans (HB.out.cell hp).symm
          have ltx : xb < W0.heap.size := by
            obtain ⟨_, _, e', _, _, _, hel⟩ := R0.out
            injection e' with e1' _ _
            obtain ⟨b2, o2, e2', lt2, _⟩ := hel (by omega)
            rw [← e1'] at e2'
            injection e2' with e2'
            injection e2' with e2'
            omega
          have HSF : Hid ((w4.cell? ⟨w.heap.size, 0, none⟩ = some (.int .i64 e) ∧ w4.cell? ⟨w.heap.size, 1, none⟩ = some (.int .i64 b) ∧ w4.cell? ⟨w.heap.size, 2, none⟩ = some (.slice (some ⟨xb, xo, none⟩) l.length cap)) ∧ w4.cell? ⟨xb, xo + k * 2, none⟩ = some (.int .i64 x1) ∧ w4.cell? ⟨xb, xo + k * 2 + 1, none⟩ = some (.int .i64 x2)) := ⟨k1, (XC _ ltx).trans HSD.out.2.1, (XC _ ltx).trans HSD.out.2.2⟩
          clear k1 XC ltx
          refine wp_region_held (S := fun V => (V.cell? ⟨w.heap.size, 0, none⟩ = some (.int .i64 e) ∧ V.cell? ⟨w.heap.size, 1, none⟩ = some (.int .i64 b) ∧ V.cell? ⟨w.heap.size, 2, none⟩ = some (.slice (some ⟨xb, xo, none⟩) l.length cap)) ∧ V.cell? ⟨xb, xo + k * 2, none⟩ = some (.int .i64 x1) ∧ V.cell? ⟨xb, xo + k * 2 + 1, none⟩ = some (.int .i64 x2)) (by kernel_rfl) ?_
          simp only [List.size_toArray, List.length_cons, List.length_nil, Nat.reduceAdd]
          refine takeH (i := 0) (v := u4) (d := 20) rfl rfl (by kernel_rfl) (by kernel_rfl) (by kernel_rfl) (fun _ _ _ h => h) (by rfl) (fun V hV => by obtain ⟨⟨v1, v2, v3⟩, v4, v5⟩ := hV; go_simp) HSD.out ?_
          simp only [Act.put, List.setIfInBounds_toArray, List.set_cons_zero, List.set_cons_succ]
          refine takeH (i := 1) (v := .pointer (some ⟨w.heap.size, 0, none⟩)) (d := 21) rfl rfl (by kernel_rfl) (by kernel_rfl) (by kernel_rfl) (fun _ _ _ h => h) (by rfl) (fun V hV => by obtain ⟨⟨v1, v2, v3⟩, v4, v5⟩ := hV; go_simp) HSD.out ?_
          simp only [Act.put, List.setIfInBounds_toArray, List.set_cons_zero, List.set_cons_succ]
          refine takeH (i := 2) (v := .int .i64 e) (d := 22) rfl rfl (by kernel_rfl) (by kernel_rfl) (by kernel_rfl) (fun _ _ _ h => h) (by rfl) (fun V hV => by obtain ⟨⟨v1, v2, v3⟩, v4, v5⟩ := hV; go_simp) HSD.out ?_
          simp only [Act.put, List.setIfInBounds_toArray, List.set_cons_zero, List.set_cons_succ]
          refine takeH (i := 3) (v := .pointer (some ⟨w.heap.size, 1, none⟩)) (d := 23) rfl rfl (by kernel_rfl) (by kernel_rfl) (by kernel_rfl) (fun _ _ _ h => h) (by rfl) (fun V hV => by obtain ⟨⟨v1, v2, v3⟩, v4, v5⟩ := hV; go_simp) HSD.out ?_
          simp only [Act.put, List.setIfInBounds_toArray, List.set_cons_zero, List.set_cons_succ]
          refine takeH (i := 4) (v := .int .i64 b) (d := 24) rfl rfl (by kernel_rfl) (by kernel_rfl) (by kernel_rfl) (fun _ _ _ h => h) (by rfl) (fun V hV => by obtain ⟨⟨v1, v2, v3⟩, v4, v5⟩ := hV; go_simp) HSD.out ?_
          simp only [Act.put, List.setIfInBounds_toArray, List.set_cons_zero, List.set_cons_succ]
          refine takeH (i := 5) (v := .int .i64 (k : Int)) (d := 25) rfl rfl (by kernel_rfl) (by kernel_rfl) (by kernel_rfl) (fun _ _ _ h => h) (by rfl) (fun V hV => by obtain ⟨⟨v1, v2, v3⟩, v4, v5⟩ := hV; go_simp) HSD.out ?_
          simp only [Act.put, List.setIfInBounds_toArray, List.set_cons_zero, List.set_cons_succ]
          refine takeH (i := 6) (v := .int .i64 (b + k)) (d := 26) rfl rfl (by kernel_rfl) (by kernel_rfl) (by kernel_rfl) (fun _ _ _ h => h) (by rfl) (fun V hV => by obtain ⟨⟨v1, v2, v3⟩, v4, v5⟩ := hV; go_simp) HSD.out ?_
          simp only [Act.put, List.setIfInBounds_toArray, List.set_cons_zero, List.set_cons_succ]
          refine takeH (i := 7) (v := .pointer (some ⟨w.heap.size, 2, none⟩)) (d := 27) rfl rfl (by kernel_rfl) (by kernel_rfl) (by kernel_rfl) (fun _ _ _ h => h) (by rfl) (fun V hV => by obtain ⟨⟨v1, v2, v3⟩, v4, v5⟩ := hV; go_simp) HSD.out ?_
          simp only [Act.put, List.setIfInBounds_toArray, List.set_cons_zero, List.set_cons_succ]
          refine takeH (i := 8) (v := .slice (some ⟨xb, xo, none⟩) l.length cap) (d := 28) rfl rfl (by kernel_rfl) (by kernel_rfl) (by kernel_rfl) (fun _ _ _ h => h) (by rfl) (fun V hV => by obtain ⟨⟨v1, v2, v3⟩, v4, v5⟩ := hV; go_simp) HSD.out ?_
          simp only [Act.put, List.setIfInBounds_toArray, List.set_cons_zero, List.set_cons_succ]
          refine takeH (i := 9) (v := .int .i64 (k : Int)) (d := 29) rfl rfl (by kernel_rfl) (by kernel_rfl) (by kernel_rfl) (fun _ _ _ h => h) (by rfl) (fun V hV => by obtain ⟨⟨v1, v2, v3⟩, v4, v5⟩ := hV; go_simp) HSD.out ?_
          simp only [Act.put, List.setIfInBounds_toArray, List.set_cons_zero, List.set_cons_succ]
          refine takeH (i := 10) (v := .pointer (some ⟨xb, xo + k * 2, none⟩)) (d := 30) rfl rfl (by kernel_rfl) (by kernel_rfl) (by kernel_rfl) (fun _ _ _ h => h) (by rfl) (fun V hV => by obtain ⟨⟨v1, v2, v3⟩, v4, v5⟩ := hV; go_simp) HSD.out ?_
          simp only [Act.put, List.setIfInBounds_toArray, List.set_cons_zero, List.set_cons_succ]
          refine takeH (i := 11) (v := .agg #[.int .i64 x1, .int .i64 x2]) (d := 31) rfl rfl (by kernel_rfl) (by kernel_rfl) (by kernel_rfl) (fun _ _ _ h => h) (by rfl) (fun V hV => by obtain ⟨⟨v1, v2, v3⟩, v4, v5⟩ := hV; go_simp) HSD.out ?_
          simp only [Act.put, List.setIfInBounds_toArray, List.set_cons_zero, List.set_cons_succ]
          refine takeH (i := 12) (v := .agg #[.int .i64 e, .int .i64 (b + k), .int .i64 x1, .int .i64 x2]) (d := 32) rfl rfl (by kernel_rfl) (by kernel_rfl) (by kernel_rfl) (fun _ _ _ h => h) (by rfl) (fun V hV => by obtain ⟨⟨v1, v2, v3⟩, v4, v5⟩ := hV; go_simp) HSD.out ?_
          simp only [Act.put, List.setIfInBounds_toArray, List.set_cons_zero, List.set_cons_succ]
          refine oneH (i := 13) rfl (by kernel_rfl) rfl (op_run (d := 33) (v' := .slice (some ⟨wr.heap.size, 0, none⟩) 1 1) (w' := (wr.alloc (.cells #[.int .i64 e, .int .i64 (b + k), .int .i64 x1, .int .i64 x2] 48)).drew) rfl (by go_simp) ⟨HSE.out, ?_⟩)
          simp only [Act.put, List.setIfInBounds_toArray, List.set_cons_zero, List.set_cons_succ]
          refine oneH (i := 14) rfl (by kernel_rfl) rfl (call_append (d := 34) (s := .tmp 20) (x := .tmp 33) (t := 38) rfl rfl (v := u4) (v2 := .slice (some ⟨wr.heap.size, 0, none⟩) 1 1) (by simp [Act.eval]) (by simp [Act.eval]) hrun ⟨HSF.out, ?_⟩)
          simp only [Act.put, List.setIfInBounds_toArray, List.set_cons_zero, List.set_cons_succ]
          refine takeH (i := 15) (v := .slice (some ⟨g, 0, none⟩) (f.length + 1) gc) (d := 4) rfl rfl (by kernel_rfl) (by kernel_rfl) (by kernel_rfl) (fun _ _ _ h => h) (by rfl) (fun V hV => by obtain ⟨⟨v1, v2, v3⟩, v4, v5⟩ := hV; go_simp) HSF.out ?_
          simp only [Act.put, List.setIfInBounds_toArray, List.set_cons_zero, List.set_cons_succ]
          refine wpAnyH_done (by kernel_rfl) ?_ _
          clear HSD HSE HSF KEEP2
          go_wp2_with fail
          go_roundw
          case rel => exact ⟨k + 1, by omega, by omega, by go_num, O4.out, B4.out⟩
          case measure => simp [intOf]; omega
        · have d2 : decide ((k : Int) < 4) = false := by simp; omega
          have ek : l.take k = l.take 4 := by rw [show k = 4 by omega]
          rw [ek] at OW
          obtain ⟨ua, uc, rfl⟩ := (PkR.ownd OW.out).shape
          have HX : Hid (P (.returned (.tuple #[.slice ua (pksF e b (l.take 4)).length uc, .int .i64 0])) wr) := HE.out _ _ (own_lower OW.out (by omega)) (B0.out.trans (HB.out.mono (by omega)))
          clear ek OW
          go_wp2_with fail
          exact HX.out
      · have d1 : decide ((k : Int) < (l.length : Int)) = false := by simp; omega
        have ek : l.take k = l.take 4 := by rw [List.take_of_length_le (by omega), List.take_of_length_le (by omega)]
        rw [ek] at OW
        obtain ⟨ua, uc, rfl⟩ := (PkR.ownd OW.out).shape
        have HX : Hid (P (.returned (.tuple #[.slice ua (pksF e b (l.take 4)).length uc, .int .i64 0])) wr) := HE.out _ _ (own_lower OW.out (by omega)) (B0.out.trans (HB.out.mono (by omega)))
        clear ek OW
        go_wp2_with fail
        exact HX.out
end Go.Proofs.Ytjmjpmnjibdhhaa
