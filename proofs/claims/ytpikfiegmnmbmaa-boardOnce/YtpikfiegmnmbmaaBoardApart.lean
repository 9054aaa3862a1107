/-
  Contracts of slices.Clone of numbers and of board.apart.
-/
import Derived.Test.YtpikfiegmnmbmaaRefRepCopy
import Derived.Test.YtpikfiegmnmbmaaRegionCall
import Derived.Shelf.Abstract
namespace Go.Proofs.Ytpikfiegmnmbmaa
set_option maxRecDepth 100000
open Go.ChangeShapes Go.WideShapes Go.ChangeAt Go.RowKit

set_option maxHeartbeats 1000000 in
theorem cloneN_any (v : Value) (xs : List Int) (w : World) (h : InR w v xs) (hl : xs.length * 8 ≤ 140737488351232) :
    Calls Try.prog 36 #[v] w fun e w' => ∃ v', e = .returned v' ∧ w'.ownsRow w.heap.size 3 1 v' xs.length (xs.flatMap encI) ∧ Below w.heap.size w w' := by
  have q22 : ∀ (w : World) (a : Option Addr) (n c n' c' : Nat), (binOp .eql 30 (.slice a n c) (.slice none n' c')).run Try.prog w = .ok (.bool a.isNone) w := fun w a n c n' c' => Lib.run_eql_slice_nil w _ _ a n c n' c' Try.underlying30
  have HR : Hid (InR w v xs) := h
  obtain ⟨a, cap, rfl, hc, hm, ha, _⟩ := h
  cases a with
  | none =>
    have hcap := ha rfl
    have : xs = [] := List.eq_nil_of_length_eq_zero (by omega)
    subst this
    subst hcap
    clear ha
    go_enter Try.func36, Try.ntmps36
    go_wp2_with fail
    go_ret
    exact ⟨_, rfl, World.ownsRow_nil _ _ _ _, Below.refl _ _⟩
  | some x =>
    clear ha
    go_enter Try.func36, Try.ntmps36
    go_wp2_with (at_builtin; refine wpList_append_rowK kI rfl _ _ rfl w.heap.size _ ([] : List Int) rfl (World.ownsRow_made w #[] 0 (Nat.le_refl _) (Nat.zero_le _) rfl) _ xs rfl (HR.out.below (below_alloc _ _) (Nat.le_refl _)) (by simp [kI]; omega) (by simp; unfold maxLen; omega) (by simp) ?_)
    intro v2 w2 hown2 hbel2 _
    have B2 : Hid (Below w.heap.size w w2) := ((Below.refl _ _).alloc (Nat.le_refl _) _).trans hbel2
    have O2 : Hid (w2.ownsRow w.heap.size 3 1 v2 xs.length (xs.flatMap encI)) := by
      show World.ownsRow _ _ _ _ _ _ _
      simpa [kI] using hown2
    clear hown2 hbel2
    go_wp2_with fail
    go_ret
    exact ⟨v2, rfl, O2.out, B2.out⟩

set_option maxHeartbeats 4000000 in
set_option maxRecDepth 100000 in
theorem apart_any (r : RpL) (vs vg : Value) (w : World) (hs : InR w vs r.sent) (hg : InR w vg r.got) (hB : RpB r) :
    Calls Try.prog 26 #[.agg #[.int .i64 r.worker, .int .i64 r.epoch, .int .i64 r.step, vs, vg, .int .i64 r.waking, .int .i64 r.opn]] w (RcpP w r) := by
  have HS : Hid (InR w vs r.sent) := hs
  have HG : Hid (InR w vg r.got) := hg
  have HBB : Hid (RpB r) := hB
  obtain ⟨sa, sc, rfl⟩ := hs.shape
  obtain ⟨ga, gc, rfl⟩ := hg.shape
  clear hs hg hB
  obtain ⟨W0, hW0⟩ : ∃ W0, W0 = (w.alloc (.cells #[.int .i64 r.worker, .int .i64 r.epoch, .int .i64 r.step, .slice sa r.sent.length sc, .slice ga r.got.length gc, .int .i64 r.waking, .int .i64 r.opn] 32)).alloc (.cells #[.int .i64 0, .int .i64 0, .int .i64 0, .slice none 0 0, .slice none 0 0, .int .i64 0, .int .i64 0] 32) := ⟨_, rfl⟩
  obtain ⟨Q0, M0, B0, s1, s2⟩ := boxes2 w #[.int .i64 r.worker, .int .i64 r.epoch, .int .i64 r.step, .slice sa r.sent.length sc, .slice ga r.got.length gc, .int .i64 r.waking, .int .i64 r.opn] #[.int .i64 0, .int .i64 0, .int .i64 0, .slice none 0 0, .slice none 0 0, .int .i64 0, .int .i64 0] 32 32 W0 hW0
  have QH : Hid (BX 32 W0 w.heap.size #[.int .i64 r.worker, .int .i64 r.epoch, .int .i64 r.step, .slice sa r.sent.length sc, .slice ga r.got.length gc, .int .i64 r.waking, .int .i64 r.opn]) := Q0
  have MH : Hid (BX 32 W0 (w.heap.size + 1) #[.int .i64 0, .int .i64 0, .int .i64 0, .slice none 0 0, .slice none 0 0, .int .i64 0, .int .i64 0]) := M0
  have BH : Hid (Below w.heap.size w W0) := B0
  clear Q0 M0 B0
  have HE : Hid (∀ vs vg w', w'.ownsRow w.heap.size 3 1 vs r.sent.length (r.sent.flatMap encI) → w'.ownsRow w.heap.size 3 1 vg r.got.length (r.got.flatMap encI) → Below w.heap.size w w' → RcpP w r (.returned (.agg #[.int .i64 r.worker, .int .i64 r.epoch, .int .i64 r.step, vs, vg, .int .i64 r.waking, .int .i64 r.opn])) w') := fun vs vg w' h1 h2 h3 => ⟨vs, vg, rfl, h1, h2, h3⟩
  generalize RcpP w r = P at *
  have C1 : Hid (∀ X, Below w.heap.size w X → Calls Try.prog 36 #[.slice sa r.sent.length sc] X fun e w' => ∃ v', e = .returned v' ∧ (w'.ownsRow X.heap.size 3 1 v' r.sent.length (r.sent.flatMap encI) ∧ Below X.heap.size X w')) := fun X hX => cloneN_any _ r.sent X (HS.out.below hX (Nat.le_refl _)) HBB.out.1
  have C2 : Hid (∀ X, Below w.heap.size w X → Calls Try.prog 36 #[.slice ga r.got.length gc] X fun e w' => ∃ v', e = .returned v' ∧ (w'.ownsRow X.heap.size 3 1 v' r.got.length (r.got.flatMap encI) ∧ Below X.heap.size X w')) := fun X hX => cloneN_any _ r.got X (HG.out.below hX (Nat.le_refl _)) HBB.out.2
  have en : ∀ args w, (callFunc 36 args).run Try.prog w = .ok (.enter 36 args) w := enters_of Try.func36 (by kernel_rfl) rfl
  clear HS HG HBB
  go_enter Try.func26, Try.ntmps26
  go_upto_region 1 with fail
  rw [← hW0]
  clear hW0
  have b0 : Below W0.heap.size W0 W0.drew := (Below.refl _ _).drew
  have qd : BX 32 W0.drew w.heap.size #[.int .i64 r.worker, .int .i64 r.epoch, .int .i64 r.step, .slice sa r.sent.length sc, .slice ga r.got.length gc, .int .i64 r.waking, .int .i64 r.opn] := QH.out.drew
  have HSD : Hid (W0.drew.cell? ⟨w.heap.size, 4, none⟩ = some (.slice ga r.got.length gc)) := qd.all7.2.2.2.2.1
  refine region_lastF (S := fun V => V.cell? ⟨w.heap.size, 4, none⟩ = some (.slice ga r.got.length gc)) (by kernel_rfl) rfl (by kernel_rfl) (by kernel_rfl) ?_
  simp only [List.pop_toArray, List.dropLast_cons_cons, List.dropLast_singleton, List.size_toArray, List.length_cons, List.length_nil, Nat.reduceAdd]
  refine takeH (i := 0) (v := .pointer (some ⟨w.heap.size, 3, none⟩)) (d := 3) rfl rfl (by kernel_rfl) (by kernel_rfl) (by kernel_rfl) (fun _ _ _ h => h) (by rfl) (fun V hV => by have v1 := hV; go_simp) HSD.out ?_
  simp only [Act.put, List.setIfInBounds_toArray, List.set_cons_zero, List.set_cons_succ]
  refine takeH (i := 3) (v := .pointer (some ⟨w.heap.size, 4, none⟩)) (d := 6) rfl rfl (by kernel_rfl) (by kernel_rfl) (by kernel_rfl) (fun _ _ _ h => h) (by rfl) (fun V hV => by have v1 := hV; go_simp) HSD.out ?_
  simp only [Act.put, List.setIfInBounds_toArray, List.set_cons_zero, List.set_cons_succ]
  refine takeH (i := 4) (v := .slice ga r.got.length gc) (d := 7) rfl rfl (by kernel_rfl) (by kernel_rfl) (by kernel_rfl) (fun _ _ _ h => h) (by rfl) (fun V hV => by have v1 := hV; go_simp) HSD.out ?_
  simp only [Act.put, List.setIfInBounds_toArray, List.set_cons_zero, List.set_cons_succ]
  have l3 := qd.all7.2.2.2.1
  refine oneH (i := 1) rfl (by kernel_rfl) rfl (op_run (d := 4) (v' := .slice sa r.sent.length sc) (w' := W0.drew) rfl (by go_simp) ⟨HSD.out, ?_⟩)
  simp only [Act.put, List.setIfInBounds_toArray, List.set_cons_zero, List.set_cons_succ]
  refine oneH (i := 2) rfl (by kernel_rfl) rfl (call_gets (d := 5) (f := 36) (xs := #[.tmp 4]) (ats := #[30]) rfl rfl en (vs := #[.slice sa r.sent.length sc]) (by simp [Act.eval]) (C1.out _ (BH.out.trans (b0.mono (by omega)))) ?_)
  rintro v1 w1 ⟨h1, hb1⟩
  have hb1' : Below W0.heap.size W0 w1 := b0.trans hb1
  have hs1 := hb1'.size
  have q1 : BX 32 w1 w.heap.size #[.int .i64 r.worker, .int .i64 r.epoch, .int .i64 r.step, .slice sa r.sent.length sc, .slice ga r.got.length gc, .int .i64 r.waking, .int .i64 r.opn] := QH.out.below hb1' (by omega)
  have HS1 : Hid (w1.cell? ⟨w.heap.size, 4, none⟩ = some (.slice ga r.got.length gc)) := q1.all7.2.2.2.2.1
  refine ⟨HS1.out, ?_⟩
  simp only [Act.put, List.setIfInBounds_toArray, List.set_cons_zero, List.set_cons_succ]
  refine takeH (i := 6) (v := .pointer (some ⟨w.heap.size, 3, none⟩)) (d := 9) rfl rfl (by kernel_rfl) (by kernel_rfl) (by kernel_rfl) (fun _ _ _ h => h) (by rfl) (fun V hV => by have v1 := hV; go_simp) HS1.out ?_
  simp only [Act.put, List.setIfInBounds_toArray, List.set_cons_zero, List.set_cons_succ]
  obtain ⟨ya, yc, rfl⟩ := (RowK.own encI_len h1 : InR w1 v1 r.sent).shape
  refine oneH (i := 5) rfl (by kernel_rfl) rfl (call_gets (d := 8) (f := 36) (xs := #[.tmp 7]) (ats := #[30]) rfl rfl en (vs := #[.slice ga r.got.length gc]) (by simp [Act.eval]) (C2.out _ (BH.out.trans (hb1'.mono (by omega)))) ?_)
  rintro v2 w2 ⟨h2, hb2⟩
  have hb2' : Below W0.heap.size W0 w2 := hb1'.trans (hb2.mono hs1)
  have q2 : BX 32 w2 w.heap.size #[.int .i64 r.worker, .int .i64 r.epoch, .int .i64 r.step, .slice sa r.sent.length sc, .slice ga r.got.length gc, .int .i64 r.waking, .int .i64 r.opn] := QH.out.below hb2' (by omega)
  obtain ⟨za, zc, rfl⟩ := (RowK.own encI_len h2 : InR w2 v2 r.got).shape
  refine ⟨q2.all7.2.2.2.2.1, ?_⟩
  simp only [Act.put, List.setIfInBounds_toArray, List.set_cons_zero, List.set_cons_succ]
  have E2 : Hid (BX 32 (w2.setCell ⟨w.heap.size, 3, none⟩ (.slice ya r.sent.length yc)) w.heap.size #[.int .i64 r.worker, .int .i64 r.epoch, .int .i64 r.step, .slice ya r.sent.length yc, .slice ga r.got.length gc, .int .i64 r.waking, .int .i64 r.opn] ∧ BX 32 (w2.setCell ⟨w.heap.size, 3, none⟩ (.slice ya r.sent.length yc)) (w.heap.size + 1) #[.int .i64 0, .int .i64 0, .int .i64 0, .slice none 0 0, .slice none 0 0, .int .i64 0, .int .i64 0] ∧ (w2.setCell ⟨w.heap.size, 3, none⟩ (.slice ya r.sent.length yc)).ownsRow w.heap.size 3 1 (.slice ya r.sent.length yc) r.sent.length (r.sent.flatMap encI) ∧ (w2.setCell ⟨w.heap.size, 3, none⟩ (.slice ya r.sent.length yc)).ownsRow w.heap.size 3 1 (.slice za r.got.length zc) r.got.length (r.got.flatMap encI) ∧ Below w.heap.size w (w2.setCell ⟨w.heap.size, 3, none⟩ (.slice ya r.sent.length yc))) := by
    have hd : w.heap.size ≤ W0.drew.heap.size := by show w.heap.size ≤ W0.heap.size; omega
    exact ⟨q2.set 3 _, (MH.out.below hb2' (by omega)).other (by omega), q2.own (own_lower (own_below h1 hb2 (Nat.le_refl _)) hd) (by decide), q2.own (own_lower h2 (by omega)) (by decide), (BH.out.trans (hb2'.mono (by omega))).setCell (Nat.le_refl _) _⟩
  have l3 := q2.all7.2.2.2.1
  have f3 := q2.frozen 3
  refine oneH (i := 7) rfl (by kernel_rfl) rfl (op_skip (w' := (w2.setCell ⟨w.heap.size, 3, none⟩ (.slice ya r.sent.length yc))) rfl (by go_simp) ⟨E2.out.1.all7.2.2.2.2.1, ?_⟩)
  refine takeH (i := 8) (v := .pointer (some ⟨w.heap.size, 4, none⟩)) (d := 10) rfl rfl (by kernel_rfl) (by kernel_rfl) (by kernel_rfl) (fun _ _ _ h => h) (by rfl) (fun V hV => by have v1 := hV; go_simp) E2.out.1.all7.2.2.2.2.1 ?_
  simp only [Act.put, List.setIfInBounds_toArray, List.set_cons_zero, List.set_cons_succ]
  refine wpAnyH_done (by kernel_rfl) ?_ _
  clear l3 f3 h1 h2 hb1 hb2 hb1' hb2' q1 q2 qd HS1 HSD b0 QH MH C1 C2 en
  generalize w2.setCell ⟨w.heap.size, 3, none⟩ (.slice ya r.sent.length yc) = w3 at *
  obtain ⟨q3, m3, o3, o4, b3⟩ := E2.out
  have E4 : Hid (BX 32 (w3.setCell ⟨w.heap.size, 4, none⟩ (.slice za r.got.length zc)) w.heap.size #[.int .i64 r.worker, .int .i64 r.epoch, .int .i64 r.step, .slice ya r.sent.length yc, .slice za r.got.length zc, .int .i64 r.waking, .int .i64 r.opn] ∧ BX 32 (w3.setCell ⟨w.heap.size, 4, none⟩ (.slice za r.got.length zc)) (w.heap.size + 1) #[.int .i64 0, .int .i64 0, .int .i64 0, .slice none 0 0, .slice none 0 0, .int .i64 0, .int .i64 0] ∧ (w3.setCell ⟨w.heap.size, 4, none⟩ (.slice za r.got.length zc)).ownsRow w.heap.size 3 1 (.slice ya r.sent.length yc) r.sent.length (r.sent.flatMap encI) ∧ (w3.setCell ⟨w.heap.size, 4, none⟩ (.slice za r.got.length zc)).ownsRow w.heap.size 3 1 (.slice za r.got.length zc) r.got.length (r.got.flatMap encI) ∧ Below w.heap.size w (w3.setCell ⟨w.heap.size, 4, none⟩ (.slice za r.got.length zc))) := ⟨q3.set 4 _, m3.other (by omega), q3.own o3 (by decide), q3.own o4 (by decide), b3.setCell (Nat.le_refl _) _⟩
  obtain ⟨c0, c1, c2, c3, c4, c5, c6⟩ := q3.all7
  obtain ⟨f0, f1, f2, f3, f4, f5, f6⟩ := q3.all7f
  clear q3 m3 o3 o4 b3 E2
  show Oper.wp _ _ _ _ _ _
  go_upto_region 2 with fail
  clear c0 c1 c2 c3 c4 c5 c6 f0 f1 f2 f3 f4 f5 f6
  generalize w3.setCell ⟨w.heap.size, 4, none⟩ (.slice za r.got.length zc) = w4 at *
  obtain ⟨q4, m4, o4, o5, b4⟩ := E4.out
  obtain ⟨c0, c1, c2, c3, c4, c5, c6⟩ := q4.all7
  obtain ⟨d0, d1, d2, d3, d4, d5, d6⟩ := m4.all7
  obtain ⟨f0, f1, f2, f3, f4, f5, f6⟩ := m4.all7f
  have HX : Hid (P (.returned (.agg #[.int .i64 r.worker, .int .i64 r.epoch, .int .i64 r.step, .slice ya r.sent.length yc, .slice za r.got.length zc, .int .i64 r.waking, .int .i64 r.opn])) (put7 w4 (w.heap.size + 1) (.int .i64 r.worker) (.int .i64 r.epoch) (.int .i64 r.step) (.slice ya r.sent.length yc) (.slice za r.got.length zc) (.int .i64 r.waking) (.int .i64 r.opn))) := HE.out _ _ _ (own_box7 m4 o4 (by decide)) (own_box7 m4 o5 (by decide)) (below_put7 b4 (Nat.le_succ _) _ _ _ _ _ _ _)
  have RX : Hid (BX 32 (put7 w4 (w.heap.size + 1) (.int .i64 r.worker) (.int .i64 r.epoch) (.int .i64 r.step) (.slice ya r.sent.length yc) (.slice za r.got.length zc) (.int .i64 r.waking) (.int .i64 r.opn)) (w.heap.size + 1) #[.int .i64 r.worker, .int .i64 r.epoch, .int .i64 r.step, .slice ya r.sent.length yc, .slice za r.got.length zc, .int .i64 r.waking, .int .i64 r.opn]) := BX.put7 m4
  clear q4 m4 o4 o5 b4 E4
  go_wp2_with fail
  obtain ⟨r0, r1, r2, r3, r4, r5, r6⟩ := RX.out.all7
  unfold put7 at r0 r1 r2 r3 r4 r5 r6
  exact bodyPost_ret (v := .agg #[.int .i64 r.worker, .int .i64 r.epoch, .int .i64 r.step, .slice ya r.sent.length yc, .slice za r.got.length zc, .int .i64 r.waking, .int .i64 r.opn]) (by simp [results, Try.results26, go_sem, r0, r1, r2, r3, r4, r5, r6]) rfl HX.out
end Go.Proofs.Ytpikfiegmnmbmaa
