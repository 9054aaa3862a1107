/-
  Contracts of the document's numbers and ReportCopy: new memory.
-/
import Derived.Test.YtpikfiegmnmbmaaBoardMem
import Derived.Test.YtpikfiegmnmbmaaBoardArgs
import Derived.Test.YtpikfiegmnmbmaaBoardStands
namespace Go.Proofs.Ytpikfiegmnmbmaa
set_option maxRecDepth 100000
open Go.ChangeShapes Go.WideShapes Go.ChangeAt Go.RowKit

set_option maxHeartbeats 1000000 in
set_option maxRecDepth 100000 in
theorem numbers_any (v : Value) (l : List Int) (w : World) (h : InR w v l) (hl : l.length * 8 ≤ 140737488351232) :
    Calls Try.prog 32 #[v] w fun e w' => ∃ v', e = .returned v' ∧ w'.ownsRow w.heap.size 3 1 v' l.length (l.flatMap encI) ∧ Below w.heap.size w w' := by
  have HR : Hid (InR w v l) := h
  obtain ⟨a, cap, rfl, hc, hm, _, _⟩ := h
  unfold maxLen at hm
  go_enter Try.func32, Try.ntmps32
  go_wp2_with fail
  go_loopw [3, 4] (fun z i wr => ∃ (k : Nat) (u : Value), u = z ∧ k ≤ l.length ∧ i = .int .i64 k ∧ wr.ownsRow w.heap.size 3 1 u (l.take k).length ((l.take k).flatMap encI) ∧ Below w.heap.size w wr) (fun _ i _ => l.length - (intOf i).toNat)
  case atStart => exact ⟨0, _, rfl, by omega, rfl, World.ownsRow_nil _ _ _ _, Below.refl _ _⟩
  case round =>
    obtain ⟨k, u, rfl, hk, rfl, hown, hbel⟩ := hrel
    have HB : Hid (Below w.heap.size w wr) := hbel
    have OW : Hid (wr.ownsRow w.heap.size 3 1 u (l.take k).length ((l.take k).flatMap encI)) := hown
    have hsr := hbel.size
    obtain ⟨ua, uc, rfl⟩ : ∃ a c, u = .slice a (l.take k).length c := (RowK.own encI_len hown : InR wr u (l.take k)).shape
    clear hown hbel
    by_cases hlt : k < l.length
    · obtain ⟨b, off, cap', e1, _, _, lt, hv⟩ := InR.at (HR.out.below HB.out (Nat.le_refl _)) (by omega)
      injection e1 with e1 e2 e3
      subst e1 e3
      clear e2
      obtain ⟨x, hx⟩ := getX hlt
      have c1 := hv k x hx
      have HT : Hid (l.take (k + 1) = l.take k ++ [x]) := take_snoc hx
      have hk2 : (l.take k).length ≤ k := by rw [List.length_take]; omega
      clear hv hx
      generalize l.take k = f at *
      go_wp2_with (at_builtin; refine wpList_append_newK kI rfl _ _ rfl w.heap.size _ f rfl (OW.out.alloc _) _ x rfl #[.int .i64 x] rfl (0, 0) (heap_alloc_new _ _) (by simp [kI]; omega) (by unfold maxLen; omega) (by simp; omega) ?_)
      intro g c w3 hown3 hb3 _
      have O3 : Hid (w3.ownsRow w.heap.size 3 1 (.slice (some ⟨g, 0, none⟩) (f.length + 1) c) (l.take (k + 1)).length ((l.take (k + 1)).flatMap encI)) := by
        show World.ownsRow _ _ _ _ _ _ _
        rw [HT.out, flat_snoc, List.length_append]; exact hown3
      have B3 : Hid (Below w.heap.size w w3) := (HB.out.alloc hsr _).trans hb3
      clear hown3 hb3 c1
      go_wp2_with fail
      go_roundw
      case rel => exact ⟨k + 1, _, rfl, by omega, by go_num, O3.out, B3.out⟩
      case measure => simp [intOf]; omega
    · have ek : l.take k = l := List.take_of_length_le (by omega)
      rw [ek] at OW
      go_wp2_with fail
      go_ret
      refine ⟨_, rfl, ?_, HB.out⟩
      rw [ek]
      exact OW.out

/-- What ReportCopy answers. -/
def RcpP (w : World) (r : RpL) (e : Ending) (w' : World) : Prop := ∃ vs vg, e = .returned (.agg #[.int .i64 r.worker, .int .i64 r.epoch, .int .i64 r.step, vs, vg, .int .i64 r.waking, .int .i64 r.opn]) ∧ w'.ownsRow w.heap.size 3 1 vs r.sent.length (r.sent.flatMap encI) ∧ w'.ownsRow w.heap.size 3 1 vg r.got.length (r.got.flatMap encI) ∧ Below w.heap.size w w'
theorem BX.all7f {t : TypeId} {w : World} {q : Nat} {cs : Array Value} (h : BX t w q cs) : w.frozen? ⟨q, 0, none⟩ = false ∧ w.frozen? ⟨q, 1, none⟩ = false ∧ w.frozen? ⟨q, 2, none⟩ = false ∧ w.frozen? ⟨q, 3, none⟩ = false ∧ w.frozen? ⟨q, 4, none⟩ = false ∧ w.frozen? ⟨q, 5, none⟩ = false ∧ w.frozen? ⟨q, 6, none⟩ = false := ⟨h.frozen 0, h.frozen 1, h.frozen 2, h.frozen 3, h.frozen 4, h.frozen 5, h.frozen 6⟩
def put7 (w : World) (q : Nat) (a b c d e f g : Value) : World := ((((((w.setCell ⟨q, 0, none⟩ a).setCell ⟨q, 1, none⟩ b).setCell ⟨q, 2, none⟩ c).setCell ⟨q, 3, none⟩ d).setCell ⟨q, 4, none⟩ e).setCell ⟨q, 5, none⟩ f).setCell ⟨q, 6, none⟩ g
theorem BX.put7 {t : TypeId} {w : World} {q : Nat} {a b c d e f g x1 x2 x3 x4 x5 x6 x7 : Value} (h : BX t w q #[a, b, c, d, e, f, g]) : BX t (Go.Proofs.Ytpikfiegmnmbmaa.put7 w q x1 x2 x3 x4 x5 x6 x7) q #[x1, x2, x3, x4, x5, x6, x7] := by
  have h1 : BX t _ q #[x1, b, c, d, e, f, g] := h.set 0 x1
  have h2 : BX t _ q #[x1, x2, c, d, e, f, g] := h1.set 1 x2
  have h3 : BX t _ q #[x1, x2, x3, d, e, f, g] := h2.set 2 x3
  have h4 : BX t _ q #[x1, x2, x3, x4, e, f, g] := h3.set 3 x4
  have h5 : BX t _ q #[x1, x2, x3, x4, x5, f, g] := h4.set 4 x5
  have h6 : BX t _ q #[x1, x2, x3, x4, x5, x6, g] := h5.set 5 x6
  have h7 : BX t _ q #[x1, x2, x3, x4, x5, x6, x7] := h6.set 6 x7
  exact h7
theorem kept_put7 (w : World) (q : Nat) (a b c d e f g : Value) : Kept (fun k => k = q) w (Go.Proofs.Ytpikfiegmnmbmaa.put7 w q a b c d e f g) := ((((((Kept.box _ _ _ _).trans (Kept.box _ _ _ _)).trans (Kept.box _ _ _ _)).trans (Kept.box _ _ _ _)).trans (Kept.box _ _ _ _)).trans (Kept.box _ _ _ _)).trans (Kept.box _ _ _ _)
theorem below_put7 {B : Nat} {w0 w : World} {q : Nat} (h : Below B w0 w) (hq : B ≤ q) (a b c d e f g : Value) : Below B w0 (put7 w q a b c d e f g) := ((((((h.setCell (p := ⟨q, 0, none⟩) hq a).setCell (p := ⟨q, 1, none⟩) hq b).setCell (p := ⟨q, 2, none⟩) hq c).setCell (p := ⟨q, 3, none⟩) hq d).setCell (p := ⟨q, 4, none⟩) hq e).setCell (p := ⟨q, 5, none⟩) hq f).setCell (p := ⟨q, 6, none⟩) hq g
theorem own_box7 {t : TypeId} {w : World} {q base n size : Nat} {e : TypeId} {cs : Array Value} {v x1 x2 x3 x4 x5 x6 x7 : Value} {xs : List Value} (h : BX t w q cs) (ho : w.ownsRow base e size v n xs) (hne : e ≠ t) : (Go.Proofs.Ytpikfiegmnmbmaa.put7 w q x1 x2 x3 x4 x5 x6 x7).ownsRow base e size v n xs :=
  (kept_put7 w q x1 x2 x3 x4 x5 x6 x7).own ho fun _ hg => own_block ho hg h hne

set_option maxHeartbeats 4000000 in
set_option maxRecDepth 100000 in
theorem reportCopy_any (r : RpL) (vs vg : Value) (w : World) (hs : InR w vs r.sent) (hg : InR w vg r.got) (hB : RpB r) :
    Calls Try.prog 22 #[.agg #[.int .i64 r.worker, .int .i64 r.epoch, .int .i64 r.step, vs, vg, .int .i64 r.waking, .int .i64 r.opn]] w (RcpP w r) := by
  have HS : Hid (InR w vs r.sent) := hs
  have HG : Hid (InR w vg r.got) := hg
  have HBB : Hid (RpB r) := hB
  obtain ⟨sa, sc, rfl⟩ := hs.shape
  obtain ⟨ga, gc, rfl⟩ := hg.shape
  clear hs hg hB
  obtain ⟨W0, hW0⟩ : ∃ W0, W0 = (w.alloc (.cells #[.int .i64 r.worker, .int .i64 r.epoch, .int .i64 r.step, .slice sa r.sent.length sc, .slice ga r.got.length gc, .int .i64 r.waking, .int .i64 r.opn] 32)).alloc (.cells #[.int .i64 0, .int .i64 0, .int .i64 0, .slice none 0 0, .slice none 0 0, .int .i64 0, .int .i64 0] 32) := ⟨_, rfl⟩
  obtain ⟨Q0, M0, B0, s1, s2⟩ := boxes2 w #[.int .i64 r.worker, .int .i64 r.epoch, .int .i64 r.step, .slice sa r.sent.length sc, .slice ga r.got.length gc, .int .i64 r.waking, .int .i64 r.opn] #[.int .i64 0, .int .i64 0, .int .i64 0, .slice none 0 0, .slice none 0 0, .int .i64 0, .int .i64 0] 32 32 W0 hW0
  have QH : Hid (BX 32 W0 w.heap.size #[.int .i64 r.worker, .int .i64 r.epoch, .int .i64 r.step, .slice sa r.sent.length sc, .slice ga r.got.length gc, .int .i64 r.waking, .int .i64 r.opn]) := Q0
  have MH : Hid (BX 32 W0 (w.heap.size + 1) #[.int .i64 0, .int .i64 0, .int .i64 0, .slice none 0 0, .slice none 0 0, .int .i64 0, .int .i64 0]) := M0
  have BH : Hid (Below w.heap.size w W0) := B0
  obtain ⟨c0, c1, c2, c3, c4, c5, c6⟩ := Q0.all7
  clear Q0 M0 B0
  have HE : Hid (∀ vs vg w', w'.ownsRow w.heap.size 3 1 vs r.sent.length (r.sent.flatMap encI) → w'.ownsRow w.heap.size 3 1 vg r.got.length (r.got.flatMap encI) → Below w.heap.size w w' → RcpP w r (.returned (.agg #[.int .i64 r.worker, .int .i64 r.epoch, .int .i64 r.step, vs, vg, .int .i64 r.waking, .int .i64 r.opn])) w') := fun vs vg w' h1 h2 h3 => ⟨vs, vg, rfl, h1, h2, h3⟩
  generalize RcpP w r = P at *
  go_enter Try.func22, Try.ntmps22
  go_upto_region 1 with fail
  rw [← hW0]
  clear hW0
  go_wp2_with fail
  refine (numbers_any _ r.sent _ (HS.out.below BH.out (Nat.le_refl _)) HBB.out.1).mono ?_
  rintro e w1 ⟨v1, rfl, hv1, hb1⟩
  have hs1 := hb1.size
  have Q1 : BX 32 w1 w.heap.size #[.int .i64 r.worker, .int .i64 r.epoch, .int .i64 r.step, .slice sa r.sent.length sc, .slice ga r.got.length gc, .int .i64 r.waking, .int .i64 r.opn] := QH.out.below hb1 (by omega)
  have A1 : Below w.heap.size w w1 := BH.out.trans (hb1.mono (by omega))
  have E1 : Hid (BX 32 (w1.setCell ⟨w.heap.size, 3, none⟩ v1) w.heap.size #[.int .i64 r.worker, .int .i64 r.epoch, .int .i64 r.step, v1, .slice ga r.got.length gc, .int .i64 r.waking, .int .i64 r.opn] ∧ BX 32 (w1.setCell ⟨w.heap.size, 3, none⟩ v1) (w.heap.size + 1) #[.int .i64 0, .int .i64 0, .int .i64 0, .slice none 0 0, .slice none 0 0, .int .i64 0, .int .i64 0] ∧ (w1.setCell ⟨w.heap.size, 3, none⟩ v1).ownsRow W0.heap.size 3 1 v1 r.sent.length (r.sent.flatMap encI) ∧ Below w.heap.size w (w1.setCell ⟨w.heap.size, 3, none⟩ v1) ∧ W0.heap.size ≤ (w1.setCell ⟨w.heap.size, 3, none⟩ v1).heap.size) := ⟨Q1.set 3 _, (MH.out.below hb1 (by omega)).other (by omega), Q1.own hv1 (by decide), A1.setCell (Nat.le_refl _) _, by rw [size_setCell]; exact hs1⟩
  clear c0 c1 c2 c3 c4 c5 c6
  obtain ⟨c0, c1, c2, c3, c4, c5, c6⟩ := Q1.all7
  obtain ⟨f0, f1, f2, f3, f4, f5, f6⟩ := Q1.all7f
  obtain ⟨ya, yc, rfl⟩ := (RowK.own encI_len hv1 : InR w1 v1 r.sent).shape
  clear hv1 hb1 Q1 A1 QH MH hs1
  go_upto_region 2 with fail
  clear c0 c1 c2 c3 c4 c5 c6 f0 f1 f2 f3 f4 f5 f6
  generalize w1.setCell ⟨w.heap.size, 3, none⟩ (.slice ya r.sent.length yc) = w2 at *
  obtain ⟨q2, m2, o2, b2, hs2⟩ := E1.out
  have Q2 : Hid (BX 32 w2 w.heap.size #[.int .i64 r.worker, .int .i64 r.epoch, .int .i64 r.step, .slice ya r.sent.length yc, .slice ga r.got.length gc, .int .i64 r.waking, .int .i64 r.opn]) := q2
  have M2 : Hid (BX 32 w2 (w.heap.size + 1) #[.int .i64 0, .int .i64 0, .int .i64 0, .slice none 0 0, .slice none 0 0, .int .i64 0, .int .i64 0]) := m2
  have O2 : Hid (w2.ownsRow W0.heap.size 3 1 (.slice ya r.sent.length yc) r.sent.length (r.sent.flatMap encI)) := o2
  have B2 : Hid (Below w.heap.size w w2) := b2
  obtain ⟨c0, c1, c2, c3, c4, c5, c6⟩ := q2.all7
  clear q2 m2 o2 b2 E1
  go_wp2_with fail
  refine (numbers_any _ r.got _ (HG.out.below B2.out (Nat.le_refl _)) HBB.out.2).mono ?_
  rintro e w3 ⟨v3, rfl, hv3, hb3⟩
  have hs3 := hb3.size
  have Q3 : BX 32 w3 w.heap.size #[.int .i64 r.worker, .int .i64 r.epoch, .int .i64 r.step, .slice ya r.sent.length yc, .slice ga r.got.length gc, .int .i64 r.waking, .int .i64 r.opn] := Q2.out.below hb3 (by omega)
  have A3 : Below w.heap.size w w3 := B2.out.trans (hb3.mono B2.out.size)
  have E3 : Hid (BX 32 (w3.setCell ⟨w.heap.size, 4, none⟩ v3) w.heap.size #[.int .i64 r.worker, .int .i64 r.epoch, .int .i64 r.step, .slice ya r.sent.length yc, v3, .int .i64 r.waking, .int .i64 r.opn] ∧ BX 32 (w3.setCell ⟨w.heap.size, 4, none⟩ v3) (w.heap.size + 1) #[.int .i64 0, .int .i64 0, .int .i64 0, .slice none 0 0, .slice none 0 0, .int .i64 0, .int .i64 0] ∧ (w3.setCell ⟨w.heap.size, 4, none⟩ v3).ownsRow w.heap.size 3 1 (.slice ya r.sent.length yc) r.sent.length (r.sent.flatMap encI) ∧ (w3.setCell ⟨w.heap.size, 4, none⟩ v3).ownsRow w.heap.size 3 1 v3 r.got.length (r.got.flatMap encI) ∧ Below w.heap.size w (w3.setCell ⟨w.heap.size, 4, none⟩ v3)) := ⟨Q3.set 4 _, (M2.out.below hb3 (by omega)).other (by omega), own_lower (Q3.own (own_below O2.out hb3 (Nat.le_refl _)) (by decide)) (by omega), own_lower (Q3.own hv3 (by decide)) (by omega), A3.setCell (Nat.le_refl _) _⟩
  clear c0 c1 c2 c3 c4 c5 c6
  obtain ⟨c0, c1, c2, c3, c4, c5, c6⟩ := Q3.all7
  obtain ⟨f0, f1, f2, f3, f4, f5, f6⟩ := Q3.all7f
  obtain ⟨za, zc, rfl⟩ := (RowK.own encI_len hv3 : InR w3 v3 r.got).shape
  clear hv3 hb3 Q3 A3 Q2 M2 O2
  go_upto_region 3 with fail
  clear c0 c1 c2 c3 c4 c5 c6 f0 f1 f2 f3 f4 f5 f6
  generalize w3.setCell ⟨w.heap.size, 4, none⟩ (.slice za r.got.length zc) = w4 at *
  obtain ⟨q4, m4, o4, o5, b4⟩ := E3.out
  obtain ⟨c0, c1, c2, c3, c4, c5, c6⟩ := q4.all7
  obtain ⟨d0, d1, d2, d3, d4, d5, d6⟩ := m4.all7
  obtain ⟨f0, f1, f2, f3, f4, f5, f6⟩ := m4.all7f
  have HX : Hid (P (.returned (.agg #[.int .i64 r.worker, .int .i64 r.epoch, .int .i64 r.step, .slice ya r.sent.length yc, .slice za r.got.length zc, .int .i64 r.waking, .int .i64 r.opn])) (put7 w4 (w.heap.size + 1) (.int .i64 r.worker) (.int .i64 r.epoch) (.int .i64 r.step) (.slice ya r.sent.length yc) (.slice za r.got.length zc) (.int .i64 r.waking) (.int .i64 r.opn))) := HE.out _ _ _ (own_box7 m4 o4 (by decide)) (own_box7 m4 o5 (by decide)) (below_put7 b4 (Nat.le_succ _) _ _ _ _ _ _ _)
  have RX : Hid (BX 32 (put7 w4 (w.heap.size + 1) (.int .i64 r.worker) (.int .i64 r.epoch) (.int .i64 r.step) (.slice ya r.sent.length yc) (.slice za r.got.length zc) (.int .i64 r.waking) (.int .i64 r.opn)) (w.heap.size + 1) #[.int .i64 r.worker, .int .i64 r.epoch, .int .i64 r.step, .slice ya r.sent.length yc, .slice za r.got.length zc, .int .i64 r.waking, .int .i64 r.opn]) := BX.put7 m4
  clear q4 m4 o4 o5 b4 E3
  go_wp2_with fail
  obtain ⟨r0, r1, r2, r3, r4, r5, r6⟩ := RX.out.all7
  unfold put7 at r0 r1 r2 r3 r4 r5 r6
  exact bodyPost_ret (v := .agg #[.int .i64 r.worker, .int .i64 r.epoch, .int .i64 r.step, .slice ya r.sent.length yc, .slice za r.got.length zc, .int .i64 r.waking, .int .i64 r.opn]) (by simp [results, Try.results22, go_sem, r0, r1, r2, r3, r4, r5, r6]) rfl HX.out
end Go.Proofs.Ytpikfiegmnmbmaa
