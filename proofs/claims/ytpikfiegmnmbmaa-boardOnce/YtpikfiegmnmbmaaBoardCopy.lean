/-
  One report more on a list of the call's own; the law's copy of a board.
-/
import Derived.Test.YtpikfiegmnmbmaaRefRepCopy
import Derived.Test.YtpikfiegmnmbmaaBoxFour
namespace Go.Proofs.Ytpikfiegmnmbmaa
set_option maxRecDepth 100000
open Go.ChangeShapes Go.WideShapes Go.ChangeAt Go.RowKit

theorem wpList_append_rep {w : World} {ops : Array Oper} {rest : List Oper} {o : Oper} {a : Act} {Q : Exit → Act → World → Prop} (hgd : o.guard = none) (s y : Operand)
    (ho : o.op = .call { callee := .builtin .append, args := #[s, y], argTypes := #[22, 22] })
    (base : Nat) (v : Value) (rs : List RpL) (hs : a.eval s = v) (hown : OwnR w base v rs) (B : Nat) (r : RpL) (vs vg : Value) (hy : a.eval y = .slice (some ⟨B, 0, none⟩) 1 1) (fr : Nat × Nat) (hblk : w.heap[B]? = some (.cells (rpC r vs vg).toArray 32 fr))
    (hvs : w.ownsRow base 3 1 vs r.sent.length (r.sent.flatMap encI)) (hvg : w.ownsRow base 3 1 vg r.got.length (r.got.flatMap encI)) (hlen : (rs.length + 1) * 88 ≤ 140737488355328) (hbase : base ≤ w.heap.size)
    (h : ∀ g c w', OwnR w' base (.slice (some ⟨g, 0, none⟩) (rs.length + 1) c) (rs ++ [r]) → Below base w w' → w.grownBy w' v.ownBlock → wpList Try.prog ops Q rest (a.put o.dst (.slice (some ⟨g, 0, none⟩) (rs.length + 1) c)) w') :
    wpList Try.prog ops Q (o :: rest) a w := by
  obtain ⟨g, c, w', hrun, h1, h2⟩ := run_append_rep o.type base v rs hown B r vs vg fr hblk hvs hvg hlen hbase
  obtain ⟨xs, hrow⟩ := hown.row
  refine wpList_plain hgd fun K' hK => ?_
  unfold Oper.wp
  simp [execOp, ho, resolve, invoke, builtin, hs, hy, hrun, Result.andThen]
  exact hK _ _ (h g c w' h1 ((Below.refl base w).grown h2 hbase (fun j hj => (hrow.lt j hj).1)) h2)
/-- A board of the call's own is answered. -/
def BdcP (w : World) (b : BdL) (e : Ending) (w' : World) : Prop := ∃ vr, e = .returned (.agg #[.int .i64 b.workers, .int .i64 b.epoch, .int .i64 b.step, vr]) ∧ OwnR w' w.heap.size vr b.reps ∧ Below w.heap.size w w'
theorem OwnR.put4 {w : World} {base q : Nat} {v a b c d : Value} {rs : List RpL} {cs : Array Value} {t : TypeId} (h : OwnR w base v rs) (hq : BX t w q cs) (h1 : 32 ≠ t) (h2 : 3 ≠ t) : OwnR (Go.Proofs.Ytpikfiegmnmbmaa.put4 w q a b c d) base v rs := by
  obtain ⟨gs, k1, k2, k3⟩ := h
  exact ⟨gs, k1, (kept_put4 w q a b c d).own k2 fun g hg => own_block k2 hg hq h1, fun g hg => ⟨(kept_put4 w q a b c d).own (k3 g hg).1 fun k hk => own_block (k3 g hg).1 hk hq h2, (kept_put4 w q a b c d).own (k3 g hg).2 fun k hk => own_block (k3 g hg).2 hk hq h2⟩⟩

set_option maxHeartbeats 4000000 in
set_option maxRecDepth 100000 in
theorem boards_any (b : BdL) (vr : Value) (w : World) (h : RpsR w vr b.reps) (hB : BdB b) :
    Calls Try.prog 12 #[.agg #[.int .i64 b.workers, .int .i64 b.epoch, .int .i64 b.step, vr]] w (BdcP w b) := by
  have HR : Hid (RpsR w vr b.reps) := h
  have HBB : Hid (∀ r ∈ b.reps, RpB r) := hB.2
  have hL := hB.1
  obtain ⟨ra, rc, rfl⟩ := h.shape
  clear h hB
  obtain ⟨W0, hW0⟩ : ∃ W0, W0 = (w.alloc (.cells #[.int .i64 b.workers, .int .i64 b.epoch, .int .i64 b.step, .slice ra b.reps.length rc] 24)).alloc (.cells #[.int .i64 0, .int .i64 0, .int .i64 0, .slice none 0 0] 24) := ⟨_, rfl⟩
  obtain ⟨Q0, M0, B0, s1, s2⟩ := boxes2 w #[.int .i64 b.workers, .int .i64 b.epoch, .int .i64 b.step, .slice ra b.reps.length rc] #[.int .i64 0, .int .i64 0, .int .i64 0, .slice none 0 0] 24 24 W0 hW0
  have HK : Hid (∀ X, Below W0.heap.size W0 X → BX 24 X w.heap.size #[.int .i64 b.workers, .int .i64 b.epoch, .int .i64 b.step, .slice ra b.reps.length rc] ∧ BX 24 X (w.heap.size + 1) #[.int .i64 0, .int .i64 0, .int .i64 0, .slice none 0 0] ∧ Below w.heap.size w X ∧ RpsR X (.slice ra b.reps.length rc) b.reps) := fun X hX => by
    have hb := B0.trans (hX.mono (show w.heap.size ≤ W0.heap.size by omega))
    exact ⟨Q0.below hX (by omega), M0.below hX (by omega), hb, HR.out.below hb (Nat.le_refl _)⟩
  have A0 : Hid (Below W0.heap.size W0 W0) := Below.refl _ _
  clear B0 HR M0
  obtain ⟨b0, b1, b2, b3⟩ := Q0.all4
  clear Q0
  have HE : Hid (∀ v w', OwnR w' w.heap.size v b.reps → Below w.heap.size w w' → BdcP w b (.returned (.agg #[.int .i64 b.workers, .int .i64 b.epoch, .int .i64 b.step, v])) w') := fun v w' h1 h2 => ⟨v, rfl, h1, h2⟩
  generalize BdcP w b = P at *
  go_enter Try.func12, Try.ntmps12
  go_upto_region 1 with fail
  rw [← hW0]
  clear hW0
  have N1 : Hid (BX 24 (W0.alloc (.cells #[.int .i64 b.workers, .int .i64 b.epoch, .int .i64 b.step, .slice none 0 0] 24)) W0.heap.size #[.int .i64 b.workers, .int .i64 b.epoch, .int .i64 b.step, .slice none 0 0] ∧ Below W0.heap.size W0 (W0.alloc (.cells #[.int .i64 b.workers, .int .i64 b.epoch, .int .i64 b.step, .slice none 0 0] 24))) := ⟨BX.new _ _ _, below_alloc _ _⟩
  go_upto_region 2 with fail
  generalize W0.alloc (.cells #[.int .i64 b.workers, .int .i64 b.epoch, .int .i64 b.step, .slice none 0 0] 24) = W1 at *
  clear b0 b1 b2 b3
  obtain ⟨b0, b1, b2, b3⟩ := (HK.out _ N1.out.2).1.all4
  go_wp2_with fail
  go_loopw [4] (fun i wr => ∃ (k : Nat) (u : Value), k ≤ b.reps.length ∧ i = .int .i64 k ∧ BX 24 wr W0.heap.size #[.int .i64 b.workers, .int .i64 b.epoch, .int .i64 b.step, u] ∧ OwnR wr W0.heap.size u (b.reps.take k) ∧ Below W0.heap.size W0 wr) (fun i _ => b.reps.length - (intOf i).toNat)
  case atStart => exact ⟨0, _, by omega, rfl, N1.out.1, OwnR.nil _ _, N1.out.2⟩
  case round =>
    obtain ⟨k, u, hk, rfl, hqx, hob, hbel⟩ := hrel
    have QR : Hid (BX 24 wr W0.heap.size #[.int .i64 b.workers, .int .i64 b.epoch, .int .i64 b.step, u]) := hqx
    have OB : Hid (OwnR wr W0.heap.size u (b.reps.take k)) := hob
    have HB : Hid (Below W0.heap.size W0 wr) := hbel
    have hsr := hbel.size
    obtain ⟨ua, uc, hue⟩ := hob.shape
    clear hqx hob hbel b0 b1 b2 b3
    obtain ⟨b0, b1, b2, b3⟩ := (HK.out _ HB.out).1.all4
    by_cases hlt : k < b.reps.length
    · obtain ⟨rb, off, cap', e1, hcl, hm, lt, hv⟩ := RpsR.at (HK.out _ HB.out).2.2.2 (by omega)
      unfold maxLen at hm
      injection e1 with e1 e2 e3
      subst e1 e3
      clear e2
      obtain ⟨x, hx⟩ := getX hlt
      obtain ⟨sa, sc, ga, gc, ⟨c0, c1, c2, c3, c4, c5, c6⟩, rs, rg⟩ := hv k x hx
      have CC : Hid (Calls Try.prog 22 #[.agg #[.int .i64 x.worker, .int .i64 x.epoch, .int .i64 x.step, .slice sa x.sent.length sc, .slice ga x.got.length gc, .int .i64 x.waking, .int .i64 x.opn]] wr (RcpP wr x)) := reportCopy_any x _ _ wr rs rg (HBB.out x (List.mem_of_getElem? hx))
      have HT : Hid (b.reps.take (k + 1) = b.reps.take k ++ [x]) := take_snoc hx
      have hk2 : (b.reps.take k).length ≤ k := by rw [List.length_take]; omega
      clear hv hx rs rg hue
      go_wp2_with fail
      refine CC.out.mono ?_
      rintro e w1 ⟨v1, v2, rfl, h1, h2, hb1⟩
      obtain ⟨ya, yc, rfl⟩ := (RowK.own encI_len h1 : InR w1 v1 x.sent).shape
      obtain ⟨za, zc, rfl⟩ := (RowK.own encI_len h2 : InR w1 v2 x.got).shape
      have hs1 := hb1.size
      have E1 : Hid (BX 32 (w1.alloc (.cells #[.int .i64 x.worker, .int .i64 x.epoch, .int .i64 x.step, .slice ya x.sent.length yc, .slice za x.got.length zc, .int .i64 x.waking, .int .i64 x.opn] 32)) w1.heap.size #[.int .i64 x.worker, .int .i64 x.epoch, .int .i64 x.step, .slice ya x.sent.length yc, .slice za x.got.length zc, .int .i64 x.waking, .int .i64 x.opn] ∧ BX 24 (w1.alloc (.cells #[.int .i64 x.worker, .int .i64 x.epoch, .int .i64 x.step, .slice ya x.sent.length yc, .slice za x.got.length zc, .int .i64 x.waking, .int .i64 x.opn] 32)) W0.heap.size #[.int .i64 b.workers, .int .i64 b.epoch, .int .i64 b.step, u] ∧ OwnR (w1.alloc (.cells #[.int .i64 x.worker, .int .i64 x.epoch, .int .i64 x.step, .slice ya x.sent.length yc, .slice za x.got.length zc, .int .i64 x.waking, .int .i64 x.opn] 32)) W0.heap.size u (b.reps.take k) ∧ (w1.alloc (.cells #[.int .i64 x.worker, .int .i64 x.epoch, .int .i64 x.step, .slice ya x.sent.length yc, .slice za x.got.length zc, .int .i64 x.waking, .int .i64 x.opn] 32)).ownsRow W0.heap.size 3 1 (.slice ya x.sent.length yc) x.sent.length (x.sent.flatMap encI) ∧ (w1.alloc (.cells #[.int .i64 x.worker, .int .i64 x.epoch, .int .i64 x.step, .slice ya x.sent.length yc, .slice za x.got.length zc, .int .i64 x.waking, .int .i64 x.opn] 32)).ownsRow W0.heap.size 3 1 (.slice za x.got.length zc) x.got.length (x.got.flatMap encI) ∧ Below W0.heap.size W0 (w1.alloc (.cells #[.int .i64 x.worker, .int .i64 x.epoch, .int .i64 x.step, .slice ya x.sent.length yc, .slice za x.got.length zc, .int .i64 x.waking, .int .i64 x.opn] 32))) := by
        have bA : Below wr.heap.size wr (w1.alloc (.cells #[.int .i64 x.worker, .int .i64 x.epoch, .int .i64 x.step, .slice ya x.sent.length yc, .slice za x.got.length zc, .int .i64 x.waking, .int .i64 x.opn] 32)) := hb1.alloc hs1 _
        exact ⟨BX.new _ _ _, QR.out.below bA QR.out.lt, OB.out.below bA (Nat.le_refl _), own_lower (own_below h1 (below_alloc _ _) (Nat.le_refl _)) hsr, own_lower (own_below h2 (below_alloc _ _) (Nat.le_refl _)) hsr, HB.out.trans (bA.mono hsr)⟩
      clear CC c0 c1 c2 c3 c4 c5 c6 h1 h2 hb1 QR OB HB
      go_upto_region 6 with fail
      generalize w1.alloc (.cells #[.int .i64 x.worker, .int .i64 x.epoch, .int .i64 x.step, .slice ya x.sent.length yc, .slice za x.got.length zc, .int .i64 x.waking, .int .i64 x.opn] 32) = V at *
      generalize w1.heap.size = q1 at *
      obtain ⟨xV, qV, oV, sV, gV, bV⟩ := E1.out
      obtain ⟨c0, c1, c2, c3, c4, c5, c6⟩ := xV.all7
      obtain ⟨z0, z1, z2, z3⟩ := qV.all4
      have QV : Hid (BX 24 V W0.heap.size #[.int .i64 b.workers, .int .i64 b.epoch, .int .i64 b.step, u]) := qV
      have OV : Hid (OwnR V W0.heap.size u (b.reps.take k)) := oV
      have SV : Hid (V.ownsRow W0.heap.size 3 1 (.slice ya x.sent.length yc) x.sent.length (x.sent.flatMap encI)) := sV
      have GV : Hid (V.ownsRow W0.heap.size 3 1 (.slice za x.got.length zc) x.got.length (x.got.flatMap encI)) := gV
      have BV : Hid (Below W0.heap.size W0 V) := bV
      have hsv := bV.size
      clear xV qV oV sV gV bV E1
      generalize b.reps.take k = f at *
      go_wp2_with (at_builtin; refine wpList_append_rep rfl _ _ rfl W0.heap.size u f rfl (OV.out.below (below_alloc _ _) (Nat.le_refl _)) V.heap.size x (.slice ya x.sent.length yc) (.slice za x.got.length zc) rfl (0, 0) (heap_alloc_new _ _) (own_below SV.out (below_alloc _ _) (Nat.le_refl _)) (own_below GV.out (below_alloc _ _) (Nat.le_refl _)) (by omega) (by simp; omega) ?_)
      intro g c w3 ho3 hb3 hg3
      have A3 : Hid (Below W0.heap.size W0 w3) := (BV.out.alloc hsv _).trans hb3
      have Q3 : Hid (BX 24 w3 W0.heap.size #[.int .i64 b.workers, .int .i64 b.epoch, .int .i64 b.step, u]) := by
        obtain ⟨xs, hrow⟩ := (OV.out.below (below_alloc V (.cells #[.int .i64 x.worker, .int .i64 x.epoch, .int .i64 x.step, .slice ya x.sent.length yc, .slice za x.got.length zc, .int .i64 x.waking, .int .i64 x.opn] 32)) (Nat.le_refl _)).row
        exact (QV.out.below (below_alloc V (.cells #[.int .i64 x.worker, .int .i64 x.epoch, .int .i64 x.step, .slice ya x.sent.length yc, .slice za x.got.length zc, .int .i64 x.waking, .int .i64 x.opn] 32)) QV.out.lt).grown hrow (by decide) hg3
      have O3 : Hid (OwnR w3 W0.heap.size (.slice (some ⟨g, 0, none⟩) (f.length + 1) c) (b.reps.take (k + 1))) := by show OwnR _ _ _ _; rw [HT.out]; exact ho3
      clear c0 c1 c2 c3 c4 c5 c6 z0 z1 z2 z3 b0 b1 b2 b3 ho3 hb3 hg3 QV OV SV GV BV
      generalize f.length + 1 = tl at *
      obtain ⟨z0, z1, z2, z3⟩ := Q3.out.all4
      obtain ⟨f0, f1, f2, f3⟩ := Q3.out.all4f
      have RR : Hid (BX 24 (w3.setCell ⟨W0.heap.size, 3, none⟩ (.slice (some ⟨g, 0, none⟩) tl c)) W0.heap.size #[.int .i64 b.workers, .int .i64 b.epoch, .int .i64 b.step, .slice (some ⟨g, 0, none⟩) tl c] ∧ OwnR (w3.setCell ⟨W0.heap.size, 3, none⟩ (.slice (some ⟨g, 0, none⟩) tl c)) W0.heap.size (.slice (some ⟨g, 0, none⟩) tl c) (b.reps.take (k + 1)) ∧ Below W0.heap.size W0 (w3.setCell ⟨W0.heap.size, 3, none⟩ (.slice (some ⟨g, 0, none⟩) tl c))) := ⟨Q3.out.set 3 _, O3.out.box Q3.out (by decide) (by decide), A3.out.setCell (Nat.le_refl _) _⟩
      go_wp2_with fail
      go_roundw
      case rel => exact ⟨k + 1, _, by omega, by go_num, RR.out.1, RR.out.2.1, RR.out.2.2⟩
      case measure => simp [intOf]; omega
    · have ek : b.reps.take k = b.reps := List.take_of_length_le (by omega)
      rw [ek] at OB hue
      subst hue
      obtain ⟨m0, m1, m2, m3⟩ := (HK.out _ HB.out).2.1.all4
      obtain ⟨f0, f1, f2, f3⟩ := (HK.out _ HB.out).2.1.all4f
      obtain ⟨z0, z1, z2, z3⟩ := QR.out.all4
      have HX : Hid (P (.returned (.agg #[.int .i64 b.workers, .int .i64 b.epoch, .int .i64 b.step, .slice ua b.reps.length uc])) (put4 wr (w.heap.size + 1) (.int .i64 b.workers) (.int .i64 b.epoch) (.int .i64 b.step) (.slice ua b.reps.length uc))) := HE.out _ _ ((OB.out.put4 (HK.out _ HB.out).2.1 (by decide) (by decide)).lower (by omega)) (below_put4 (HK.out _ HB.out).2.2.1 (Nat.le_succ _) _ _ _ _)
      have RX : Hid (BX 24 (put4 wr (w.heap.size + 1) (.int .i64 b.workers) (.int .i64 b.epoch) (.int .i64 b.step) (.slice ua b.reps.length uc)) (w.heap.size + 1) #[.int .i64 b.workers, .int .i64 b.epoch, .int .i64 b.step, .slice ua b.reps.length uc]) := BX.put4 (HK.out _ HB.out).2.1
      clear ek
      go_wp2_with fail
      obtain ⟨r0, r1, r2, r3⟩ := RX.out.all4
      unfold put4 at r0 r1 r2 r3
      exact bodyPost_ret (v := .agg #[.int .i64 b.workers, .int .i64 b.epoch, .int .i64 b.step, .slice ua b.reps.length uc]) (by simp [results, Try.results12, go_sem, r0, r1, r2, r3]) rfl HX.out
end Go.Proofs.Ytpikfiegmnmbmaa
