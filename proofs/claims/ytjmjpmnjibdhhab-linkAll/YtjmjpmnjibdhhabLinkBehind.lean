/-
  Contract of link's behind: a sender without its first loads, in memory of its own.
-/
import Derived.Test.YtjmjpmnjibdhhabLinkMay
import Derived.Test.YtjmjpmnjibdhhabCutMail
import Derived.Test.YtjmjpmnjibdhhabRegionCall
import Derived.Laws.AppendOwnNone
import Derived.Deep.CutRange
namespace Go.Proofs.Ytjmjpmnjibdhhab
set_option maxRecDepth 100000
open Go.ChangeShapes Go.WideShapes Go.ChangeAt Go.RowKit

/-- What is answered: a sender whose loads lie in new memory. -/
def SndO (w : World) (e b : Int) (l : List Ml) (E : Ending) (w' : World) : Prop :=
  ∃ v, E = .returned (.agg #[.int .i64 e, .int .i64 b, v]) ∧ w'.ownsRow w.heap.size 41 2 v l.length (l.flatMap encM) ∧ Below w.heap.size w w'

set_option maxHeartbeats 2000000 in
set_option maxRecDepth 100000 in
theorem behind_any (e b : Int) (k : Nat) (v : Value) (l : List Ml) (w : World) (h : MlR w v l) (hl : l.length ≤ 5000) (hk : k ≤ l.length) (hb0 : 0 ≤ b) (hb1 : b ≤ 1099511627776) :
    Calls Try.prog 16 #[.agg #[.int .i64 e, .int .i64 b, v], .int .i64 (k : Int)] w (SndO w e (b + k) (l.drop k)) := by
  have HR : Hid (MlR w v l) := h
  obtain ⟨a, cap, rfl⟩ := h.shape
  have hlc : l.length ≤ cap := by obtain ⟨a', c', e', h1, _⟩ := h; injection e' with _ _ e3; subst e3; exact h1
  have hwr : IntKind.i64.wrap (b + (k : Int)) = b + (k : Int) := wrap_id64 (by omega) (by omega)
  have HE : Hid (∀ v w', w'.ownsRow w.heap.size 41 2 v (l.drop k).length ((l.drop k).flatMap encM) → Below w.heap.size w w' → SndO w e (b + k) (l.drop k) (.returned (.agg #[.int .i64 e, .int .i64 (b + k), v])) w') := fun v w' h1 h2 => ⟨_, rfl, h1, h2⟩
  have CUT : ∀ W, (Instr.slice 24 (.slice a l.length cap) (some (.int .i64 (k : Int))) none none).run Try.prog W = .ok (cutP a k l.length cap) W := run_cutF a l.length cap k hk
  generalize SndO w e (b + k) (l.drop k) = P at *
  have ed : (l.drop k).take (l.length - k) = l.drop k := List.take_of_length_le (by simp)
  have CR : Hid (MlR w (cutP a k l.length cap) (l.drop k)) := by
    have := reads_cutP HR.out hk (Nat.le_refl _) hlc (Nat.le_refl _)
    rw [ed] at this; exact this
  have hdl : (l.drop k).length ≤ 5000 := by rw [List.length_drop]; omega
  clear h hlc ed
  generalize l.drop k = d at *
  obtain ⟨ca, cn, cc, hcv⟩ : ∃ ca cn cc, cutP a k l.length cap = .slice ca cn cc := ⟨_, _, _, rfl⟩
  rw [hcv] at CR CUT
  clear hcv
  go_enter Try.func16, Try.ntmps16
  go_upto_region 1 with fail
  have Q0 : BX 27 ((w.alloc (.cells #[.int .i64 e, .int .i64 b, .slice a l.length cap] 27)).alloc (.cells #[.int .i64 0, .int .i64 0, .slice none 0 0] 27)) w.heap.size #[.int .i64 e, .int .i64 b, .slice a l.length cap] := (BX.new 27 w _).below (below_alloc _ _) (by simp)
  have P0 : BX 27 ((w.alloc (.cells #[.int .i64 e, .int .i64 b, .slice a l.length cap] 27)).alloc (.cells #[.int .i64 0, .int .i64 0, .slice none 0 0] 27)) (w.heap.size + 1) #[.int .i64 0, .int .i64 0, .slice none 0 0] := by
    have h := BX.new 27 (w.alloc (.cells #[.int .i64 e, .int .i64 b, .slice a l.length cap] 27)) #[.int .i64 0, .int .i64 0, .slice none 0 0]
    rwa [show (w.alloc (.cells #[.int .i64 e, .int .i64 b, .slice a l.length cap] 27)).heap.size = w.heap.size + 1 by simp] at h
  have B0 : Hid (Below w.heap.size w ((w.alloc (.cells #[.int .i64 e, .int .i64 b, .slice a l.length cap] 27)).alloc (.cells #[.int .i64 0, .int .i64 0, .slice none 0 0] 27))) := (below_alloc _ _).alloc (by simp) _
  generalize (w.alloc (.cells #[.int .i64 e, .int .i64 b, .slice a l.length cap] 27)).alloc (.cells #[.int .i64 0, .int .i64 0, .slice none 0 0] 27) = W0 at *
  have hs0 := P0.lt
  have CR0 : Hid (MlR W0 (.slice ca cn cc) d) := CR.out.below B0.out (Nat.le_refl _)
  have QQ : Hid (BX 27 W0 w.heap.size #[.int .i64 e, .int .i64 b, .slice a l.length cap]) := Q0
  have PP : Hid (BX 27 W0 (w.heap.size + 1) #[.int .i64 0, .int .i64 0, .slice none 0 0]) := P0
  obtain ⟨q0, q1, q2, _⟩ := Q0.all3
  clear Q0 P0 HR CR
  go_upto_region 2 with fail
  clear hwr
  generalize b + (k : Int) = bk at *
  have N1 : BX 27 (W0.alloc (.cells #[.int .i64 e, .int .i64 bk, .slice none 0 0] 27)) W0.heap.size #[.int .i64 e, .int .i64 bk, .slice none 0 0] := BX.new _ _ _
  have b1 : Below W0.heap.size W0 (W0.alloc (.cells #[.int .i64 e, .int .i64 bk, .slice none 0 0] 27)) := below_alloc _ _
  have hs1 : W0.heap.size < (W0.alloc (.cells #[.int .i64 e, .int .i64 bk, .slice none 0 0] 27)).heap.size := by simp
  generalize W0.alloc (.cells #[.int .i64 e, .int .i64 bk, .slice none 0 0] 27) = W1 at *
  have NX : Hid (BX 27 W1 W0.heap.size #[.int .i64 e, .int .i64 bk, .slice none 0 0]) := N1
  have B1 : Hid (Below W0.heap.size W0 W1) := b1
  have KEEP : Hid (∀ V, Below W1.heap.size W1 V → V.cell? ⟨W0.heap.size, 2, none⟩ = some (.slice none 0 0) ∧ V.cell? ⟨w.heap.size, 2, none⟩ = some (.slice a l.length cap)) := fun V hV => ⟨(N1.below hV hs1).all3.2.2.1, ((QQ.out.below b1 (by omega)).below hV (by omega)).all3.2.2.1⟩
  have HSD : Hid (_ ∧ _) := KEEP.out W1.drew (Below.refl _ _).drew
  clear N1 b1 q0 q1 q2
  refine region_lastF (S := fun V => V.cell? ⟨W0.heap.size, 2, none⟩ = some (.slice none 0 0) ∧ V.cell? ⟨w.heap.size, 2, none⟩ = some (.slice a l.length cap)) (by kernel_rfl) rfl (by kernel_rfl) (by kernel_rfl) ?_
  simp only [List.pop_toArray, List.dropLast_cons_cons, List.dropLast_singleton, List.size_toArray, List.length_cons, List.length_nil, Nat.reduceAdd]
  refine takeH (i := 0) (v := .pointer (some ⟨W0.heap.size, 2, none⟩)) (d := 13) rfl rfl (by kernel_rfl) (by kernel_rfl) (by kernel_rfl) (fun _ _ _ h => h) (by rfl) (fun V hV => by obtain ⟨v1, v2⟩ := hV; go_simp) HSD.out ?_
  simp only [Act.put, List.setIfInBounds_toArray, List.set_cons_zero, List.set_cons_succ]
  refine takeH (i := 1) (v := .slice none 0 0) (d := 14) rfl rfl (by kernel_rfl) (by kernel_rfl) (by kernel_rfl) (fun _ _ _ h => h) (by rfl) (fun V hV => by obtain ⟨v1, v2⟩ := hV; go_simp) HSD.out ?_
  simp only [Act.put, List.setIfInBounds_toArray, List.set_cons_zero, List.set_cons_succ]
  refine takeH (i := 2) (v := .pointer (some ⟨w.heap.size, 2, none⟩)) (d := 15) rfl rfl (by kernel_rfl) (by kernel_rfl) (by kernel_rfl) (fun _ _ _ h => h) (by rfl) (fun V hV => by obtain ⟨v1, v2⟩ := hV; go_simp) HSD.out ?_
  simp only [Act.put, List.setIfInBounds_toArray, List.set_cons_zero, List.set_cons_succ]
  refine takeH (i := 3) (v := .slice a l.length cap) (d := 16) rfl rfl (by kernel_rfl) (by kernel_rfl) (by kernel_rfl) (fun _ _ _ h => h) (by rfl) (fun V hV => by obtain ⟨v1, v2⟩ := hV; go_simp) HSD.out ?_
  simp only [Act.put, List.setIfInBounds_toArray, List.set_cons_zero, List.set_cons_succ]
  refine takeH (i := 4) (v := .int .i64 (k : Int)) (d := 17) rfl rfl (by kernel_rfl) (by kernel_rfl) (by kernel_rfl) (fun _ _ _ h => h) (by rfl) (fun V hV => by obtain ⟨v1, v2⟩ := hV; go_simp) HSD.out ?_
  simp only [Act.put, List.setIfInBounds_toArray, List.set_cons_zero, List.set_cons_succ]
  refine takeH (i := 5) (v := .slice ca cn cc) (d := 18) rfl rfl (by kernel_rfl) (by kernel_rfl) (by kernel_rfl) (fun _ _ _ h => h) (by rfl) (fun V hV => by obtain ⟨v1, v2⟩ := hV; go_simp) HSD.out ?_
  simp only [Act.put, List.setIfInBounds_toArray, List.set_cons_zero, List.set_cons_succ]
  obtain ⟨v2, w2, hrun2, ho2, hg2⟩ := run_append_rowK kM (w := W1.drew) 24 W1.heap.size (.slice none 0 0) ([] : List Ml) (World.ownsRow_nil _ _ _ _) (.slice ca cn cc) d ((CR0.out.below B1.out (Nat.le_refl _)).below (Below.refl _ _).drew (Nat.le_refl _)) (by simp [kM]; omega) (by unfold maxLen; simp; omega) (by simp)
  have C2 : Below W1.heap.size W1 w2 := below_undrew ((Below.refl _ _).grown hg2 (by simp) (fun k hk => by cases hk))
  have HS2 : Hid (_ ∧ _) := KEEP.out w2 C2
  unfold kM at hrun2
  simp only at hrun2
  refine oneH (i := 6) rfl (by kernel_rfl) rfl (call_append (d := 19) (s := .tmp 14) (x := .tmp 18) (t := 24) rfl rfl (v := .slice none 0 0) (v2 := .slice ca cn cc) (by simp [Act.eval]) (by simp [Act.eval]) hrun2 ⟨HS2.out, ?_⟩)
  simp only [Act.put, List.setIfInBounds_toArray, List.set_cons_zero, List.set_cons_succ]
  have M2 : Hid (w2.ownsRow W0.heap.size 41 2 v2 d.length (d.flatMap encM)) := by
    have h := own_lower ho2 (B' := W0.heap.size) (by omega)
    show World.ownsRow _ _ _ _ _ _ _
    simpa [kM] using h
  refine takeH (i := 7) (v := .pointer (some ⟨W0.heap.size, 2, none⟩)) (d := 20) rfl rfl (by kernel_rfl) (by kernel_rfl) (by kernel_rfl) (fun _ _ _ h => h) (by rfl) (fun V hV => by obtain ⟨v1, v2⟩ := hV; go_simp) HS2.out ?_
  simp only [Act.put, List.setIfInBounds_toArray, List.set_cons_zero, List.set_cons_succ]
  refine wpAnyH_done (by kernel_rfl) ?_ _
  have X2 : Hid (BX 27 w2 W0.heap.size #[.int .i64 e, .int .i64 bk, .slice none 0 0]) := NX.out.below C2 hs1
  have Y2 : Hid (BX 27 w2 (w.heap.size + 1) #[.int .i64 0, .int .i64 0, .slice none 0 0]) := (PP.out.below B1.out (by omega)).below C2 (by omega)
  have B2 : Hid (Below W0.heap.size W0 w2) := B1.out.trans (C2.mono (by omega))
  obtain ⟨ya, yc, rfl⟩ := (MlR.ownd M2.out).shape
  obtain ⟨m0, m1, m2, m3, m4, m5⟩ := X2.out.all3
  have A2 : Hid (BX 27 (w2.setCell ⟨W0.heap.size, 2, none⟩ (.slice ya d.length yc)) W0.heap.size #[.int .i64 e, .int .i64 bk, .slice ya d.length yc]) := X2.out.set 2 _
  have D2 : Hid ((w2.setCell ⟨W0.heap.size, 2, none⟩ (.slice ya d.length yc)).ownsRow W0.heap.size 41 2 (.slice ya d.length yc) d.length (d.flatMap encM)) := X2.out.own M2.out (by decide)
  have E2 : Hid (Below W0.heap.size W0 (w2.setCell ⟨W0.heap.size, 2, none⟩ (.slice ya d.length yc))) := B2.out.setCell (Nat.le_refl _) _
  have Z2 : Hid (BX 27 (w2.setCell ⟨W0.heap.size, 2, none⟩ (.slice ya d.length yc)) (w.heap.size + 1) #[.int .i64 0, .int .i64 0, .slice none 0 0]) := Y2.out.other (by omega)
  clear hrun2 ho2 hg2 C2 HS2 HSD KEEP NX X2 Y2 B2 M2
  show Oper.wp _ _ _ _ _ _
  refine op_skip (w' := w2.setCell ⟨W0.heap.size, 2, none⟩ (.slice ya d.length yc)) rfl (by go_simp) ?_
  clear m0 m1 m2 m3 m4 m5
  generalize w2.setCell ⟨W0.heap.size, 2, none⟩ (.slice ya d.length yc) = V at *
  obtain ⟨a0, a1, a2, _⟩ := A2.out.all3
  obtain ⟨z0, z1, z2, z3, z4, z5⟩ := Z2.out.all3
  have HX : Hid (P (.returned (.agg #[.int .i64 e, .int .i64 bk, .slice ya d.length yc])) (put3 V (w.heap.size + 1) (.int .i64 e) (.int .i64 bk) (.slice ya d.length yc))) := HE.out _ _ (own_lower (Z2.out.own3 D2.out (by decide)) B0.out.size) (below_put3 (B0.out.trans (E2.out.mono B0.out.size)) (Nat.le_succ _) _ _ _)
  have RX : Hid (BX 27 (put3 V (w.heap.size + 1) (.int .i64 e) (.int .i64 bk) (.slice ya d.length yc)) (w.heap.size + 1) #[.int .i64 e, .int .i64 bk, .slice ya d.length yc]) := Z2.out.put3 _ _ _
  go_wp2_with fail
  obtain ⟨r0, r1, r2, _⟩ := RX.out.all3
  unfold put3 at r0 r1 r2
  exact bodyPost_ret (v := .agg #[.int .i64 e, .int .i64 bk, .slice ya d.length yc]) (by simp [results, Try.results16, go_sem, r0, r1, r2]) rfl HX.out
end Go.Proofs.Ytjmjpmnjibdhhab
