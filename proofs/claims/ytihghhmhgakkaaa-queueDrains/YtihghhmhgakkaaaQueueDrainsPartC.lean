/-
  Contract of the law's own queues: a copy of a queue.
  Contracts of the law's own sameList and sameQueue: what reads alike.
-/
import Derived.Test.YtihghhmhgakkaaaQueueDrainsPartA
import Derived.Test.YtihghhmhgakkaaaQueueDrainsPartB
import Derived.Shelf.Abstract
import Derived.Deep.QuietTactic
import Derived.BigQuiet
import Derived.Lib.QuietBelow

namespace Go.Proofs.Ytihghhmhgakkaaa
set_option maxRecDepth 100000
open Go.ChangeShapes Go.WideShapes Go.ChangeAt Go.RowKit

set_option maxHeartbeats 1000000 in
set_option maxRecDepth 100000 in
theorem queues_any (n : Int) (vl vr : Value) (lo : List Ml) (rs : List (List Int)) (w : World) (h : QuR w vl vr lo rs) (hB : QuB lo rs) :
    Calls Try.prog 9 #[.agg #[.int .i64 n, vl, vr]] w fun e w' => ∃ xl xr, e = .returned (.agg #[.int .i64 n, xl, xr]) ∧ QuR w' xl xr lo rs ∧ Below w.heap.size w w' := by
  have HR : Hid (QuR w vl vr lo rs) := h
  obtain ⟨a, cap, rfl⟩ := h.1.shape
  obtain ⟨c, cap2, rfl, hc2, hm2, _⟩ := id h.2
  have hl1 : lo.length * 16 ≤ 140737488351232 := hB.1.2
  have hl2 : rs.length * 24 ≤ 140737488351232 := hB.2.2
  have HL : Hid (∀ l ∈ rs, l.length ≤ 140737488351232) := fun l hl => (hB.2.1 l hl).2
  clear h hB
  go_enter Try.func9, Try.ntmps9
  go_wp2_with fail
  have Q0 : QX ((w.alloc (.cells #[.int .i64 n, .slice a lo.length cap, .slice c rs.length cap2] 25)).alloc (.cells #[.int .i64 0, .slice none 0 0, .slice none 0 0] 25)) w.heap.size (.int .i64 n) (.slice a lo.length cap) (.slice c rs.length cap2) := (QX.new w (.int .i64 n) (.slice a lo.length cap) (.slice c rs.length cap2)).below (below_alloc _ _) (by simp)
  have P0 : QX ((w.alloc (.cells #[.int .i64 n, .slice a lo.length cap, .slice c rs.length cap2] 25)).alloc (.cells #[.int .i64 0, .slice none 0 0, .slice none 0 0] 25)) (w.heap.size + 1) (.int .i64 0) (.slice none 0 0) (.slice none 0 0) := by
    have h := QX.new (w.alloc (.cells #[.int .i64 n, .slice a lo.length cap, .slice c rs.length cap2] 25)) (.int .i64 0) (.slice none 0 0) (.slice none 0 0)
    rwa [show (w.alloc (.cells #[.int .i64 n, .slice a lo.length cap, .slice c rs.length cap2] 25)).heap.size = w.heap.size + 1 by simp] at h
  have B0 : Hid (Below w.heap.size w ((w.alloc (.cells #[.int .i64 n, .slice a lo.length cap, .slice c rs.length cap2] 25)).alloc (.cells #[.int .i64 0, .slice none 0 0, .slice none 0 0] 25))) := (below_alloc _ _).alloc (by simp) _
  generalize (w.alloc (.cells #[.int .i64 n, .slice a lo.length cap, .slice c rs.length cap2] 25)).alloc (.cells #[.int .i64 0, .slice none 0 0, .slice none 0 0] 25) = W0 at *
  have hs0 := P0.lt
  have R0 : Hid (QuR W0 (.slice a lo.length cap) (.slice c rs.length cap2) lo rs) := HR.out.below B0.out (Nat.le_refl _)
  have QQ : Hid (QX W0 w.heap.size (.int .i64 n) (.slice a lo.length cap) (.slice c rs.length cap2)) := Q0
  have PP : Hid (QX W0 (w.heap.size + 1) (.int .i64 0) (.slice none 0 0) (.slice none 0 0)) := P0
  have KEEP : Hid (∀ V, Below W0.heap.size W0 V → V.cell? ⟨w.heap.size, 0, none⟩ = some (.int .i64 n) ∧ V.cell? ⟨w.heap.size, 1, none⟩ = some (.slice a lo.length cap) ∧ V.cell? ⟨w.heap.size, 2, none⟩ = some (.slice c rs.length cap2)) := fun V hV => (Q0.below hV (by omega)).cells
  obtain ⟨q0, q1, q2⟩ := Q0.cells
  clear Q0 P0 HR
  have em : ∀ args w, (callFunc 23 args).run Try.prog w = .ok (.enter 23 args) w := enters_of Try.func23 (by kernel_rfl) rfl
  have HSD : Hid (_ ∧ _ ∧ _) := KEEP.out W0.drew (Below.refl _ _).drew
  clear q0 q1 q2
  apply Hid.cut
  case h =>
    intro HG
    refine region_lastF (S := fun V => V.cell? ⟨w.heap.size, 0, none⟩ = some (.int .i64 n) ∧ V.cell? ⟨w.heap.size, 1, none⟩ = some (.slice a lo.length cap) ∧ V.cell? ⟨w.heap.size, 2, none⟩ = some (.slice c rs.length cap2)) (by kernel_rfl) rfl (by kernel_rfl) (by kernel_rfl) ?_
    simp only [List.pop_toArray, List.dropLast_cons_cons, List.dropLast_singleton, List.size_toArray, List.length_cons, List.length_nil, Nat.reduceAdd]
    refine takeH (i := 0) (v := .pointer (some ⟨w.heap.size, 0, none⟩)) (d := 5) rfl rfl (by kernel_rfl) (by kernel_rfl) (by kernel_rfl) (fun _ _ _ h => h) (by rfl) (fun V hV => by obtain ⟨v1, v2, v3⟩ := hV; go_simp) HSD.out ?_
    simp only [Act.put, List.setIfInBounds_toArray, List.set_cons_zero, List.set_cons_succ]
    refine takeH (i := 1) (v := .int .i64 n) (d := 6) rfl rfl (by kernel_rfl) (by kernel_rfl) (by kernel_rfl) (fun _ _ _ h => h) (by rfl) (fun V hV => by obtain ⟨v1, v2, v3⟩ := hV; go_simp) HSD.out ?_
    simp only [Act.put, List.setIfInBounds_toArray, List.set_cons_zero, List.set_cons_succ]
    refine takeH (i := 2) (v := .pointer (some ⟨w.heap.size, 1, none⟩)) (d := 7) rfl rfl (by kernel_rfl) (by kernel_rfl) (by kernel_rfl) (fun _ _ _ h => h) (by rfl) (fun V hV => by obtain ⟨v1, v2, v3⟩ := hV; go_simp) HSD.out ?_
    simp only [Act.put, List.setIfInBounds_toArray, List.set_cons_zero, List.set_cons_succ]
    refine takeH (i := 3) (v := .slice a lo.length cap) (d := 8) rfl rfl (by kernel_rfl) (by kernel_rfl) (by kernel_rfl) (fun _ _ _ h => h) (by rfl) (fun V hV => by obtain ⟨v1, v2, v3⟩ := hV; go_simp) HSD.out ?_
    simp only [Act.put, List.setIfInBounds_toArray, List.set_cons_zero, List.set_cons_succ]
    refine twoH (i := 4) (j := 6) rfl rfl (by kernel_rfl) rfl rfl (call_gets (d := 9) (f := 23) (xs := #[.tmp 8]) (ats := #[22]) rfl rfl em (vs := #[.slice a lo.length cap]) (by simp [Act.eval]) (mails_any _ lo _ (R0.out.1.below (Below.refl _ _).drew (Nat.le_refl _)) hl1) ?_) ?_
    · intro v2 w2 h2
      obtain ⟨ho2, hb2⟩ := h2
      have C2 : Below W0.heap.size W0 w2 := below_undrew hb2
      have HS2 : Hid (_ ∧ _ ∧ _) := KEEP.out w2 C2
      have HS3 : Hid (_ ∧ _ ∧ _) := KEEP.out (w2.alloc (.cells #[.int .i64 0, .slice none 0 0, .slice none 0 0] 25)) (C2.alloc C2.size _)
      obtain ⟨ya, yc, rfl⟩ := (MlR.ownd ho2).shape
      refine ⟨HS2.out, ?_⟩
      simp only [Act.put, List.setIfInBounds_toArray, List.set_cons_zero, List.set_cons_succ]
      refine takeH (i := 5) (v := .agg #[.int .i64 n, .slice ya lo.length yc, .slice none 0 0]) (d := 10) rfl rfl (by kernel_rfl) (by kernel_rfl) (by kernel_rfl) (fun _ _ _ h => h) (by rfl) (fun V hV => by obtain ⟨v1, v2, v3⟩ := hV; go_simp) HS2.out ?_
      simp only [Act.put, List.setIfInBounds_toArray, List.set_cons_zero, List.set_cons_succ]
      refine oneH (i := 6) rfl (by kernel_rfl) rfl (op_run (d := 3) (v' := .pointer (some ⟨w2.heap.size, 0, none⟩)) (w' := w2.alloc (.cells #[.int .i64 0, .slice none 0 0, .slice none 0 0] 25)) rfl (by go_simp) ⟨HS3.out, ?_⟩)
      simp only [Act.put, List.setIfInBounds_toArray, List.set_cons_zero, List.set_cons_succ]
      refine wpAnyH_done (by kernel_rfl) ?_ _
      have NX : Hid (QX (w2.alloc (.cells #[.int .i64 0, .slice none 0 0, .slice none 0 0] 25)) w2.heap.size (.int .i64 0) (.slice none 0 0) (.slice none 0 0)) := QX.new _ _ _ _
      have NM : Hid ((w2.alloc (.cells #[.int .i64 0, .slice none 0 0, .slice none 0 0] 25)).ownsRow W0.heap.size 27 2 (.slice ya lo.length yc) lo.length (lo.flatMap encM)) := (own_lower ho2 (by simp)).alloc _
      have NB : Hid (Below W0.heap.size W0 (w2.alloc (.cells #[.int .i64 0, .slice none 0 0, .slice none 0 0] 25))) := C2.alloc C2.size _
      have NL : Hid (W0.heap.size ≤ w2.heap.size) := C2.size
      obtain ⟨n0, n1, n2, n3, n4, n5⟩ := NX.out.all
      generalize w2.alloc (.cells #[.int .i64 0, .slice none 0 0, .slice none 0 0] 25) = V at *
      generalize w2.heap.size = b at *
      clear HS2 HS3 ho2 hb2 C2
      show Oper.wp _ _ _ _ _ _
      refine op_skip (w' := putQ V b (.int .i64 n) (.slice ya lo.length yc) (.slice none 0 0)) rfl (by unfold putQ; go_simp) ?_
      have FX : Hid (QX (putQ V b (.int .i64 n) (.slice ya lo.length yc) (.slice none 0 0)) b (.int .i64 n) (.slice ya lo.length yc) (.slice none 0 0)) := NX.out.put _ _ _
      have FM : Hid ((putQ V b (.int .i64 n) (.slice ya lo.length yc) (.slice none 0 0)).ownsRow W0.heap.size 27 2 (.slice ya lo.length yc) lo.length (lo.flatMap encM)) := NX.out.ownPut NM.out (by decide)
      have FB : Hid (Below W0.heap.size W0 (putQ V b (.int .i64 n) (.slice ya lo.length yc) (.slice none 0 0))) := below_putQ NB.out NL.out _ _ _
      clear n0 n1 n2 n3 n4 n5 NX NM NB
      generalize putQ V b (.int .i64 n) (.slice ya lo.length yc) (.slice none 0 0) = X at *
      clear V
      revert NL FB FM FX
      revert X
      revert b
      revert yc
      revert ya
      exact HG.out
    · have HS4 : Hid (_ ∧ _ ∧ _) := KEEP.out (W0.drew.alloc (.cells #[.int .i64 0, .slice none 0 0, .slice none 0 0] 25)) ((Below.refl _ _).drew.alloc (by simp) _)
      refine op_run (d := 3) (v' := .pointer (some ⟨W0.heap.size, 0, none⟩)) (w' := W0.drew.alloc (.cells #[.int .i64 0, .slice none 0 0, .slice none 0 0] 25)) rfl (by go_simp) ⟨HS4.out, ?_⟩
      simp only [Act.put, List.setIfInBounds_toArray, List.set_cons_zero, List.set_cons_succ]
      refine oneH (i := 4) rfl (by kernel_rfl) rfl (call_gets (d := 9) (f := 23) (xs := #[.tmp 8]) (ats := #[22]) rfl rfl em (vs := #[.slice a lo.length cap]) (by simp [Act.eval]) (mails_any _ lo _ (R0.out.1.below ((Below.refl _ _).drew.alloc (by simp) _) (Nat.le_refl _)) hl1) ?_)
      intro v2 w2 h2
      obtain ⟨ho2, hb2⟩ := h2
      have C2 : Below W0.heap.size W0 w2 := ((Below.refl _ _).drew.alloc (by simp) _).trans (hb2.mono (by simp))
      have HS2 : Hid (_ ∧ _ ∧ _) := KEEP.out w2 C2
      obtain ⟨ya, yc, rfl⟩ := (MlR.ownd ho2).shape
      refine ⟨HS2.out, ?_⟩
      simp only [Act.put, List.setIfInBounds_toArray, List.set_cons_zero, List.set_cons_succ]
      refine takeH (i := 5) (v := .agg #[.int .i64 n, .slice ya lo.length yc, .slice none 0 0]) (d := 10) rfl rfl (by kernel_rfl) (by kernel_rfl) (by kernel_rfl) (fun _ _ _ h => h) (by rfl) (fun V hV => by obtain ⟨v1, v2, v3⟩ := hV; go_simp) HS2.out ?_
      simp only [Act.put, List.setIfInBounds_toArray, List.set_cons_zero, List.set_cons_succ]
      refine wpAnyH_done (by kernel_rfl) ?_ _
      have NX : Hid (QX w2 W0.heap.size (.int .i64 0) (.slice none 0 0) (.slice none 0 0)) := newQ hb2
      have NM : Hid (w2.ownsRow W0.heap.size 27 2 (.slice ya lo.length yc) lo.length (lo.flatMap encM)) := own_lower ho2 (by simp)
      have NB : Hid (Below W0.heap.size W0 w2) := C2
      obtain ⟨b, hbe⟩ : ∃ b, W0.heap.size = b := ⟨_, rfl⟩
      have NL : Hid (W0.heap.size ≤ b) := Nat.le_of_eq hbe
      rw [hbe] at NX ⊢
      clear hbe HS2 HS4 ho2 hb2 C2
      obtain ⟨n0, n1, n2, n3, n4, n5⟩ := NX.out.all
      show Oper.wp _ _ _ _ _ _
      refine op_skip (w' := putQ w2 b (.int .i64 n) (.slice ya lo.length yc) (.slice none 0 0)) rfl (by unfold putQ; go_simp) ?_
      have FX : Hid (QX (putQ w2 b (.int .i64 n) (.slice ya lo.length yc) (.slice none 0 0)) b (.int .i64 n) (.slice ya lo.length yc) (.slice none 0 0)) := NX.out.put _ _ _
      have FM : Hid ((putQ w2 b (.int .i64 n) (.slice ya lo.length yc) (.slice none 0 0)).ownsRow W0.heap.size 27 2 (.slice ya lo.length yc) lo.length (lo.flatMap encM)) := NX.out.ownPut NM.out (by decide)
      have FB : Hid (Below W0.heap.size W0 (putQ w2 b (.int .i64 n) (.slice ya lo.length yc) (.slice none 0 0))) := below_putQ NB.out NL.out _ _ _
      clear n0 n1 n2 n3 n4 n5 NX NM NB
      generalize putQ w2 b (.int .i64 n) (.slice ya lo.length yc) (.slice none 0 0) = X at *
      clear w2
      revert NL FB FM FX
      revert X
      revert b
      revert yc
      revert ya
      exact HG.out
  case g =>
    intro ya yc b X NL FX FM FB
    clear KEEP HSD em
    have eo : ∀ args w, (callFunc 24 args).run Try.prog w = .ok (.enter 24 args) w := enters_of Try.func24 (by kernel_rfl) rfl
    go_wp2_with fail
    go_loopw [4] (fun i wr => ∃ (k : Nat) (u : Value), k ≤ rs.length ∧ i = .int .i64 k ∧ QX wr b (.int .i64 n) (.slice ya lo.length yc) u ∧ OwnBs wr W0.heap.size u (rs.take k) ∧ wr.ownsRow W0.heap.size 27 2 (.slice ya lo.length yc) lo.length (lo.flatMap encM) ∧ Below W0.heap.size W0 wr) (fun i _ => rs.length - (intOf i).toNat)
    case atStart => exact ⟨0, _, by omega, rfl, FX.out, OwnBs.nil _ _, FM.out, FB.out⟩
    case round =>
      obtain ⟨k, u, hk, rfl, hqx, hob, hom, hbel⟩ := hrel
      have QR : Hid (QX wr b (.int .i64 n) (.slice ya lo.length yc) u) := hqx
      have OB : Hid (OwnBs wr W0.heap.size u (rs.take k)) := hob
      have OM : Hid (wr.ownsRow W0.heap.size 27 2 (.slice ya lo.length yc) lo.length (lo.flatMap encM)) := hom
      have HB : Hid (Below W0.heap.size W0 wr) := hbel
      have hsr := hbel.size
      have Q1 := QQ.out.below hbel (by omega)
      have P1 : Hid (QX wr (w.heap.size + 1) (.int .i64 0) (.slice none 0 0) (.slice none 0 0)) := PP.out.below hbel (by omega)
      obtain ⟨q0, q1, q2⟩ := Q1.cells
      obtain ⟨z0, z1, z2⟩ := hqx.cells
      obtain ⟨ua, uc, hue⟩ : ∃ a c, u = .slice a (rs.take k).length c := by obtain ⟨a, c, e, _⟩ := hob.reads; exact ⟨a, c, e⟩
      have hqb : w.heap.size < W0.heap.size := by omega
      clear hqx hob hom hbel
      by_cases hlt : k < rs.length
      · obtain ⟨rb, ro, cap', e1, lt, _, _, hv⟩ := (R0.out.2.below HB.out (Nat.le_refl _)).at (by omega)
        obtain ⟨rb0, ro0, cap0, e2, lt0, _, _, hv0⟩ := R0.out.2.at (by omega)
        injection e1 with e1 e9 e3
        subst e1 e3
        injection e2 with e2 e8 e3
        injection e2 with e2
        injection e2 with e2 e7 _
        subst e2
        clear e9 e8 e7 e3 hv0
        obtain ⟨l, hl⟩ := getX hlt
        obtain ⟨t, ht, htr⟩ := hv k l hl
        have HP : Hid (Reads .u8 wr t l) := htr
        obtain ⟨la, lc, rfl, _⟩ := id htr
        have hll : l.length ≤ 140737488355328 := by have := HL.out l (List.mem_of_getElem? hl); omega
        have HT : Hid (rs.take (k + 1) = rs.take k ++ [l]) := take_snoc hl
        have p0 : (0 : Int) ≤ (k : Int) := by omega
        have p1 : (k : Int) < (rs.length : Int) := by omega
        have KEEP : Hid (∀ V, Kept (fun _ => False) wr V → V.cell? ⟨b, 2, none⟩ = some u ∧ V.cell? ⟨w.heap.size, 2, none⟩ = some (.slice (some ⟨rb, ro, none⟩) rs.length cap2) ∧ V.cell? ⟨rb, ro + k, none⟩ = some (.slice la l.length lc)) := fun V hV => ⟨(hV.cell (p := ⟨b, 2, none⟩) QR.out.lt (fun h => h)).trans z2, (hV.cell (p := ⟨w.heap.size, 2, none⟩) Q1.lt (fun h => h)).trans q2, (hV.cell (p := ⟨rb, ro + k, none⟩) lt (fun h => h)).trans ht⟩
        have KEEP2 : Hid (∀ V, Kept (fun q => u.ownBlock = some q) wr V → ¬ (u.ownBlock = some b) → (∀ q, u.ownBlock = some q → W0.heap.size ≤ q) → V.cell? ⟨b, 2, none⟩ = some u ∧ V.cell? ⟨w.heap.size, 2, none⟩ = some (.slice (some ⟨rb, ro, none⟩) rs.length cap2) ∧ V.cell? ⟨rb, ro + k, none⟩ = some (.slice la l.length lc)) := fun V hV hb hq => ⟨(hV.cell (p := ⟨b, 2, none⟩) QR.out.lt hb).trans z2, (hV.cell (p := ⟨w.heap.size, 2, none⟩) Q1.lt (fun h => by have := hq _ h; simp only at this; omega)).trans q2, (hV.cell (p := ⟨rb, ro + k, none⟩) lt (fun h => by have := hq _ h; simp only at this; omega)).trans ht⟩
        have HSD : Hid (_ ∧ _ ∧ _) := KEEP.out wr.drew (Kept.of (Below.refl _ _).drew)
        clear hv hl htr hue
        go_wp2_with fail
        refine region_lastF (S := fun V => V.cell? ⟨b, 2, none⟩ = some u ∧ V.cell? ⟨w.heap.size, 2, none⟩ = some (.slice (some ⟨rb, ro, none⟩) rs.length cap2) ∧ V.cell? ⟨rb, ro + k, none⟩ = some (.slice la l.length lc)) (by kernel_rfl) rfl (by kernel_rfl) (by kernel_rfl) ?_
        clear q0 q1 q2 z0 z1 z2 Q1
        simp only [List.pop_toArray, List.dropLast_cons_cons, List.dropLast_singleton, List.size_toArray, List.length_cons, List.length_nil, Nat.reduceAdd]
        refine takeH (i := 0) (v := .pointer (some ⟨b, 2, none⟩)) (d := 18) rfl rfl (by kernel_rfl) (by kernel_rfl) (by kernel_rfl) (fun _ _ _ h => h) (by rfl) (fun V hV => by obtain ⟨v1, v2, v3⟩ := hV; go_simp) HSD.out ?_
        simp only [Act.put, List.setIfInBounds_toArray, List.set_cons_zero, List.set_cons_succ]
        refine takeH (i := 1) (v := u) (d := 19) rfl rfl (by kernel_rfl) (by kernel_rfl) (by kernel_rfl) (fun _ _ _ h => h) (by rfl) (fun V hV => by obtain ⟨v1, v2, v3⟩ := hV; go_simp) HSD.out ?_
        simp only [Act.put, List.setIfInBounds_toArray, List.set_cons_zero, List.set_cons_succ]
        refine takeH (i := 2) (v := .pointer (some ⟨w.heap.size, 2, none⟩)) (d := 20) rfl rfl (by kernel_rfl) (by kernel_rfl) (by kernel_rfl) (fun _ _ _ h => h) (by rfl) (fun V hV => by obtain ⟨v1, v2, v3⟩ := hV; go_simp) HSD.out ?_
        simp only [Act.put, List.setIfInBounds_toArray, List.set_cons_zero, List.set_cons_succ]
        refine takeH (i := 3) (v := .slice (some ⟨rb, ro, none⟩) rs.length cap2) (d := 21) rfl rfl (by kernel_rfl) (by kernel_rfl) (by kernel_rfl) (fun _ _ _ h => h) (by rfl) (fun V hV => by obtain ⟨v1, v2, v3⟩ := hV; go_simp) HSD.out ?_
        simp only [Act.put, List.setIfInBounds_toArray, List.set_cons_zero, List.set_cons_succ]
        refine takeH (i := 4) (v := .int .i64 (k : Int)) (d := 22) rfl rfl (by kernel_rfl) (by kernel_rfl) (by kernel_rfl) (fun _ _ _ h => h) (by rfl) (fun V hV => by obtain ⟨v1, v2, v3⟩ := hV; go_simp) HSD.out ?_
        simp only [Act.put, List.setIfInBounds_toArray, List.set_cons_zero, List.set_cons_succ]
        refine takeH (i := 5) (v := .pointer (some ⟨rb, ro + k, none⟩)) (d := 23) rfl rfl (by kernel_rfl) (by kernel_rfl) (by kernel_rfl) (fun _ _ _ h => h) (by rfl) (fun V hV => by obtain ⟨v1, v2, v3⟩ := hV; go_simp) HSD.out ?_
        simp only [Act.put, List.setIfInBounds_toArray, List.set_cons_zero, List.set_cons_succ]
        refine takeH (i := 6) (v := .slice la l.length lc) (d := 24) rfl rfl (by kernel_rfl) (by kernel_rfl) (by kernel_rfl) (fun _ _ _ h => h) (by rfl) (fun V hV => by obtain ⟨v1, v2, v3⟩ := hV; go_simp) HSD.out ?_
        simp only [Act.put, List.setIfInBounds_toArray, List.set_cons_zero, List.set_cons_succ]
        refine oneH (i := 7) rfl (by kernel_rfl) rfl (call_gets (d := 25) (f := 24) (xs := #[.tmp 24]) (ats := #[50]) rfl rfl eo (vs := #[.slice la l.length lc]) (by simp [Act.eval]) (octets_any _ l _ (HP.out.below (Below.refl _ _).drew (Nat.le_refl _)) hll) ?_)
        intro v2 w2 h2
        obtain ⟨ho2, hb2⟩ := h2
        have C2 : Below wr.heap.size wr w2 := below_undrew hb2
        have HS2 : Hid (_ ∧ _ ∧ _) := KEEP.out w2 (Kept.of C2)
        refine ⟨HS2.out, ?_⟩
        simp only [Act.put, List.setIfInBounds_toArray, List.set_cons_zero, List.set_cons_succ]
        have A2 : Below wr.heap.size wr (w2.alloc (.cells #[v2] 50)) := C2.alloc C2.size _
        have HS3 : Hid (_ ∧ _ ∧ _) := KEEP.out (w2.alloc (.cells #[v2] 50)) (Kept.of A2)
        obtain ⟨ya2, yc2, rfl, _⟩ : ∃ ya2 yc2, v2 = .slice ya2 l.length yc2 ∧ True := by obtain ⟨x, y, e, _⟩ := reads_own ho2; exact ⟨x, y, e, trivial⟩
        refine oneH (i := 8) rfl (by kernel_rfl) rfl (op_run (d := 26) (v' := .slice (some ⟨w2.heap.size, 0, none⟩) 1 1) (w' := w2.alloc (.cells #[.slice ya2 l.length yc2] 50)) rfl (by go_simp) ⟨HS3.out, ?_⟩)
        simp only [Act.put, List.setIfInBounds_toArray, List.set_cons_zero, List.set_cons_succ]
        have OB2 : OwnBs (w2.alloc (.cells #[.slice ya2 l.length yc2] 50)) W0.heap.size u (rs.take k) := OB.out.kept (Kept.of (S := fun _ => False) A2) (fun _ _ h => h)
        obtain ⟨g, gc, w3, hrun, hob3, hg3, _⟩ := run_append_bs 23 W0.heap.size u (rs.take k) OB2 w2.heap.size (.slice ya2 l.length yc2) l (0, 0) (heap_alloc_new _ _) ((own_lower ho2 (by simp; omega)).alloc _) (by simp; omega) (by have := A2.size; omega)
        obtain ⟨us, hus⟩ := OB2.row
        have K3 : Kept (fun q => u.ownBlock = some q) wr w3 := (Kept.of (S := fun q => u.ownBlock = some q) A2).grown hg3 (fun q hq => .inl hq)
        have hub : ¬ (u.ownBlock = some b) := fun h => own_block hus h ((QX.below QR.out A2 (by have := QR.out.lt; omega))) (by decide) rfl
        have HS4 : Hid (_ ∧ _ ∧ _) := KEEP2.out w3 K3 hub (fun q hq => (own_geB hus hq).1)
        refine oneH (i := 9) rfl (by kernel_rfl) rfl (call_append (d := 27) (s := .tmp 19) (x := .tmp 26) (t := 23) rfl rfl (v := u) (v2 := .slice (some ⟨w2.heap.size, 0, none⟩) 1 1) (by simp [Act.eval]) (by simp [Act.eval]) hrun ⟨HS4.out, ?_⟩)
        simp only [Act.put, List.setIfInBounds_toArray, List.set_cons_zero, List.set_cons_succ]
        refine takeH (i := 10) (v := .pointer (some ⟨b, 2, none⟩)) (d := 28) rfl rfl (by kernel_rfl) (by kernel_rfl) (by kernel_rfl) (fun _ _ _ h => h) (by rfl) (fun V hV => by obtain ⟨v1, v2, v3⟩ := hV; go_simp) HS4.out ?_
        simp only [Act.put, List.setIfInBounds_toArray, List.set_cons_zero, List.set_cons_succ]
        refine wpAnyH_done (by kernel_rfl) ?_ _
        have Q3 : Hid (QX w3 b (.int .i64 n) (.slice ya lo.length yc) u) := QR.out.kept K3 hub
        have B3 : Hid (Below W0.heap.size W0 w3) := HB.out.trans (K3.below hsr (fun q hq => (own_geB hus hq).1))
        have M3 : Hid (w3.ownsRow W0.heap.size 27 2 (.slice ya lo.length yc) lo.length (lo.flatMap encM)) := K3.own OM.out (fun q hq h => by have h1 := own_apart OB2.row.choose_spec ((own_below OM.out A2 (Nat.le_refl _))) (by decide); rcases h1 with h1 | h1; (rw [h1] at h; cases h); exact h1 (h.trans hq.symm))
        have O3 : Hid (OwnBs w3 W0.heap.size (.slice (some ⟨g, 0, none⟩) ((rs.take k).length + 1) gc) (rs.take (k + 1))) := by show OwnBs _ _ _ _; rw [HT.out]; exact hob3
        clear hob3 hg3 hrun hus hub K3 OB2 HS2 HS3 HS4 ho2 hb2 C2 A2 OB OM HB QR KEEP KEEP2 HSD
        generalize (rs.take k).length + 1 = tl at *
        obtain ⟨z0, z1, z2, z3, z4, z5⟩ := Q3.out.all
        show Oper.wp _ _ _ _ _ _
        go_wp2_with fail
        go_roundw
        case rel => exact ⟨k + 1, _, by omega, by go_num, Q3.out.set2 _, O3.out.boxQ Q3.out, Q3.out.own M3.out (by decide), B3.out.setCell NL.out _⟩
        case measure => simp [intOf]; omega
      · have ek : rs.take k = rs := List.take_of_length_le (by omega)
        have OR : Hid (QuR wr (.slice ya lo.length yc) u lo rs) := ⟨MlR.ownd OM.out, by have := OB.out.reads; rwa [ek] at this⟩
        have PA : Hid (QX wr (w.heap.size + 1) (.int .i64 0) (.slice none 0 0) (.slice none 0 0)) := P1.out
        rw [ek] at hue OB
        subst hue
        obtain ⟨y0, y1, y2, y3, y4, y5⟩ := PA.out.all
        clear ek
        go_wp2_with fail
        have r := (PA.out.put (.int .i64 n) (.slice ya lo.length yc) (.slice ua rs.length uc)).cells
        unfold putQ at r
        obtain ⟨r0, r1, r2⟩ := r
        refine bodyPost_ret (v := .agg #[.int .i64 n, .slice ya lo.length yc, .slice ua rs.length uc]) (by simp [results, Try.results9, go_sem, r0, r1, r2]) rfl ⟨_, _, rfl, ⟨MlR.ownd (PA.out.ownPut OM.out (by decide)), (OwnBs.putQ PA.out OB.out).reads⟩, ?_⟩
        exact below_putQ (B0.out.trans (HB.out.mono (by omega))) (Nat.le_succ _) _ _ _
end Go.Proofs.Ytihghhmhgakkaaa

namespace Go.Proofs.Ytihghhmhgakkaaa
set_option maxRecDepth 100000
open Go.ChangeShapes Go.WideShapes Go.ChangeAt Go.RowKit

set_option maxHeartbeats 1000000 in
set_option maxRecDepth 100000 in
theorem sameList_yes (va vb : Value) (f : List (List Int)) (w : World) (ha : BsR w va f) (hb : BsR w vb f) (hby : ∀ l ∈ f, ∀ x ∈ l, 0 ≤ x ∧ x ≤ 255) :
    Calls Try.prog 35 #[va, vb] w fun e w' => e = .returned (.bool true) ∧ Below w.heap.size w w' := by
  have HA : Hid (BsR w va f) := ha
  have HB : Hid (BsR w vb f) := hb
  have HY : Hid (∀ l ∈ f, ∀ x ∈ l, 0 ≤ x ∧ x ≤ 255) := hby
  obtain ⟨a, ca, rfl, hca, hma, _⟩ := ha
  obtain ⟨b, cb, rfl, hcb, hmb, _⟩ := hb
  unfold maxLen at hma hmb
  have hll : ((f.length : Int) != (f.length : Int)) = false := by simp
  clear hby
  go_enter Try.func35, Try.ntmps35
  go_wp2_with fail
  go_loopw [5] (fun i wr => ∃ k : Nat, k ≤ f.length ∧ i = .int .i64 k ∧ Below w.heap.size w wr) (fun i _ => f.length - (intOf i).toNat)
  case atStart => exact ⟨0, by omega, rfl, Below.refl _ _⟩
  case round =>
    obtain ⟨k, hk, rfl, hbel⟩ := hrel
    have HBL : Hid (Below w.heap.size w wr) := hbel
    have hsr := hbel.size
    clear hbel
    by_cases hlt : k < f.length
    · obtain ⟨xa, oa, cap', e1, la, _, _, hva⟩ := (HA.out.below HBL.out (Nat.le_refl _)).at (by omega)
      injection e1 with e1 e2 e3
      subst e1 e3
      clear e2
      obtain ⟨xb, ob, cap', e1, lb, _, _, hvb⟩ := (HB.out.below HBL.out (Nat.le_refl _)).at (by omega)
      injection e1 with e1 e2 e3
      subst e1 e3
      clear e2
      obtain ⟨l, hl⟩ := getX hlt
      obtain ⟨u, hu, hur⟩ := hva k l hl
      obtain ⟨t, ht, htr⟩ := hvb k l hl
      have UR : Hid (Reads .u8 wr u l) := hur
      have TR : Hid (Reads .u8 wr t l) := htr
      have BY : Hid (∀ x ∈ l, 0 ≤ x ∧ x ≤ 255) := HY.out l (List.mem_of_getElem? hl)
      obtain ⟨ua, uc, rfl, _⟩ := id hur
      obtain ⟨ta, tc, rfl, _⟩ := id htr
      have p0 : (0 : Int) ≤ (k : Int) := by omega
      have p1 : (k : Int) < (f.length : Int) := by omega
      clear hva hvb hl hur htr
      go_wp2_with fail
      go_quiet ((go_at_call 49; exact Calls.quiet_of_same (sameBytes_any _ _ l l _ UR.out TR.out BY.out BY.out)))
      go_wp2_with fail
      go_roundw
      case rel => exact ⟨k + 1, by omega, by go_num, below_drewN HBL.out _⟩
      case measure => simp [intOf]; omega
    · go_wp2_with fail
      go_ret
      exact ⟨rfl, HBL.out⟩

set_option maxHeartbeats 1000000 in
set_option maxRecDepth 100000 in
theorem sameQueue_yes (n : Int) (vl vr xl xr : Value) (lo : List Ml) (rs : List (List Int)) (w : World) (ha : QuR w vl vr lo rs) (hb : QuR w xl xr lo rs) (hby : ∀ l ∈ rs, ∀ x ∈ l, 0 ≤ x ∧ x ≤ 255) :
    Calls Try.prog 12 #[.agg #[.int .i64 n, vl, vr], .agg #[.int .i64 n, xl, xr]] w fun e w' => e = .returned (.bool true) ∧ Below w.heap.size w w' := by
  have HA : Hid (QuR w vl vr lo rs) := ha
  have HB : Hid (QuR w xl xr lo rs) := hb
  have HY : Hid (∀ l ∈ rs, ∀ x ∈ l, 0 ≤ x ∧ x ≤ 255) := hby
  obtain ⟨a1, c1, rfl⟩ := ha.1.shape
  obtain ⟨a2, c2, rfl, _⟩ := id ha.2
  obtain ⟨a3, c3, rfl⟩ := hb.1.shape
  obtain ⟨a4, c4, rfl, _⟩ := id hb.2
  clear ha hb hby
  have hnn : (n == n) = true := by simp
  go_enter Try.func12, Try.ntmps12
  go_wp2_with fail
  have B0 : Below (w.heap.size + 2) ((w.alloc (.cells #[.int .i64 n, .slice a1 lo.length c1, .slice a2 rs.length c2] 25)).alloc (.cells #[.int .i64 n, .slice a3 lo.length c3, .slice a4 rs.length c4] 25)) ((w.alloc (.cells #[.int .i64 n, .slice a1 lo.length c1, .slice a2 rs.length c2] 25)).alloc (.cells #[.int .i64 n, .slice a3 lo.length c3, .slice a4 rs.length c4] 25)) := Below.refl _ _
  refine (sameMails_yes _ _ lo _ (HA.out.1.below (below_two B0) (Nat.le_refl _)) (HB.out.1.below (below_two B0) (Nat.le_refl _))).mono ?_
  rintro e w1 ⟨rfl, hb1⟩
  have hb1' : Below (w.heap.size + 2) ((w.alloc (.cells #[.int .i64 n, .slice a1 lo.length c1, .slice a2 rs.length c2] 25)).alloc (.cells #[.int .i64 n, .slice a3 lo.length c3, .slice a4 rs.length c4] 25)) w1 := by simpa using hb1
  have B1 : Hid (Below w.heap.size w w1) := below_two hb1'
  have hs1 := B1.out.size
  have Q1 : QX w1 w.heap.size (.int .i64 n) (.slice a1 lo.length c1) (.slice a2 rs.length c2) := ((QX.new w (.int .i64 n) (.slice a1 lo.length c1) (.slice a2 rs.length c2)).below (below_alloc _ _) (by simp)).below hb1' (by omega)
  have Q2 : QX w1 (w.heap.size + 1) (.int .i64 n) (.slice a3 lo.length c3) (.slice a4 rs.length c4) := by
    have h := QX.new (w.alloc (.cells #[.int .i64 n, .slice a1 lo.length c1, .slice a2 rs.length c2] 25)) (.int .i64 n) (.slice a3 lo.length c3) (.slice a4 rs.length c4)
    rw [show (w.alloc (.cells #[.int .i64 n, .slice a1 lo.length c1, .slice a2 rs.length c2] 25)).heap.size = w.heap.size + 1 by simp] at h
    exact h.below hb1' (by omega)
  obtain ⟨_, _, g2⟩ := Q1.cells
  obtain ⟨_, _, g4⟩ := Q2.cells
  clear hb1 hb1' B0 Q1 Q2
  go_wp2_with fail
  refine (sameList_yes _ _ rs _ (HA.out.2.below B1.out (Nat.le_refl _)) (HB.out.2.below B1.out (Nat.le_refl _)) HY.out).mono ?_
  rintro e w2 ⟨rfl, hb2⟩
  have B2 : Hid (Below w.heap.size w w2) := B1.out.trans (hb2.mono hs1)
  clear hb2
  go_wp2_with fail
  go_ret
  exact ⟨rfl, B2.out⟩
end Go.Proofs.Ytihghhmhgakkaaa
