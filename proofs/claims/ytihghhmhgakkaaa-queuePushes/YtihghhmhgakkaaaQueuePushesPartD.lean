/-
  Contract of the document's own Pushed.
  Contracts of the law's own mails, sameMails: copies, and what reads alike.
  Contract of octets: a copy of the bytes in memory of its own; nothing else is written.
  Contract of the law's own queues: a copy of a queue.
  Contracts of the law's own sameList and sameQueue: what reads alike.
-/
import Derived.Test.YtihghhmhgakkaaaQueuePushesPartB
import Derived.Test.YtihghhmhgakkaaaQueuePushesPartC
import Derived.Test.YtihghhmhgakkaaaMailLists
import Derived.Deep.QuietTactic
import Derived.BigQuiet
import Derived.Lib.QuietBelow
import Derived.Test.YtihghhmhgakkaaaSame
import Derived.Laws.AppendOwnNone
import Derived.Test.YtihghhmhgakkaaaQueuePushesPartA
import Derived.Shelf.Abstract

namespace Go.Proofs.Ytihghhmhgakkaaa
set_option maxRecDepth 100000
open Go.ChangeShapes Go.WideShapes Go.ChangeAt Go.RowKit

set_option maxHeartbeats 4000000 in
set_option maxRecDepth 100000 in
theorem refPushed_any (n : Int) (vl vr : Value) (lo : List Ml) (rs : List (List Int)) (m : Ml) (w : World) (h : QuR w vl vr lo rs) (hB : QuB lo rs) :
    Calls Try.prog 11 #[.agg #[.int .i64 n, vl, vr], .agg #[.int .i64 m.1, .int .i64 m.2]] w (PshP w n (looF n lo m) (rnsF n lo rs m) (pushE lo m (quF n lo rs))) := by
  have HR : Hid (QuR w vl vr lo rs) := h
  have HBd : Hid (QuB lo rs) := hB
  have HU : Hid (∀ X, QuR X vl vr lo rs → Calls Try.prog 30 #[.agg #[.int .i64 n, vl, vr]] X (QdP X lo (quF n lo rs))) := fun X hX => queued_any n vl vr lo rs X hX hB
  have HQ : Hid (∀ f, quF n lo rs = some f → 1 ≤ n ∧ n ≤ 1000 ∧ (lo.length : Int) < n ∧ rs.length ≤ 5000 ∧ mayA lo = true ∧ f.length = rs.length ∧ lo.length + sumM f ≤ 5000 ∧ ∀ l ∈ f, 1 ≤ l.length ∧ l.length ≤ 1000 ∧ mayA l = true ∧ srtMb l = true) := fun f hf => quF_inv hf
  have HMM : Hid (∀ X, Calls Try.prog 31 #[.agg #[.int .i64 m.1, .int .i64 m.2]] X fun e w' => e = .returned (.bool (mayM m)) ∧ Below X.heap.size X w') := fun X => mailMay_any m X
  obtain ⟨a, cap, rfl⟩ := h.1.shape
  obtain ⟨c, cap2, rfl, hc2, hm2, _⟩ := id h.2
  unfold maxLen at hm2
  clear h hB
  generalize quF n lo rs = o at *
  cases o with
  | none =>
    have HE : Hid (∀ w', Below w.heap.size w w' → PshP w n (looF n lo m) (rnsF n lo rs m) (pushE lo m none) (.returned (.tuple #[.agg #[.int .i64 0, .slice none 0 0, .slice none 0 0], .int .i64 9])) w') := fun w' hw => PshP.no (by show (9 : Int) ≠ 0; decide) hw
    generalize PshP w n (looF n lo m) (rnsF n lo rs m) (pushE lo m none) = P at *
    go_enter Try.func11, Try.ntmps11
    go_upto_region 1 with fail
    obtain ⟨Q0, T0, M0, B0, s1, s2⟩ := push_boxes w (.int .i64 n) (.slice a lo.length cap) (.slice c rs.length cap2) m _ rfl
    generalize ((w.alloc (.cells #[.int .i64 n, .slice a lo.length cap, .slice c rs.length cap2] 25)).alloc (.cells #[.int .i64 m.1, .int .i64 m.2] 27)).alloc (.cells #[.int .i64 0, .slice none 0 0, .slice none 0 0] 25) = W0 at *
    have T1 : Hid (QX W0 (w.heap.size + 2) (.int .i64 0) (.slice none 0 0) (.slice none 0 0)) := T0
    have BH : Hid (Below w.heap.size w W0) := B0
    obtain ⟨q0, q1, q2⟩ := Q0.cells
    clear Q0 T0 M0 B0
    go_wp2_with fail
    refine (HU.out _ (HR.out.below BH.out (Nat.le_refl _))).mono ?_
    rintro e w1 ⟨v1, rfl, ho, hb1⟩
    have T2 : Hid (QX w1 (w.heap.size + 2) (.int .i64 0) (.slice none 0 0) (.slice none 0 0)) := T1.out.below hb1 (by omega)
    have HX : Hid (P (.returned (.tuple #[.agg #[.int .i64 0, .slice none 0 0, .slice none 0 0], .int .i64 9])) (putQ w1 (w.heap.size + 2) (.int .i64 0) (.slice none 0 0) (.slice none 0 0))) := HE.out _ (below_putQ (BH.out.trans (hb1.mono (by omega))) (by omega) _ _ _)
    obtain ⟨t0, t1, t2, t3, t4, t5⟩ := T2.out.all
    clear hb1 ho HU
    rw [Option.isSome_none]
    go_wp2_with fail
    have r := (T2.out.put (.int .i64 0) (.slice none 0 0) (.slice none 0 0)).cells
    unfold putQ at r
    obtain ⟨r0, r1, r2⟩ := r
    exact bodyPost_ret (v := .tuple #[.agg #[.int .i64 0, .slice none 0 0, .slice none 0 0], .int .i64 9]) (by simp [results, Try.results11, go_sem, r0, r1, r2]) rfl HX.out
  | some f =>
    obtain ⟨h1, h2, h3, h4, h5, h6, h7, _⟩ := HQ.out f rfl
    have htl : (lo ++ f.flatten).length ≤ lo.length + sumM f := by rw [List.length_append, sumM_flat]; exact Nat.le_refl _
    have htg : lo.length + sumM f ≤ (lo ++ f.flatten).length := by rw [List.length_append, sumM_flat]; exact Nat.le_refl _
    clear h6 HQ
    cases hm : mayM m
    · have hpe : pushE lo m (some f) = 2 := by unfold pushE; rw [hm]; rfl
      rw [hm] at HMM
      have HE : Hid (∀ w', Below w.heap.size w w' → PshP w n (looF n lo m) (rnsF n lo rs m) (pushE lo m (some f)) (.returned (.tuple #[.agg #[.int .i64 0, .slice none 0 0, .slice none 0 0], .int .i64 2])) w') := fun w' hw => by rw [hpe]; exact PshP.no (by decide) hw
      generalize PshP w n (looF n lo m) (rnsF n lo rs m) (pushE lo m (some f)) = P at *
      clear hm hpe h7
      go_enter Try.func11, Try.ntmps11
      go_upto_region 1 with fail
      obtain ⟨Q0, T0, M0, B0, s1, s2⟩ := push_boxes w (.int .i64 n) (.slice a lo.length cap) (.slice c rs.length cap2) m _ rfl
      generalize ((w.alloc (.cells #[.int .i64 n, .slice a lo.length cap, .slice c rs.length cap2] 25)).alloc (.cells #[.int .i64 m.1, .int .i64 m.2] 27)).alloc (.cells #[.int .i64 0, .slice none 0 0, .slice none 0 0] 25) = W0 at *
      have T1 : Hid (QX W0 (w.heap.size + 2) (.int .i64 0) (.slice none 0 0) (.slice none 0 0)) := T0
      have Q1 : Hid (QX W0 w.heap.size (.int .i64 n) (.slice a lo.length cap) (.slice c rs.length cap2)) := Q0
      have M1 : Hid (W0.heap[w.heap.size + 1]? = some (.cells #[.int .i64 m.1, .int .i64 m.2] 27 (0, 0))) := M0
      have BH : Hid (Below w.heap.size w W0) := B0
      obtain ⟨q0, q1, q2⟩ := Q0.cells
      clear Q0 T0 M0 B0
      go_wp2_with fail
      refine (HU.out _ (HR.out.below BH.out (Nat.le_refl _))).mono ?_
      rintro e w1 ⟨v1, rfl, ho, hb1⟩
      have b1 : Below W0.heap.size W0 w1 := hb1
      have B1 : Hid (Below W0.heap.size W0 w1) := hb1
      have hs1 := hb1.size
      have HAL : Hid (MlR w1 v1 (lo ++ f.flatten)) := MlR.ownd ho
      obtain ⟨fa, fc, rfl⟩ := HAL.out.shape
      have mb : w1.heap[w.heap.size + 1]? = some (.cells #[.int .i64 m.1, .int .i64 m.2] 27 (0, 0)) := (b1.block _ (by omega)).trans M1.out
      have mc0 : w1.cell? ⟨w.heap.size + 1, 0, none⟩ = some (.int .i64 m.1) := boxQ_cells mb 0
      have mc1 : w1.cell? ⟨w.heap.size + 1, 1, none⟩ = some (.int .i64 m.2) := boxQ_cells mb 1
      clear hb1 ho HU b1 mb q0 q1 q2 HAL
      generalize (lo ++ f.flatten).length = tot at *
      rw [Option.isSome_some]
      go_wp2_with fail
      refine (HMM.out _).mono ?_
      rintro e w2 ⟨rfl, hb2⟩
      have B2 : Hid (Below W0.heap.size W0 w2) := B1.out.trans (hb2.mono hs1)
      have hs2 := B2.out.size
      have Q2 : Hid (QX w2 w.heap.size (.int .i64 n) (.slice a lo.length cap) (.slice c rs.length cap2)) := Q1.out.below B2.out (by omega)
      have T2 : Hid (QX w2 (w.heap.size + 2) (.int .i64 0) (.slice none 0 0) (.slice none 0 0)) := T1.out.below B2.out (by omega)
      have M2 : Hid (w2.heap[w.heap.size + 1]? = some (.cells #[.int .i64 m.1, .int .i64 m.2] 27 (0, 0))) := (B2.out.block _ (by omega)).trans M1.out
      clear hb2 mc0 mc1 Q1 T1 M1 B1
      have HX : Hid (P (.returned (.tuple #[.agg #[.int .i64 0, .slice none 0 0, .slice none 0 0], .int .i64 2])) (putQ w2 (w.heap.size + 2) (.int .i64 0) (.slice none 0 0) (.slice none 0 0))) := HE.out _ (below_putQ (BH.out.trans (B2.out.mono (by omega))) (by omega) _ _ _)
      obtain ⟨t0, t1, t2, t3, t4, t5⟩ := T2.out.all
      go_wp2_with fail
      have r := (T2.out.put (.int .i64 0) (.slice none 0 0) (.slice none 0 0)).cells
      unfold putQ at r
      obtain ⟨r0, r1, r2⟩ := r
      exact bodyPost_ret (v := .tuple #[.agg #[.int .i64 0, .slice none 0 0, .slice none 0 0], .int .i64 2]) (by simp [results, Try.results11, go_sem, r0, r1, r2]) rfl HX.out
    · rw [hm] at HMM
      by_cases hfull : lo.length + sumM f = 5000
      · have hpe : pushE lo m (some f) = 10 := by unfold pushE; rw [hm]; exact if_pos hfull
        have hte : (5000 : Int) ≤ ((lo ++ f.flatten).length : Int) := by omega
        have HE : Hid (∀ w', Below w.heap.size w w' → PshP w n (looF n lo m) (rnsF n lo rs m) (pushE lo m (some f)) (.returned (.tuple #[.agg #[.int .i64 0, .slice none 0 0, .slice none 0 0], .int .i64 10])) w') := fun w' hw => by rw [hpe]; exact PshP.no (by decide) hw
        generalize PshP w n (looF n lo m) (rnsF n lo rs m) (pushE lo m (some f)) = P at *
        clear hm hpe h7 hfull htl htg
        go_enter Try.func11, Try.ntmps11
        go_upto_region 1 with fail
        obtain ⟨Q0, T0, M0, B0, s1, s2⟩ := push_boxes w (.int .i64 n) (.slice a lo.length cap) (.slice c rs.length cap2) m _ rfl
        generalize ((w.alloc (.cells #[.int .i64 n, .slice a lo.length cap, .slice c rs.length cap2] 25)).alloc (.cells #[.int .i64 m.1, .int .i64 m.2] 27)).alloc (.cells #[.int .i64 0, .slice none 0 0, .slice none 0 0] 25) = W0 at *
        have T1 : Hid (QX W0 (w.heap.size + 2) (.int .i64 0) (.slice none 0 0) (.slice none 0 0)) := T0
        have Q1 : Hid (QX W0 w.heap.size (.int .i64 n) (.slice a lo.length cap) (.slice c rs.length cap2)) := Q0
        have M1 : Hid (W0.heap[w.heap.size + 1]? = some (.cells #[.int .i64 m.1, .int .i64 m.2] 27 (0, 0))) := M0
        have BH : Hid (Below w.heap.size w W0) := B0
        obtain ⟨q0, q1, q2⟩ := Q0.cells
        clear Q0 T0 M0 B0
        go_wp2_with fail
        refine (HU.out _ (HR.out.below BH.out (Nat.le_refl _))).mono ?_
        rintro e w1 ⟨v1, rfl, ho, hb1⟩
        have b1 : Below W0.heap.size W0 w1 := hb1
        have B1 : Hid (Below W0.heap.size W0 w1) := hb1
        have hs1 := hb1.size
        have HAL : Hid (MlR w1 v1 (lo ++ f.flatten)) := MlR.ownd ho
        obtain ⟨fa, fc, rfl⟩ := HAL.out.shape
        have mb : w1.heap[w.heap.size + 1]? = some (.cells #[.int .i64 m.1, .int .i64 m.2] 27 (0, 0)) := (b1.block _ (by omega)).trans M1.out
        have mc0 : w1.cell? ⟨w.heap.size + 1, 0, none⟩ = some (.int .i64 m.1) := boxQ_cells mb 0
        have mc1 : w1.cell? ⟨w.heap.size + 1, 1, none⟩ = some (.int .i64 m.2) := boxQ_cells mb 1
        clear hb1 ho HU b1 mb q0 q1 q2 HAL
        generalize (lo ++ f.flatten).length = tot at *
        rw [Option.isSome_some]
        go_wp2_with fail
        refine (HMM.out _).mono ?_
        rintro e w2 ⟨rfl, hb2⟩
        have B2 : Hid (Below W0.heap.size W0 w2) := B1.out.trans (hb2.mono hs1)
        have hs2 := B2.out.size
        have Q2 : Hid (QX w2 w.heap.size (.int .i64 n) (.slice a lo.length cap) (.slice c rs.length cap2)) := Q1.out.below B2.out (by omega)
        have T2 : Hid (QX w2 (w.heap.size + 2) (.int .i64 0) (.slice none 0 0) (.slice none 0 0)) := T1.out.below B2.out (by omega)
        have M2 : Hid (w2.heap[w.heap.size + 1]? = some (.cells #[.int .i64 m.1, .int .i64 m.2] 27 (0, 0))) := (B2.out.block _ (by omega)).trans M1.out
        clear hb2 mc0 mc1 Q1 T1 M1 B1
        have HX : Hid (P (.returned (.tuple #[.agg #[.int .i64 0, .slice none 0 0, .slice none 0 0], .int .i64 10])) (putQ w2 (w.heap.size + 2) (.int .i64 0) (.slice none 0 0) (.slice none 0 0))) := HE.out _ (below_putQ (BH.out.trans (B2.out.mono (by omega))) (by omega) _ _ _)
        obtain ⟨t0, t1, t2, t3, t4, t5⟩ := T2.out.all
        go_wp2_with fail
        have r := (T2.out.put (.int .i64 0) (.slice none 0 0) (.slice none 0 0)).cells
        unfold putQ at r
        obtain ⟨r0, r1, r2⟩ := r
        exact bodyPost_ret (v := .tuple #[.agg #[.int .i64 0, .slice none 0 0, .slice none 0 0], .int .i64 10]) (by simp [results, Try.results11, go_sem, r0, r1, r2]) rfl HX.out
      · have hpe : pushE lo m (some f) = 0 := by unfold pushE; rw [hm]; exact if_neg hfull
        have hte : ¬ (5000 : Int) ≤ ((lo ++ f.flatten).length : Int) := by omega
        have HMA : Hid (mayA (lo ++ [m]) = true) := by show _ = true; rw [mayA_app, h5, mayA_one, hm]; rfl
        have HE : Hid (∀ vl vr w', w'.ownsRow w.heap.size 27 2 vl (looF n lo m).length ((looF n lo m).flatMap encM) → OwnBs w' w.heap.size vr (rnsF n lo rs m) → Below w.heap.size w w' → PshP w n (looF n lo m) (rnsF n lo rs m) (pushE lo m (some f)) (.returned (.tuple #[.agg #[.int .i64 n, vl, vr], .int .i64 0])) w') := fun vl vr w' g1 g2 hw => by rw [hpe]; exact PshP.yes g1 g2 hw
        generalize PshP w n (looF n lo m) (rnsF n lo rs m) (pushE lo m (some f)) = P at *
        clear hm hpe h7 hfull htl htg h5
        go_enter Try.func11, Try.ntmps11
        go_upto_region 1 with fail
        obtain ⟨Q0, T0, M0, B0, s1, s2⟩ := push_boxes w (.int .i64 n) (.slice a lo.length cap) (.slice c rs.length cap2) m _ rfl
        generalize ((w.alloc (.cells #[.int .i64 n, .slice a lo.length cap, .slice c rs.length cap2] 25)).alloc (.cells #[.int .i64 m.1, .int .i64 m.2] 27)).alloc (.cells #[.int .i64 0, .slice none 0 0, .slice none 0 0] 25) = W0 at *
        have T1 : Hid (QX W0 (w.heap.size + 2) (.int .i64 0) (.slice none 0 0) (.slice none 0 0)) := T0
        have Q1 : Hid (QX W0 w.heap.size (.int .i64 n) (.slice a lo.length cap) (.slice c rs.length cap2)) := Q0
        have M1 : Hid (W0.heap[w.heap.size + 1]? = some (.cells #[.int .i64 m.1, .int .i64 m.2] 27 (0, 0))) := M0
        have BH : Hid (Below w.heap.size w W0) := B0
        obtain ⟨q0, q1, q2⟩ := Q0.cells
        clear Q0 T0 M0 B0
        go_wp2_with fail
        refine (HU.out _ (HR.out.below BH.out (Nat.le_refl _))).mono ?_
        rintro e w1 ⟨v1, rfl, ho, hb1⟩
        have b1 : Below W0.heap.size W0 w1 := hb1
        have B1 : Hid (Below W0.heap.size W0 w1) := hb1
        have hs1 := hb1.size
        have HAL : Hid (MlR w1 v1 (lo ++ f.flatten)) := MlR.ownd ho
        obtain ⟨fa, fc, rfl⟩ := HAL.out.shape
        have mb : w1.heap[w.heap.size + 1]? = some (.cells #[.int .i64 m.1, .int .i64 m.2] 27 (0, 0)) := (b1.block _ (by omega)).trans M1.out
        have mc0 : w1.cell? ⟨w.heap.size + 1, 0, none⟩ = some (.int .i64 m.1) := boxQ_cells mb 0
        have mc1 : w1.cell? ⟨w.heap.size + 1, 1, none⟩ = some (.int .i64 m.2) := boxQ_cells mb 1
        clear hb1 ho HU b1 mb q0 q1 q2 HAL
        generalize (lo ++ f.flatten).length = tot at *
        rw [Option.isSome_some]
        go_wp2_with fail
        refine (HMM.out _).mono ?_
        rintro e w2 ⟨rfl, hb2⟩
        have B2 : Hid (Below W0.heap.size W0 w2) := B1.out.trans (hb2.mono hs1)
        have hs2 := B2.out.size
        have Q2 : Hid (QX w2 w.heap.size (.int .i64 n) (.slice a lo.length cap) (.slice c rs.length cap2)) := Q1.out.below B2.out (by omega)
        have T2 : Hid (QX w2 (w.heap.size + 2) (.int .i64 0) (.slice none 0 0) (.slice none 0 0)) := T1.out.below B2.out (by omega)
        have M2 : Hid (w2.heap[w.heap.size + 1]? = some (.cells #[.int .i64 m.1, .int .i64 m.2] 27 (0, 0))) := (B2.out.block _ (by omega)).trans M1.out
        clear hb2 mc0 mc1 Q1 T1 M1 B1
        have R2 : Hid (QuR w2 (.slice a lo.length cap) (.slice c rs.length cap2) lo rs) := (HR.out.below BH.out (Nat.le_refl _)).below B2.out (Nat.le_refl _)
        obtain ⟨q0, q1, q2⟩ := Q2.out.cells
        have X3 : Hid (QX (w2.alloc (.cells #[.int .i64 n, .slice none 0 0, .slice none 0 0] 25)) w2.heap.size (.int .i64 n) (.slice none 0 0) (.slice none 0 0)) := QX.new _ _ _ _
        have B3 : Hid (Below w2.heap.size w2 (w2.alloc (.cells #[.int .i64 n, .slice none 0 0, .slice none 0 0] 25))) := below_alloc _ _
        go_upto_region 9 with fail
        generalize w2.alloc (.cells #[.int .i64 n, .slice none 0 0, .slice none 0 0] 25) = W3 at *
        clear q0 q1 q2
        go_wp2_with fail
        go_loopw [9] (fun i wr => ∃ (k : Nat) (u : Value), k ≤ rs.length ∧ i = .int .i64 k ∧ QX wr w2.heap.size (.int .i64 n) (.slice none 0 0) u ∧ OwnBs wr w2.heap.size u (rs.take k) ∧ Below w2.heap.size w2 wr) (fun i _ => rs.length - (intOf i).toNat)
        case atStart => exact ⟨0, _, by omega, rfl, X3.out, OwnBs.nil _ _, B3.out⟩
        case round =>
          obtain ⟨k, u, hk, rfl, hqx, hob, hbel⟩ := hrel
          have QR : Hid (QX wr w2.heap.size (.int .i64 n) (.slice none 0 0) u) := hqx
          have OB : Hid (OwnBs wr w2.heap.size u (rs.take k)) := hob
          have HB : Hid (Below w2.heap.size w2 wr) := hbel
          have hsr := hbel.size
          obtain ⟨q0, q1, q2⟩ := (Q2.out.below hbel (by omega)).cells
          obtain ⟨ua, uc, hue⟩ : ∃ a c, u = .slice a (rs.take k).length c := by obtain ⟨a, c, e, _⟩ := hob.reads; exact ⟨a, c, e⟩
          clear hqx hob hbel X3 B3
          by_cases hlt : k < rs.length
          · obtain ⟨rb, ro, cap', e1, lt, _, _, hv⟩ := (R2.out.2.below HB.out (Nat.le_refl _)).at (by omega)
            injection e1 with e1 e9 e3
            subst e1 e3
            clear e9
            obtain ⟨l, hl⟩ := getX hlt
            obtain ⟨t, ht, htr⟩ := hv k l hl
            have HP : Hid (Reads .u8 wr t l) := htr
            obtain ⟨la, lc, rfl, _⟩ := id htr
            have hll : l.length ≤ 140737488355328 := by have := (HBd.out.2.1 l (List.mem_of_getElem? hl)).2; omega
            have HT : Hid (rs.take (k + 1) = rs.take k ++ [l]) := take_snoc hl
            have p0 : (0 : Int) ≤ (k : Int) := by omega
            have p1 : (k : Int) < (rs.length : Int) := by omega
            have hlk : (rs.take k).length ≤ 5000 := by simp; omega
            clear hv hl htr
            generalize rs.take k = rk at *
            go_wp2_with fail
            refine (bytesOf_any _ l _ HP.out hll).mono ?_
            rintro e w3 ⟨v3, rfl, ho3, hb3⟩
            have X4 : Hid (QX w3 w2.heap.size (.int .i64 n) (.slice none 0 0) u) := QR.out.below hb3 QR.out.lt
            have O4 : Hid (OwnBs w3 w2.heap.size u rk) := OB.out.kept (Kept.of (S := fun _ => False) hb3) (fun _ _ h => h)
            have V4 : Hid (w3.ownsRow w2.heap.size 5 1 v3 l.length (l.map (Value.int .u8))) := own_lower ho3 hsr
            have B4 : Hid (Below w2.heap.size w2 w3) := HB.out.trans (hb3.mono hsr)
            have hs4 := B4.out.size
            obtain ⟨ya, yc, rfl⟩ : ∃ a c, v3 = .slice a l.length c := by obtain ⟨a, c, e, _⟩ := reads_own ho3; exact ⟨a, c, e⟩
            obtain ⟨x0, x1, x2, x3, x4, x5⟩ := X4.out.all
            have D4 : Hid (OwnBs (w3.alloc (.cells #[.slice ya l.length yc] 50)) w2.heap.size u rk) := O4.out.kept (Kept.of (S := fun _ => False) (below_alloc _ _)) (fun _ _ h => h)
            have Y4 : Hid (QX (w3.alloc (.cells #[.slice ya l.length yc] 50)) w2.heap.size (.int .i64 n) (.slice none 0 0) u) := X4.out.below (below_alloc _ _) X4.out.lt
            subst hue
            clear ho3 hb3 QR OB HB q0 q1 q2 ht O4
            go_wp2_with (at_builtin; refine wpList_append_bs rfl _ _ rfl w2.heap.size _ rk rfl D4.out w3.heap.size (.slice ya l.length yc) l rfl (0, 0) (heap_alloc_new _ _) (V4.out.alloc _) (by omega) (by simp; omega) ?_)
            intro g gc w5 hob5 hg5 _
            obtain ⟨us, hus⟩ := D4.out.row
            have X5 : Hid (QX w5 w2.heap.size (.int .i64 n) (.slice none 0 0) (.slice ua rk.length uc)) := Y4.out.grown hus (by decide) hg5
            have B5 : Hid (Below w2.heap.size w2 w5) := (B4.out.alloc hs4 _).grown hg5 (by simp; omega) (fun q hq => (own_geB hus hq).1)
            have O5 : Hid (OwnBs w5 w2.heap.size (.slice (some ⟨g, 0, none⟩) (rk.length + 1) gc) (rs.take (k + 1))) := by show OwnBs _ _ _ _; rw [HT.out]; exact hob5
            obtain ⟨y0, y1, y2, y3, y4, y5⟩ := X5.out.all
            clear hob5 hg5 hus x0 x1 x2 x3 x4 x5 X4 D4 Y4 V4 B4
            generalize rk.length + 1 = tl at *
            go_wp2_with fail
            go_roundw
            case rel => exact ⟨k + 1, _, by omega, by go_num, X5.out.set2 _, O5.out.boxQ X5.out, B5.out.setCell (Nat.le_refl _) _⟩
            case measure => simp [intOf]; omega
          · have ek : rs.take k = rs := List.take_of_length_le (by omega)
            rw [ek] at hue OB
            subst hue
            clear ek
            go_wp2_with fail
            go_loopw [11, 12] (fun x i ws => ∃ k : Nat, k ≤ lo.length ∧ i = .int .i64 k ∧ ws.ownsRow w2.heap.size 27 2 x (lo.take k).length ((lo.take k).flatMap encM) ∧ QX ws w2.heap.size (.int .i64 n) (.slice none 0 0) (.slice ua rs.length uc) ∧ OwnBs ws w2.heap.size (.slice ua rs.length uc) rs ∧ Below w2.heap.size w2 ws) (fun _ i _ => lo.length - (intOf i).toNat)
            case atStart => exact ⟨0, by omega, rfl, World.ownsRow_nil _ _ _ _, QR.out, OB.out, HB.out⟩
            case round =>
              obtain ⟨j, hj, rfl, hol, hqx, hob, hbel⟩ := hrel
              have OL : Hid (wr.ownsRow w2.heap.size 27 2 u11 (lo.take j).length ((lo.take j).flatMap encM)) := hol
              have QS : Hid (QX wr w2.heap.size (.int .i64 n) (.slice none 0 0) (.slice ua rs.length uc)) := hqx
              have OS : Hid (OwnBs wr w2.heap.size (.slice ua rs.length uc) rs) := hob
              have BS : Hid (Below w2.heap.size w2 wr) := hbel
              have hsS := hbel.size
              obtain ⟨q0, q1, q2⟩ := (Q2.out.below hbel (by omega)).cells
              obtain ⟨xa, xc, rfl⟩ := (MlR.ownd hol).shape
              clear hol hqx hob hbel
              by_cases hlt2 : j < lo.length
              · obtain ⟨b, off, cap9, e1, _, _, lt, hv⟩ := MlR.at (R2.out.1.below BS.out (Nat.le_refl _)) (by omega)
                injection e1 with e1 e9 e8
                subst e1 e8
                clear e9
                obtain ⟨x, hx⟩ := getX hlt2
                obtain ⟨c1, c2⟩ := hv j x hx
                have HT : Hid (lo.take (j + 1) = lo.take j ++ [x]) := take_snoc hx
                have hlk : (lo.take j).length ≤ 1000 := by simp; omega
                have p0 : (0 : Int) ≤ (j : Int) := by omega
                have p1 : (j : Int) < (lo.length : Int) := by omega
                have A5 : Hid (QX (wr.alloc (.cells #[.int .i64 x.1, .int .i64 x.2] 27)) w2.heap.size (.int .i64 n) (.slice none 0 0) (.slice ua rs.length uc)) := QS.out.below (below_alloc _ _) QS.out.lt
                have D5 : Hid (OwnBs (wr.alloc (.cells #[.int .i64 x.1, .int .i64 x.2] 27)) w2.heap.size (.slice ua rs.length uc) rs) := OS.out.kept (Kept.of (S := fun _ => False) (below_alloc _ _)) (fun _ _ h => h)
                clear hv hx
                generalize lo.take j = t at *
                go_wp2_with (at_builtin; refine wpList_append_newK kM rfl _ _ rfl w2.heap.size _ t rfl (OL.out.alloc _) wr.heap.size x rfl #[.int .i64 x.1, .int .i64 x.2] rfl (0, 0) (heap_alloc_new _ _) (by simp [kM]; omega) (by unfold maxLen; omega) (by simp; omega) ?_)
                intro g gc w6 hol6 hb6 hg6
                have L6 : Hid (w6.ownsRow w2.heap.size 27 2 (.slice (some ⟨g, 0, none⟩) (t.length + 1) gc) (lo.take (j + 1)).length ((lo.take (j + 1)).flatMap encM)) := by show World.ownsRow _ _ _ _ _ _ _; rw [HT.out]; simpa [kM] using hol6
                have X6 : Hid (QX w6 w2.heap.size (.int .i64 n) (.slice none 0 0) (.slice ua rs.length uc)) := A5.out.grown (OL.out.alloc _) (by decide) hg6
                have O6 : Hid (OwnBs w6 w2.heap.size (.slice ua rs.length uc) rs) := D5.out.past (OL.out.alloc _) (by decide) (by decide) hg6
                have B6 : Hid (Below w2.heap.size w2 w6) := (BS.out.alloc hsS _).trans hb6
                clear hol6 hb6 hg6 q0 q1 q2 c1 c2
                go_wp2_with fail
                go_roundw
                case rel => exact ⟨j + 1, by omega, by go_num, L6.out, X6.out, O6.out, B6.out⟩
                case measure => simp [intOf]; omega
              · have ek2 : lo.take j = lo := List.take_of_length_le (by omega)
                rw [ek2] at OL ⊢
                clear ek2
                have mb : wr.heap[w.heap.size + 1]? = some (.cells #[.int .i64 m.1, .int .i64 m.2] 27 (0, 0)) := (BS.out.block _ (by omega)).trans M2.out
                have mc0 : wr.cell? ⟨w.heap.size + 1, 0, none⟩ = some (.int .i64 m.1) := boxQ_cells mb 0
                have mc1 : wr.cell? ⟨w.heap.size + 1, 1, none⟩ = some (.int .i64 m.2) := boxQ_cells mb 1
                have A5 : Hid (QX (wr.alloc (.cells #[.int .i64 m.1, .int .i64 m.2] 27)) w2.heap.size (.int .i64 n) (.slice none 0 0) (.slice ua rs.length uc)) := QS.out.below (below_alloc _ _) QS.out.lt
                have D5 : Hid (OwnBs (wr.alloc (.cells #[.int .i64 m.1, .int .i64 m.2] 27)) w2.heap.size (.slice ua rs.length uc) rs) := OS.out.kept (Kept.of (S := fun _ => False) (below_alloc _ _)) (fun _ _ h => h)
                clear mb
                go_wp2_with (at_builtin; refine wpList_append_newK kM rfl _ _ rfl w2.heap.size _ lo rfl (OL.out.alloc _) wr.heap.size m rfl #[.int .i64 m.1, .int .i64 m.2] rfl (0, 0) (heap_alloc_new _ _) (by simp [kM]; omega) (by unfold maxLen; omega) (by simp; omega) ?_)
                intro g gc w6 hol6 hb6 hg6
                have L6 : Hid (w6.ownsRow w2.heap.size 27 2 (.slice (some ⟨g, 0, none⟩) (lo.length + 1) gc) (lo ++ [m]).length ((lo ++ [m]).flatMap encM)) := by show World.ownsRow _ _ _ _ _ _ _; simpa [kM] using hol6
                have X6 : Hid (QX w6 w2.heap.size (.int .i64 n) (.slice none 0 0) (.slice ua rs.length uc)) := A5.out.grown (OL.out.alloc _) (by decide) hg6
                have O6 : Hid (OwnBs w6 w2.heap.size (.slice ua rs.length uc) rs) := D5.out.past (OL.out.alloc _) (by decide) (by decide) hg6
                have B6 : Hid (Below w2.heap.size w2 w6) := (BS.out.alloc hsS _).trans hb6
                have T6 : Hid (QX w6 (w.heap.size + 2) (.int .i64 0) (.slice none 0 0) (.slice none 0 0)) := T2.out.below B6.out (by omega)
                have Z6 : Hid (Below w.heap.size w w6) := (BH.out.trans (B2.out.mono (by omega))).trans (B6.out.mono (by omega))
                have hs6 := B6.out.size
                have hl7 : lo.length + 1 ≤ 1000 := by omega
                obtain ⟨q0, q1, q2⟩ := (Q2.out.below B6.out (by omega)).cells
                obtain ⟨x0, x1, x2, x3, x4, x5⟩ := X6.out.all
                obtain ⟨t0, t1, t2, t3, t4, t5⟩ := T6.out.all
                clear hol6 hb6 hg6 mc0 mc1 OL QS OS BS A5 D5
                by_cases hbud : (lo.length : Int) + 1 = n
                · have heq : ¬ ((lo.length + 1 : Nat) : Int) < n := by omega
                  have EL : Hid (looF n lo m = []) := if_pos hbud
                  have ER : Hid (rnsF n lo rs m = rs ++ [runB (sortM (lo ++ [m]))]) := if_pos hbud
                  have hln : (lo ++ [m]).length ≤ 1000 := by simp; omega
                  have MR : Hid (MlR w6 (.slice (some ⟨g, 0, none⟩) (lo.length + 1) gc) (lo ++ [m])) := MlR.ownd L6.out
                  generalize lo.length + 1 = t9 at *
                  go_wp2_with fail
                  refine (refMails_any _ (lo ++ [m]) _ MR.out (by omega)).mono ?_
                  rintro e w7 ⟨v7, rfl, ho7, hb7⟩
                  have M7 : Hid (MlR w7 v7 (sortM (lo ++ [m]))) := MlR.ownd ho7
                  obtain ⟨za, zc, rfl⟩ := M7.out.shape
                  have B7 : Hid (Below w6.heap.size w6 w7) := hb7
                  have hs7 := hb7.size
                  have hsl : (sortM (lo ++ [m])).length ≤ 1000 := by rw [sortM_len]; exact hln
                  have hsm : mayA (sortM (lo ++ [m])) = true := by rw [mayA_perm (sortM_perm _)]; exact HMA.out
                  have hss : srtMb (sortM (lo ++ [m])) = true := (srtMb_iff _).2 (in_srtM (sortM_sorted _))
                  have HRB : Hid (∀ X, MlR X (.slice za (sortM (lo ++ [m])).length zc) (sortM (lo ++ [m])) → Calls Try.prog 33 #[.slice za (sortM (lo ++ [m])).length zc] X fun e w' => ∃ v', e = .returned v' ∧ w'.ownsRow X.heap.size 5 1 v' (runB (sortM (lo ++ [m]))).length ((runB (sortM (lo ++ [m]))).map (Value.int .u8)) ∧ Below X.heap.size X w') := fun X hX => runBytes_any _ _ X hX hsm hss hsl
                  clear ho7 hb7 hsm hss L6 MR hsl
                  generalize sortM (lo ++ [m]) = sl at *
                  generalize runB sl = rb at *
                  go_wp2_with fail
                  refine (HRB.out _ M7.out).mono ?_
                  rintro e w8 ⟨v8, rfl, ho8, hb8⟩
                  have b8 : Below w6.heap.size w6 w8 := B7.out.trans (hb8.mono hs7)
                  have X8 : Hid (QX w8 w2.heap.size (.int .i64 n) (.slice none 0 0) (.slice ua rs.length uc)) := X6.out.below b8 X6.out.lt
                  have O8 : Hid (OwnBs w8 w2.heap.size (.slice ua rs.length uc) rs) := O6.out.kept (Kept.of (S := fun _ => False) b8) (fun _ _ h => h)
                  have V8 : Hid (w8.ownsRow w2.heap.size 5 1 v8 rb.length (rb.map (Value.int .u8))) := own_lower ho8 (by omega)
                  have B8 : Hid (Below w2.heap.size w2 w8) := B6.out.trans (b8.mono hs6)
                  have hs8 := B8.out.size
                  obtain ⟨ya, yc, rfl⟩ : ∃ a c, v8 = .slice a rb.length c := by obtain ⟨a, c, e, _⟩ := reads_own ho8; exact ⟨a, c, e⟩
                  have D8 : Hid (OwnBs (w8.alloc (.cells #[.slice ya rb.length yc] 50)) w2.heap.size (.slice ua rs.length uc) rs) := O8.out.kept (Kept.of (S := fun _ => False) (below_alloc _ _)) (fun _ _ h => h)
                  have Y8 : Hid (QX (w8.alloc (.cells #[.slice ya rb.length yc] 50)) w2.heap.size (.int .i64 n) (.slice none 0 0) (.slice ua rs.length uc)) := X8.out.below (below_alloc _ _) X8.out.lt
                  clear ho8 hb8 b8 x0 x1 x2 x3 x4 x5 t0 t1 t2 t3 t4 t5 q0 q1 q2 HRB M7 X6 O6 B6 T6 Z6 B7 O8
                  obtain ⟨x0, x1, x2, x3, x4, x5⟩ := X8.out.all
                  go_wp2_with (at_builtin; refine wpList_append_bs rfl _ _ rfl w2.heap.size _ rs rfl D8.out w8.heap.size (.slice ya rb.length yc) rb rfl (0, 0) (heap_alloc_new _ _) (V8.out.alloc _) (by omega) (by simp; omega) ?_)
                  intro gg ggc w9 hob9 hg9 _
                  obtain ⟨us, hus⟩ := D8.out.row
                  have X9 : Hid (QX w9 w2.heap.size (.int .i64 n) (.slice none 0 0) (.slice ua rs.length uc)) := Y8.out.grown hus (by decide) hg9
                  have B9 : Hid (Below w2.heap.size w2 w9) := (B8.out.alloc hs8 _).grown hg9 (by simp; omega) (fun q hq => (own_geB hus hq).1)
                  have O9 : Hid (OwnBs w9 w2.heap.size (.slice (some ⟨gg, 0, none⟩) (rs.length + 1) ggc) (rs ++ [rb])) := hob9
                  have T9 : Hid (QX w9 (w.heap.size + 2) (.int .i64 0) (.slice none 0 0) (.slice none 0 0)) := T2.out.below B9.out (by omega)
                  have Z9 : Hid (Below w.heap.size w w9) := (BH.out.trans (B2.out.mono (by omega))).trans (B9.out.mono (by omega))
                  have hnt : w.heap.size + 2 ≠ w2.heap.size := by omega
                  have X10 : Hid (QX (w9.setCell ⟨w2.heap.size, 2, none⟩ (.slice (some ⟨gg, 0, none⟩) (rs.length + 1) ggc)) w2.heap.size (.int .i64 n) (.slice none 0 0) (.slice (some ⟨gg, 0, none⟩) (rs.length + 1) ggc)) := X9.out.set2 _
                  have T10 : Hid (QX (w9.setCell ⟨w2.heap.size, 2, none⟩ (.slice (some ⟨gg, 0, none⟩) (rs.length + 1) ggc)) (w.heap.size + 2) (.int .i64 0) (.slice none 0 0) (.slice none 0 0)) := T9.out.other hnt
                  have O10 : Hid (OwnBs (w9.setCell ⟨w2.heap.size, 2, none⟩ (.slice (some ⟨gg, 0, none⟩) (rs.length + 1) ggc)) w2.heap.size (.slice (some ⟨gg, 0, none⟩) (rs.length + 1) ggc) (rs ++ [rb])) := O9.out.boxQ X9.out
                  have Z10 : Hid (Below w.heap.size w (w9.setCell ⟨w2.heap.size, 2, none⟩ (.slice (some ⟨gg, 0, none⟩) (rs.length + 1) ggc))) := Z9.out.setCell (show w.heap.size ≤ w2.heap.size by omega) _
                  obtain ⟨y0, y1, y2, y3, y4, y5⟩ := X9.out.all
                  clear hob9 hg9 hus x0 x1 x2 x3 x4 x5 X8 D8 Y8 V8 B8 O9 T9 Z9 B9
                  generalize rs.length + 1 = rn at *
                  go_upto_region 25 with fail
                  clear y0 y1 y2 y3 y4 y5 X9
                  generalize w9.setCell ⟨w2.heap.size, 2, none⟩ (.slice (some ⟨gg, 0, none⟩) rn ggc) = WX at *
                  obtain ⟨x0, x1, x2, x3, x4, x5⟩ := X10.out.all
                  obtain ⟨t0, t1, t2, t3, t4, t5⟩ := T10.out.all
                  have HX : Hid (P (.returned (.tuple #[.agg #[.int .i64 n, .slice none 0 0, .slice (some ⟨gg, 0, none⟩) rn ggc], .int .i64 0])) (putQ WX (w.heap.size + 2) (.int .i64 n) (.slice none 0 0) (.slice (some ⟨gg, 0, none⟩) rn ggc))) := HE.out _ _ _ (by rw [EL.out]; exact World.ownsRow_nil _ _ _ _) (by rw [ER.out]; exact (OwnBs.putQ T10.out O10.out).lower (by omega)) (below_putQ Z10.out (by omega) _ _ _)
                  go_wp2_with fail
                  have r := (T10.out.put (.int .i64 n) (.slice none 0 0) (.slice (some ⟨gg, 0, none⟩) rn ggc)).cells
                  unfold putQ at r
                  obtain ⟨r0, r1, r2⟩ := r
                  exact bodyPost_ret (v := .tuple #[.agg #[.int .i64 n, .slice none 0 0, .slice (some ⟨gg, 0, none⟩) rn ggc], .int .i64 0]) (by simp [results, Try.results11, go_sem, r0, r1, r2]) rfl HX.out
                · have heq : ((lo.length + 1 : Nat) : Int) < n := by omega
                  have hnt : w.heap.size + 2 ≠ w2.heap.size := by omega
                  have X7 : Hid (QX (w6.setCell ⟨w2.heap.size, 1, none⟩ (.slice (some ⟨g, 0, none⟩) (lo.length + 1) gc)) w2.heap.size (.int .i64 n) (.slice (some ⟨g, 0, none⟩) (lo.length + 1) gc) (.slice ua rs.length uc)) := X6.out.set1 _
                  have L7 : Hid ((w6.setCell ⟨w2.heap.size, 1, none⟩ (.slice (some ⟨g, 0, none⟩) (lo.length + 1) gc)).ownsRow w2.heap.size 27 2 (.slice (some ⟨g, 0, none⟩) (lo.length + 1) gc) (lo ++ [m]).length ((lo ++ [m]).flatMap encM)) := X6.out.own L6.out (by decide)
                  have O7 : Hid (OwnBs (w6.setCell ⟨w2.heap.size, 1, none⟩ (.slice (some ⟨g, 0, none⟩) (lo.length + 1) gc)) w2.heap.size (.slice ua rs.length uc) rs) := O6.out.boxQ X6.out
                  have T7 : Hid (QX (w6.setCell ⟨w2.heap.size, 1, none⟩ (.slice (some ⟨g, 0, none⟩) (lo.length + 1) gc)) (w.heap.size + 2) (.int .i64 0) (.slice none 0 0) (.slice none 0 0)) := T6.out.other hnt
                  have Z7 : Hid (Below w.heap.size w (w6.setCell ⟨w2.heap.size, 1, none⟩ (.slice (some ⟨g, 0, none⟩) (lo.length + 1) gc))) := Z6.out.setCell (show w.heap.size ≤ w2.heap.size by omega) _
                  generalize lo.length + 1 = t9 at *
                  go_upto_region 22 with fail
                  clear x0 x1 x2 x3 x4 x5 t0 t1 t2 t3 t4 t5 q0 q1 q2 X6 T6 Z6 L6 O6 B6
                  generalize w6.setCell ⟨w2.heap.size, 1, none⟩ (.slice (some ⟨g, 0, none⟩) t9 gc) = W7 at *
                  obtain ⟨x0, x1, x2, x3, x4, x5⟩ := X7.out.all
                  obtain ⟨t0, t1, t2, t3, t4, t5⟩ := T7.out.all
                  have HX : Hid (P (.returned (.tuple #[.agg #[.int .i64 n, .slice (some ⟨g, 0, none⟩) t9 gc, .slice ua rs.length uc], .int .i64 0])) (putQ W7 (w.heap.size + 2) (.int .i64 n) (.slice (some ⟨g, 0, none⟩) t9 gc) (.slice ua rs.length uc))) := HE.out _ _ _ (by rw [show looF n lo m = lo ++ [m] from if_neg hbud]; exact own_lower (T7.out.ownPut L7.out (by decide)) (by omega)) (by rw [show rnsF n lo rs m = rs from if_neg hbud]; exact (OwnBs.putQ T7.out O7.out).lower (by omega)) (below_putQ Z7.out (by omega) _ _ _)
                  go_wp2_with fail
                  have r := (T7.out.put (.int .i64 n) (.slice (some ⟨g, 0, none⟩) t9 gc) (.slice ua rs.length uc)).cells
                  unfold putQ at r
                  obtain ⟨r0, r1, r2⟩ := r
                  exact bodyPost_ret (v := .tuple #[.agg #[.int .i64 n, .slice (some ⟨g, 0, none⟩) t9 gc, .slice ua rs.length uc], .int .i64 0]) (by simp [results, Try.results11, go_sem, r0, r1, r2]) rfl HX.out
end Go.Proofs.Ytihghhmhgakkaaa

namespace Go.Proofs.Ytihghhmhgakkaaa
set_option maxRecDepth 100000
open Go.ChangeShapes Go.WideShapes Go.ChangeAt Go.RowKit Go.Sort

set_option maxHeartbeats 1000000 in
set_option maxRecDepth 100000 in
theorem sameMails_yes (va vb : Value) (es : List Ml) (w : World) (ha : MlR w va es) (hb : MlR w vb es) :
    Calls Try.prog 15 #[va, vb] w fun e w' => e = .returned (.bool true) ∧ Below w.heap.size w w' := by
  have HA : Hid (MlR w va es) := ha
  have HB : Hid (MlR w vb es) := hb
  obtain ⟨a, ca, rfl, hca, hma, _, _⟩ := ha
  obtain ⟨b, cb, rfl, hcb, hmb, _, _⟩ := hb
  unfold maxLen at hma hmb
  have hll : ((es.length : Int) != (es.length : Int)) = false := by simp
  go_enter Try.func15, Try.ntmps15
  go_wp2_with fail
  go_loopw [5] (fun i wr => ∃ k : Nat, k ≤ es.length ∧ i = .int .i64 k ∧ Below w.heap.size w wr) (fun i _ => es.length - (intOf i).toNat)
  case atStart => exact ⟨0, by omega, rfl, Below.refl _ _⟩
  case round =>
    obtain ⟨k, hk, rfl, hbel⟩ := hrel
    have HBL : Hid (Below w.heap.size w wr) := hbel
    clear hbel
    by_cases hlt : k < es.length
    · obtain ⟨xa, oa, cap', e1, _, _, la, hva⟩ := MlR.at (HA.out.below HBL.out (Nat.le_refl _)) (by omega)
      injection e1 with e1 _ e3
      subst e1 e3
      obtain ⟨xb, ob, cap', e1, _, _, lb, hvb⟩ := MlR.at (HB.out.below HBL.out (Nat.le_refl _)) (by omega)
      injection e1 with e1 _ e3
      subst e1 e3
      obtain ⟨x, hx⟩ := getX hlt
      have p0 : (0 : Int) ≤ (k : Int) := by omega
      have p1 : (k : Int) < (es.length : Int) := by omega
      obtain ⟨c1, c2⟩ := hva k x hx
      obtain ⟨d1, d2⟩ := hvb k x hx
      obtain ⟨xt, xc⟩ := x
      simp only at c1 c2 d1 d2
      clear hva hvb hx
      go_wp2_with fail
      go_quiet (fail)
      go_wp2_with fail
      go_roundw
      case rel => exact ⟨k + 1, by omega, by go_num, below_drewN HBL.out _⟩
      case measure => simp [intOf]; omega
    · go_wp2_with fail
      go_ret
      exact ⟨rfl, HBL.out⟩


set_option maxHeartbeats 1000000 in
theorem mails_any (v : Value) (es : List Ml) (w : World) (h : MlR w v es) (hl : es.length * 16 ≤ 140737488351232) :
    Calls Try.prog 23 #[v] w fun e w' => ∃ v', e = .returned v' ∧ w'.ownsRow w.heap.size 27 2 v' es.length (es.flatMap encM) ∧ Below w.heap.size w w' := by
  have HR : Hid (MlR w v es) := h
  obtain ⟨a, cap, rfl, hc, hm, _, _⟩ := h
  unfold maxLen at hm
  go_enter Try.func23, Try.ntmps23
  go_wp2_with (at_builtin; refine wpList_append_rowK kM rfl _ _ rfl w.heap.size _ ([] : List Ml) rfl (World.ownsRow_nil _ _ _ _) _ es rfl HR.out ?d1 ?d2 (Nat.le_refl _) ?_)
  case d1 => simp [kM]; omega
  case d2 => simp [maxLen]; omega
  intro v' w' hown hb _
  have OW : Hid (w'.ownsRow w.heap.size 27 2 v' es.length (es.flatMap encM)) := by
    show World.ownsRow _ _ _ _ _ _ _
    simpa [kM] using hown
  have HB : Hid (Below w.heap.size w w') := hb
  clear hown hb
  go_wp2_with fail
  go_ret
  exact ⟨_, rfl, OW.out, HB.out⟩
end Go.Proofs.Ytihghhmhgakkaaa

namespace Go.Proofs.Ytihghhmhgakkaaa
set_option maxRecDepth 100000
open Go.ChangeShapes Go.WideShapes Go.ChangeAt Go.RowKit

set_option maxHeartbeats 400000 in
theorem octets_any (v : Value) (xs : List Int) (w : World) (h : Reads .u8 w v xs) (hl : xs.length ≤ 140737488355328) :
    Calls Try.prog 24 #[v] w fun e w' =>
      ∃ v', e = .returned v' ∧ w'.ownsRow w.heap.size 5 1 v' xs.length (xs.map (Value.int .u8)) ∧ Below w.heap.size w w' := by
  obtain ⟨i0, hi, hz0, hz1, hz2⟩ := info_parts Try.info5
  obtain ⟨a, cap, rfl, hc, hm, ha, hcell⟩ := h
  cases a with
  | none =>
    have hcap := ha rfl
    have : xs = [] := List.eq_nil_of_length_eq_zero (by omega)
    subst this
    subst hcap
    clear hcell ha
    go_enter Try.func24, Try.ntmps24
    go_wp2_with (at_builtin; refine wpList_append_own_none rfl _ _ 50 rfl w.heap.size 5 i0 1 Try.underlying50 hi _ 0 [] rfl (World.ownsRow_nil _ _ _ _) rfl ?_)
    go_ret
    exact ⟨_, rfl, World.ownsRow_nil _ _ _ _, Below.refl _ _⟩
  | some x =>
    have HN : Hid (∀ (j : Nat) (u : Value), (xs.map (Value.int IntKind.u8))[j]? = some u → w.cell? (x.add j) = some u) := fun j u hj => by
      obtain ⟨hj1, rfl⟩ := getD_map hj
      exact hcell x rfl j hj1
    clear hcell ha
    go_enter Try.func24, Try.ntmps24
    go_wp2_with (at_builtin; refine wpList_append_own _ rfl _ _ 50 rfl w.heap.size 5 i0 (.int .u8 0) 1 1 Try.underlying50 hi hz0 hz1 hz2 rfl (by decide) _ 0 [] rfl (World.ownsRow_nil _ _ _ _) x xs.length cap (xs.map (Value.int .u8)) rfl (by simp) HN.out (bytes_oneCell _) ?d3 ?d4 ?d5 ?_)
    case d3 => unfold maxLen; simp; omega
    case d4 => simp; omega
    case d5 => exact Nat.le_refl _
    intro v' w1 hown' hgrow _
    have hbel : Below w.heap.size w w1 := (Below.refl _ _).grown hgrow (Nat.le_refl _) (fun k hk => by simp [Value.ownBlock] at hk)
    clear HN
    go_wp2
    go_ret
    exact ⟨v', rfl, by simpa using hown', hbel⟩
end Go.Proofs.Ytihghhmhgakkaaa

namespace Go.Proofs.Ytihghhmhgakkaaa
set_option maxRecDepth 100000
open Go.ChangeShapes Go.WideShapes Go.ChangeAt Go.RowKit

set_option maxHeartbeats 1000000 in
set_option maxRecDepth 100000 in
theorem queues_any (n : Int) (vl vr : Value) (lo : List Ml) (rs : List (List Int)) (w : World) (h : QuR w vl vr lo rs) (hB : QuB lo rs) :
    Calls Try.prog 9 #[.agg #[.int .i64 n, vl, vr]] w fun e w' => ∃ xl xr, e = .returned (.agg #[.int .i64 n, xl, xr]) ∧ QuR w' xl xr lo rs ∧ Below w.heap.size w w' := by
  have HR : Hid (QuR w vl vr lo rs) := h
  obtain ⟨a, cap, rfl⟩ := h.1.shape
  obtain ⟨c, cap2, rfl, hc2, hm2, _⟩ := id h.2
  have hl1 : lo.length * 16 ≤ 140737488351232 := hB.1.2
  have hl2 : rs.length * 24 ≤ 140737488351232 := hB.2.2
  have HL : Hid (∀ l ∈ rs, l.length ≤ 140737488351232) := fun l hl => (hB.2.1 l hl).2
  clear h hB
  go_enter Try.func9, Try.ntmps9
  go_wp2_with fail
  have Q0 : QX ((w.alloc (.cells #[.int .i64 n, .slice a lo.length cap, .slice c rs.length cap2] 25)).alloc (.cells #[.int .i64 0, .slice none 0 0, .slice none 0 0] 25)) w.heap.size (.int .i64 n) (.slice a lo.length cap) (.slice c rs.length cap2) := (QX.new w (.int .i64 n) (.slice a lo.length cap) (.slice c rs.length cap2)).below (below_alloc _ _) (by simp)
  have P0 : QX ((w.alloc (.cells #[.int .i64 n, .slice a lo.length cap, .slice c rs.length cap2] 25)).alloc (.cells #[.int .i64 0, .slice none 0 0, .slice none 0 0] 25)) (w.heap.size + 1) (.int .i64 0) (.slice none 0 0) (.slice none 0 0) := by
    have h := QX.new (w.alloc (.cells #[.int .i64 n, .slice a lo.length cap, .slice c rs.length cap2] 25)) (.int .i64 0) (.slice none 0 0) (.slice none 0 0)
    rwa [show (w.alloc (.cells #[.int .i64 n, .slice a lo.length cap, .slice c rs.length cap2] 25)).heap.size = w.heap.size + 1 by simp] at h
  have B0 : Hid (Below w.heap.size w ((w.alloc (.cells #[.int .i64 n, .slice a lo.length cap, .slice c rs.length cap2] 25)).alloc (.cells #[.int .i64 0, .slice none 0 0, .slice none 0 0] 25))) := (below_alloc _ _).alloc (by simp) _
  generalize (w.alloc (.cells #[.int .i64 n, .slice a lo.length cap, .slice c rs.length cap2] 25)).alloc (.cells #[.int .i64 0, .slice none 0 0, .slice none 0 0] 25) = W0 at *
  have hs0 := P0.lt
  have R0 : Hid (QuR W0 (.slice a lo.length cap) (.slice c rs.length cap2) lo rs) := HR.out.below B0.out (Nat.le_refl _)
  have QQ : Hid (QX W0 w.heap.size (.int .i64 n) (.slice a lo.length cap) (.slice c rs.length cap2)) := Q0
  have PP : Hid (QX W0 (w.heap.size + 1) (.int .i64 0) (.slice none 0 0) (.slice none 0 0)) := P0
  have KEEP : Hid (∀ V, Below W0.heap.size W0 V → V.cell? ⟨w.heap.size, 0, none⟩ = some (.int .i64 n) ∧ V.cell? ⟨w.heap.size, 1, none⟩ = some (.slice a lo.length cap) ∧ V.cell? ⟨w.heap.size, 2, none⟩ = some (.slice c rs.length cap2)) := fun V hV => (Q0.below hV (by omega)).cells
  obtain ⟨q0, q1, q2⟩ := Q0.cells
  clear Q0 P0 HR
  have em : ∀ args w, (callFunc 23 args).run Try.prog w = .ok (.enter 23 args) w := enters_of Try.func23 (by kernel_rfl) rfl
  have HSD : Hid (_ ∧ _ ∧ _) := KEEP.out W0.drew (Below.refl _ _).drew
  clear q0 q1 q2
  apply Hid.cut
  case h =>
    intro HG
    refine region_lastF (S := fun V => V.cell? ⟨w.heap.size, 0, none⟩ = some (.int .i64 n) ∧ V.cell? ⟨w.heap.size, 1, none⟩ = some (.slice a lo.length cap) ∧ V.cell? ⟨w.heap.size, 2, none⟩ = some (.slice c rs.length cap2)) (by kernel_rfl) rfl (by kernel_rfl) (by kernel_rfl) ?_
    simp only [List.pop_toArray, List.dropLast_cons_cons, List.dropLast_singleton, List.size_toArray, List.length_cons, List.length_nil, Nat.reduceAdd]
    refine takeH (i := 0) (v := .pointer (some ⟨w.heap.size, 0, none⟩)) (d := 5) rfl rfl (by kernel_rfl) (by kernel_rfl) (by kernel_rfl) (fun _ _ _ h => h) (by rfl) (fun V hV => by obtain ⟨v1, v2, v3⟩ := hV; go_simp) HSD.out ?_
    simp only [Act.put, List.setIfInBounds_toArray, List.set_cons_zero, List.set_cons_succ]
    refine takeH (i := 1) (v := .int .i64 n) (d := 6) rfl rfl (by kernel_rfl) (by kernel_rfl) (by kernel_rfl) (fun _ _ _ h => h) (by rfl) (fun V hV => by obtain ⟨v1, v2, v3⟩ := hV; go_simp) HSD.out ?_
    simp only [Act.put, List.setIfInBounds_toArray, List.set_cons_zero, List.set_cons_succ]
    refine takeH (i := 2) (v := .pointer (some ⟨w.heap.size, 1, none⟩)) (d := 7) rfl rfl (by kernel_rfl) (by kernel_rfl) (by kernel_rfl) (fun _ _ _ h => h) (by rfl) (fun V hV => by obtain ⟨v1, v2, v3⟩ := hV; go_simp) HSD.out ?_
    simp only [Act.put, List.setIfInBounds_toArray, List.set_cons_zero, List.set_cons_succ]
    refine takeH (i := 3) (v := .slice a lo.length cap) (d := 8) rfl rfl (by kernel_rfl) (by kernel_rfl) (by kernel_rfl) (fun _ _ _ h => h) (by rfl) (fun V hV => by obtain ⟨v1, v2, v3⟩ := hV; go_simp) HSD.out ?_
    simp only [Act.put, List.setIfInBounds_toArray, List.set_cons_zero, List.set_cons_succ]
    refine twoH (i := 4) (j := 6) rfl rfl (by kernel_rfl) rfl rfl (call_gets (d := 9) (f := 23) (xs := #[.tmp 8]) (ats := #[22]) rfl rfl em (vs := #[.slice a lo.length cap]) (by simp [Act.eval]) (mails_any _ lo _ (R0.out.1.below (Below.refl _ _).drew (Nat.le_refl _)) hl1) ?_) ?_
    · intro v2 w2 h2
      obtain ⟨ho2, hb2⟩ := h2
      have C2 : Below W0.heap.size W0 w2 := below_undrew hb2
      have HS2 : Hid (_ ∧ _ ∧ _) := KEEP.out w2 C2
      have HS3 : Hid (_ ∧ _ ∧ _) := KEEP.out (w2.alloc (.cells #[.int .i64 0, .slice none 0 0, .slice none 0 0] 25)) (C2.alloc C2.size _)
      obtain ⟨ya, yc, rfl⟩ := (MlR.ownd ho2).shape
      refine ⟨HS2.out, ?_⟩
      simp only [Act.put, List.setIfInBounds_toArray, List.set_cons_zero, List.set_cons_succ]
      refine takeH (i := 5) (v := .agg #[.int .i64 n, .slice ya lo.length yc, .slice none 0 0]) (d := 10) rfl rfl (by kernel_rfl) (by kernel_rfl) (by kernel_rfl) (fun _ _ _ h => h) (by rfl) (fun V hV => by obtain ⟨v1, v2, v3⟩ := hV; go_simp) HS2.out ?_
      simp only [Act.put, List.setIfInBounds_toArray, List.set_cons_zero, List.set_cons_succ]
      refine oneH (i := 6) rfl (by kernel_rfl) rfl (op_run (d := 3) (v' := .pointer (some ⟨w2.heap.size, 0, none⟩)) (w' := w2.alloc (.cells #[.int .i64 0, .slice none 0 0, .slice none 0 0] 25)) rfl (by go_simp) ⟨HS3.out, ?_⟩)
      simp only [Act.put, List.setIfInBounds_toArray, List.set_cons_zero, List.set_cons_succ]
      refine wpAnyH_done (by kernel_rfl) ?_ _
      have NX : Hid (QX (w2.alloc (.cells #[.int .i64 0, .slice none 0 0, .slice none 0 0] 25)) w2.heap.size (.int .i64 0) (.slice none 0 0) (.slice none 0 0)) := QX.new _ _ _ _
      have NM : Hid ((w2.alloc (.cells #[.int .i64 0, .slice none 0 0, .slice none 0 0] 25)).ownsRow W0.heap.size 27 2 (.slice ya lo.length yc) lo.length (lo.flatMap encM)) := (own_lower ho2 (by simp)).alloc _
      have NB : Hid (Below W0.heap.size W0 (w2.alloc (.cells #[.int .i64 0, .slice none 0 0, .slice none 0 0] 25))) := C2.alloc C2.size _
      have NL : Hid (W0.heap.size ≤ w2.heap.size) := C2.size
      obtain ⟨n0, n1, n2, n3, n4, n5⟩ := NX.out.all
      generalize w2.alloc (.cells #[.int .i64 0, .slice none 0 0, .slice none 0 0] 25) = V at *
      generalize w2.heap.size = b at *
      clear HS2 HS3 ho2 hb2 C2
      show Oper.wp _ _ _ _ _ _
      refine op_skip (w' := putQ V b (.int .i64 n) (.slice ya lo.length yc) (.slice none 0 0)) rfl (by unfold putQ; go_simp) ?_
      have FX : Hid (QX (putQ V b (.int .i64 n) (.slice ya lo.length yc) (.slice none 0 0)) b (.int .i64 n) (.slice ya lo.length yc) (.slice none 0 0)) := NX.out.put _ _ _
      have FM : Hid ((putQ V b (.int .i64 n) (.slice ya lo.length yc) (.slice none 0 0)).ownsRow W0.heap.size 27 2 (.slice ya lo.length yc) lo.length (lo.flatMap encM)) := NX.out.ownPut NM.out (by decide)
      have FB : Hid (Below W0.heap.size W0 (putQ V b (.int .i64 n) (.slice ya lo.length yc) (.slice none 0 0))) := below_putQ NB.out NL.out _ _ _
      clear n0 n1 n2 n3 n4 n5 NX NM NB
      generalize putQ V b (.int .i64 n) (.slice ya lo.length yc) (.slice none 0 0) = X at *
      clear V
      revert NL FB FM FX
      revert X
      revert b
      revert yc
      revert ya
      exact HG.out
    · have HS4 : Hid (_ ∧ _ ∧ _) := KEEP.out (W0.drew.alloc (.cells #[.int .i64 0, .slice none 0 0, .slice none 0 0] 25)) ((Below.refl _ _).drew.alloc (by simp) _)
      refine op_run (d := 3) (v' := .pointer (some ⟨W0.heap.size, 0, none⟩)) (w' := W0.drew.alloc (.cells #[.int .i64 0, .slice none 0 0, .slice none 0 0] 25)) rfl (by go_simp) ⟨HS4.out, ?_⟩
      simp only [Act.put, List.setIfInBounds_toArray, List.set_cons_zero, List.set_cons_succ]
      refine oneH (i := 4) rfl (by kernel_rfl) rfl (call_gets (d := 9) (f := 23) (xs := #[.tmp 8]) (ats := #[22]) rfl rfl em (vs := #[.slice a lo.length cap]) (by simp [Act.eval]) (mails_any _ lo _ (R0.out.1.below ((Below.refl _ _).drew.alloc (by simp) _) (Nat.le_refl _)) hl1) ?_)
      intro v2 w2 h2
      obtain ⟨ho2, hb2⟩ := h2
      have C2 : Below W0.heap.size W0 w2 := ((Below.refl _ _).drew.alloc (by simp) _).trans (hb2.mono (by simp))
      have HS2 : Hid (_ ∧ _ ∧ _) := KEEP.out w2 C2
      obtain ⟨ya, yc, rfl⟩ := (MlR.ownd ho2).shape
      refine ⟨HS2.out, ?_⟩
      simp only [Act.put, List.setIfInBounds_toArray, List.set_cons_zero, List.set_cons_succ]
      refine takeH (i := 5) (v := .agg #[.int .i64 n, .slice ya lo.length yc, .slice none 0 0]) (d := 10) rfl rfl (by kernel_rfl) (by kernel_rfl) (by kernel_rfl) (fun _ _ _ h => h) (by rfl) (fun V hV => by obtain ⟨v1, v2, v3⟩ := hV; go_simp) HS2.out ?_
      simp only [Act.put, List.setIfInBounds_toArray, List.set_cons_zero, List.set_cons_succ]
      refine wpAnyH_done (by kernel_rfl) ?_ _
      have NX : Hid (QX w2 W0.heap.size (.int .i64 0) (.slice none 0 0) (.slice none 0 0)) := newQ hb2
      have NM : Hid (w2.ownsRow W0.heap.size 27 2 (.slice ya lo.length yc) lo.length (lo.flatMap encM)) := own_lower ho2 (by simp)
      have NB : Hid (Below W0.heap.size W0 w2) := C2
      obtain ⟨b, hbe⟩ : ∃ b, W0.heap.size = b := ⟨_, rfl⟩
      have NL : Hid (W0.heap.size ≤ b) := Nat.le_of_eq hbe
      rw [hbe] at NX ⊢
      clear hbe HS2 HS4 ho2 hb2 C2
      obtain ⟨n0, n1, n2, n3, n4, n5⟩ := NX.out.all
      show Oper.wp _ _ _ _ _ _
      refine op_skip (w' := putQ w2 b (.int .i64 n) (.slice ya lo.length yc) (.slice none 0 0)) rfl (by unfold putQ; go_simp) ?_
      have FX : Hid (QX (putQ w2 b (.int .i64 n) (.slice ya lo.length yc) (.slice none 0 0)) b (.int .i64 n) (.slice ya lo.length yc) (.slice none 0 0)) := NX.out.put _ _ _
      have FM : Hid ((putQ w2 b (.int .i64 n) (.slice ya lo.length yc) (.slice none 0 0)).ownsRow W0.heap.size 27 2 (.slice ya lo.length yc) lo.length (lo.flatMap encM)) := NX.out.ownPut NM.out (by decide)
      have FB : Hid (Below W0.heap.size W0 (putQ w2 b (.int .i64 n) (.slice ya lo.length yc) (.slice none 0 0))) := below_putQ NB.out NL.out _ _ _
      clear n0 n1 n2 n3 n4 n5 NX NM NB
      generalize putQ w2 b (.int .i64 n) (.slice ya lo.length yc) (.slice none 0 0) = X at *
      clear w2
      revert NL FB FM FX
      revert X
      revert b
      revert yc
      revert ya
      exact HG.out
  case g =>
    intro ya yc b X NL FX FM FB
    clear KEEP HSD em
    have eo : ∀ args w, (callFunc 24 args).run Try.prog w = .ok (.enter 24 args) w := enters_of Try.func24 (by kernel_rfl) rfl
    go_wp2_with fail
    go_loopw [4] (fun i wr => ∃ (k : Nat) (u : Value), k ≤ rs.length ∧ i = .int .i64 k ∧ QX wr b (.int .i64 n) (.slice ya lo.length yc) u ∧ OwnBs wr W0.heap.size u (rs.take k) ∧ wr.ownsRow W0.heap.size 27 2 (.slice ya lo.length yc) lo.length (lo.flatMap encM) ∧ Below W0.heap.size W0 wr) (fun i _ => rs.length - (intOf i).toNat)
    case atStart => exact ⟨0, _, by omega, rfl, FX.out, OwnBs.nil _ _, FM.out, FB.out⟩
    case round =>
      obtain ⟨k, u, hk, rfl, hqx, hob, hom, hbel⟩ := hrel
      have QR : Hid (QX wr b (.int .i64 n) (.slice ya lo.length yc) u) := hqx
      have OB : Hid (OwnBs wr W0.heap.size u (rs.take k)) := hob
      have OM : Hid (wr.ownsRow W0.heap.size 27 2 (.slice ya lo.length yc) lo.length (lo.flatMap encM)) := hom
      have HB : Hid (Below W0.heap.size W0 wr) := hbel
      have hsr := hbel.size
      have Q1 := QQ.out.below hbel (by omega)
      have P1 : Hid (QX wr (w.heap.size + 1) (.int .i64 0) (.slice none 0 0) (.slice none 0 0)) := PP.out.below hbel (by omega)
      obtain ⟨q0, q1, q2⟩ := Q1.cells
      obtain ⟨z0, z1, z2⟩ := hqx.cells
      obtain ⟨ua, uc, hue⟩ : ∃ a c, u = .slice a (rs.take k).length c := by obtain ⟨a, c, e, _⟩ := hob.reads; exact ⟨a, c, e⟩
      have hqb : w.heap.size < W0.heap.size := by omega
      clear hqx hob hom hbel
      by_cases hlt : k < rs.length
      · obtain ⟨rb, ro, cap', e1, lt, _, _, hv⟩ := (R0.out.2.below HB.out (Nat.le_refl _)).at (by omega)
        obtain ⟨rb0, ro0, cap0, e2, lt0, _, _, hv0⟩ := R0.out.2.at (by omega)
        injection e1 with e1 e9 e3
        subst e1 e3
        injection e2 with e2 e8 e3
        injection e2 with e2
        injection e2 with e2 e7 _
        subst e2
        clear e9 e8 e7 e3 hv0
        obtain ⟨l, hl⟩ := getX hlt
        obtain ⟨t, ht, htr⟩ := hv k l hl
        have HP : Hid (Reads .u8 wr t l) := htr
        obtain ⟨la, lc, rfl, _⟩ := id htr
        have hll : l.length ≤ 140737488355328 := by have := HL.out l (List.mem_of_getElem? hl); omega
        have HT : Hid (rs.take (k + 1) = rs.take k ++ [l]) := take_snoc hl
        have p0 : (0 : Int) ≤ (k : Int) := by omega
        have p1 : (k : Int) < (rs.length : Int) := by omega
        have KEEP : Hid (∀ V, Kept (fun _ => False) wr V → V.cell? ⟨b, 2, none⟩ = some u ∧ V.cell? ⟨w.heap.size, 2, none⟩ = some (.slice (some ⟨rb, ro, none⟩) rs.length cap2) ∧ V.cell? ⟨rb, ro + k, none⟩ = some (.slice la l.length lc)) := fun V hV => ⟨(hV.cell (p := ⟨b, 2, none⟩) QR.out.lt (fun h => h)).trans z2, (hV.cell (p := ⟨w.heap.size, 2, none⟩) Q1.lt (fun h => h)).trans q2, (hV.cell (p := ⟨rb, ro + k, none⟩) lt (fun h => h)).trans ht⟩
        have KEEP2 : Hid (∀ V, Kept (fun q => u.ownBlock = some q) wr V → ¬ (u.ownBlock = some b) → (∀ q, u.ownBlock = some q → W0.heap.size ≤ q) → V.cell? ⟨b, 2, none⟩ = some u ∧ V.cell? ⟨w.heap.size, 2, none⟩ = some (.slice (some ⟨rb, ro, none⟩) rs.length cap2) ∧ V.cell? ⟨rb, ro + k, none⟩ = some (.slice la l.length lc)) := fun V hV hb hq => ⟨(hV.cell (p := ⟨b, 2, none⟩) QR.out.lt hb).trans z2, (hV.cell (p := ⟨w.heap.size, 2, none⟩) Q1.lt (fun h => by have := hq _ h; simp only at this; omega)).trans q2, (hV.cell (p := ⟨rb, ro + k, none⟩) lt (fun h => by have := hq _ h; simp only at this; omega)).trans ht⟩
        have HSD : Hid (_ ∧ _ ∧ _) := KEEP.out wr.drew (Kept.of (Below.refl _ _).drew)
        clear hv hl htr hue
        go_wp2_with fail
        refine region_lastF (S := fun V => V.cell? ⟨b, 2, none⟩ = some u ∧ V.cell? ⟨w.heap.size, 2, none⟩ = some (.slice (some ⟨rb, ro, none⟩) rs.length cap2) ∧ V.cell? ⟨rb, ro + k, none⟩ = some (.slice la l.length lc)) (by kernel_rfl) rfl (by kernel_rfl) (by kernel_rfl) ?_
        clear q0 q1 q2 z0 z1 z2 Q1
        simp only [List.pop_toArray, List.dropLast_cons_cons, List.dropLast_singleton, List.size_toArray, List.length_cons, List.length_nil, Nat.reduceAdd]
        refine takeH (i := 0) (v := .pointer (some ⟨b, 2, none⟩)) (d := 18) rfl rfl (by kernel_rfl) (by kernel_rfl) (by kernel_rfl) (fun _ _ _ h => h) (by rfl) (fun V hV => by obtain ⟨v1, v2, v3⟩ := hV; go_simp) HSD.out ?_
        simp only [Act.put, List.setIfInBounds_toArray, List.set_cons_zero, List.set_cons_succ]
        refine takeH (i := 1) (v := u) (d := 19) rfl rfl (by kernel_rfl) (by kernel_rfl) (by kernel_rfl) (fun _ _ _ h => h) (by rfl) (fun V hV => by obtain ⟨v1, v2, v3⟩ := hV; go_simp) HSD.out ?_
        simp only [Act.put, List.setIfInBounds_toArray, List.set_cons_zero, List.set_cons_succ]
        refine takeH (i := 2) (v := .pointer (some ⟨w.heap.size, 2, none⟩)) (d := 20) rfl rfl (by kernel_rfl) (by kernel_rfl) (by kernel_rfl) (fun _ _ _ h => h) (by rfl) (fun V hV => by obtain ⟨v1, v2, v3⟩ := hV; go_simp) HSD.out ?_
        simp only [Act.put, List.setIfInBounds_toArray, List.set_cons_zero, List.set_cons_succ]
        refine takeH (i := 3) (v := .slice (some ⟨rb, ro, none⟩) rs.length cap2) (d := 21) rfl rfl (by kernel_rfl) (by kernel_rfl) (by kernel_rfl) (fun _ _ _ h => h) (by rfl) (fun V hV => by obtain ⟨v1, v2, v3⟩ := hV; go_simp) HSD.out ?_
        simp only [Act.put, List.setIfInBounds_toArray, List.set_cons_zero, List.set_cons_succ]
        refine takeH (i := 4) (v := .int .i64 (k : Int)) (d := 22) rfl rfl (by kernel_rfl) (by kernel_rfl) (by kernel_rfl) (fun _ _ _ h => h) (by rfl) (fun V hV => by obtain ⟨v1, v2, v3⟩ := hV; go_simp) HSD.out ?_
        simp only [Act.put, List.setIfInBounds_toArray, List.set_cons_zero, List.set_cons_succ]
        refine takeH (i := 5) (v := .pointer (some ⟨rb, ro + k, none⟩)) (d := 23) rfl rfl (by kernel_rfl) (by kernel_rfl) (by kernel_rfl) (fun _ _ _ h => h) (by rfl) (fun V hV => by obtain ⟨v1, v2, v3⟩ := hV; go_simp) HSD.out ?_
        simp only [Act.put, List.setIfInBounds_toArray, List.set_cons_zero, List.set_cons_succ]
        refine takeH (i := 6) (v := .slice la l.length lc) (d := 24) rfl rfl (by kernel_rfl) (by kernel_rfl) (by kernel_rfl) (fun _ _ _ h => h) (by rfl) (fun V hV => by obtain ⟨v1, v2, v3⟩ := hV; go_simp) HSD.out ?_
        simp only [Act.put, List.setIfInBounds_toArray, List.set_cons_zero, List.set_cons_succ]
        refine oneH (i := 7) rfl (by kernel_rfl) rfl (call_gets (d := 25) (f := 24) (xs := #[.tmp 24]) (ats := #[50]) rfl rfl eo (vs := #[.slice la l.length lc]) (by simp [Act.eval]) (octets_any _ l _ (HP.out.below (Below.refl _ _).drew (Nat.le_refl _)) hll) ?_)
        intro v2 w2 h2
        obtain ⟨ho2, hb2⟩ := h2
        have C2 : Below wr.heap.size wr w2 := below_undrew hb2
        have HS2 : Hid (_ ∧ _ ∧ _) := KEEP.out w2 (Kept.of C2)
        refine ⟨HS2.out, ?_⟩
        simp only [Act.put, List.setIfInBounds_toArray, List.set_cons_zero, List.set_cons_succ]
        have A2 : Below wr.heap.size wr (w2.alloc (.cells #[v2] 50)) := C2.alloc C2.size _
        have HS3 : Hid (_ ∧ _ ∧ _) := KEEP.out (w2.alloc (.cells #[v2] 50)) (Kept.of A2)
        obtain ⟨ya2, yc2, rfl, _⟩ : ∃ ya2 yc2, v2 = .slice ya2 l.length yc2 ∧ True := by obtain ⟨x, y, e, _⟩ := reads_own ho2; exact ⟨x, y, e, trivial⟩
        refine oneH (i := 8) rfl (by kernel_rfl) rfl (op_run (d := 26) (v' := .slice (some ⟨w2.heap.size, 0, none⟩) 1 1) (w' := w2.alloc (.cells #[.slice ya2 l.length yc2] 50)) rfl (by go_simp) ⟨HS3.out, ?_⟩)
        simp only [Act.put, List.setIfInBounds_toArray, List.set_cons_zero, List.set_cons_succ]
        have OB2 : OwnBs (w2.alloc (.cells #[.slice ya2 l.length yc2] 50)) W0.heap.size u (rs.take k) := OB.out.kept (Kept.of (S := fun _ => False) A2) (fun _ _ h => h)
        obtain ⟨g, gc, w3, hrun, hob3, hg3, _⟩ := run_append_bs 23 W0.heap.size u (rs.take k) OB2 w2.heap.size (.slice ya2 l.length yc2) l (0, 0) (heap_alloc_new _ _) ((own_lower ho2 (by simp; omega)).alloc _) (by simp; omega) (by have := A2.size; omega)
        obtain ⟨us, hus⟩ := OB2.row
        have K3 : Kept (fun q => u.ownBlock = some q) wr w3 := (Kept.of (S := fun q => u.ownBlock = some q) A2).grown hg3 (fun q hq => .inl hq)
        have hub : ¬ (u.ownBlock = some b) := fun h => own_block hus h ((QX.below QR.out A2 (by have := QR.out.lt; omega))) (by decide) rfl
        have HS4 : Hid (_ ∧ _ ∧ _) := KEEP2.out w3 K3 hub (fun q hq => (own_geB hus hq).1)
        refine oneH (i := 9) rfl (by kernel_rfl) rfl (call_append (d := 27) (s := .tmp 19) (x := .tmp 26) (t := 23) rfl rfl (v := u) (v2 := .slice (some ⟨w2.heap.size, 0, none⟩) 1 1) (by simp [Act.eval]) (by simp [Act.eval]) hrun ⟨HS4.out, ?_⟩)
        simp only [Act.put, List.setIfInBounds_toArray, List.set_cons_zero, List.set_cons_succ]
        refine takeH (i := 10) (v := .pointer (some ⟨b, 2, none⟩)) (d := 28) rfl rfl (by kernel_rfl) (by kernel_rfl) (by kernel_rfl) (fun _ _ _ h => h) (by rfl) (fun V hV => by obtain ⟨v1, v2, v3⟩ := hV; go_simp) HS4.out ?_
        simp only [Act.put, List.setIfInBounds_toArray, List.set_cons_zero, List.set_cons_succ]
        refine wpAnyH_done (by kernel_rfl) ?_ _
        have Q3 : Hid (QX w3 b (.int .i64 n) (.slice ya lo.length yc) u) := QR.out.kept K3 hub
        have B3 : Hid (Below W0.heap.size W0 w3) := HB.out.trans (K3.below hsr (fun q hq => (own_geB hus hq).1))
        have M3 : Hid (w3.ownsRow W0.heap.size 27 2 (.slice ya lo.length yc) lo.length (lo.flatMap encM)) := K3.own OM.out (fun q hq h => by have h1 := own_apart OB2.row.choose_spec ((own_below OM.out A2 (Nat.le_refl _))) (by decide); rcases h1 with h1 | h1; (rw [h1] at h; cases h); exact h1 (h.trans hq.symm))
        have O3 : Hid (OwnBs w3 W0.heap.size (.slice (some ⟨g, 0, none⟩) ((rs.take k).length + 1) gc) (rs.take (k + 1))) := by show OwnBs _ _ _ _; rw [HT.out]; exact hob3
        clear hob3 hg3 hrun hus hub K3 OB2 HS2 HS3 HS4 ho2 hb2 C2 A2 OB OM HB QR KEEP KEEP2 HSD
        generalize (rs.take k).length + 1 = tl at *
        obtain ⟨z0, z1, z2, z3, z4, z5⟩ := Q3.out.all
        show Oper.wp _ _ _ _ _ _
        go_wp2_with fail
        go_roundw
        case rel => exact ⟨k + 1, _, by omega, by go_num, Q3.out.set2 _, O3.out.boxQ Q3.out, Q3.out.own M3.out (by decide), B3.out.setCell NL.out _⟩
        case measure => simp [intOf]; omega
      · have ek : rs.take k = rs := List.take_of_length_le (by omega)
        have OR : Hid (QuR wr (.slice ya lo.length yc) u lo rs) := ⟨MlR.ownd OM.out, by have := OB.out.reads; rwa [ek] at this⟩
        have PA : Hid (QX wr (w.heap.size + 1) (.int .i64 0) (.slice none 0 0) (.slice none 0 0)) := P1.out
        rw [ek] at hue OB
        subst hue
        obtain ⟨y0, y1, y2, y3, y4, y5⟩ := PA.out.all
        clear ek
        go_wp2_with fail
        have r := (PA.out.put (.int .i64 n) (.slice ya lo.length yc) (.slice ua rs.length uc)).cells
        unfold putQ at r
        obtain ⟨r0, r1, r2⟩ := r
        refine bodyPost_ret (v := .agg #[.int .i64 n, .slice ya lo.length yc, .slice ua rs.length uc]) (by simp [results, Try.results9, go_sem, r0, r1, r2]) rfl ⟨_, _, rfl, ⟨MlR.ownd (PA.out.ownPut OM.out (by decide)), (OwnBs.putQ PA.out OB.out).reads⟩, ?_⟩
        exact below_putQ (B0.out.trans (HB.out.mono (by omega))) (Nat.le_succ _) _ _ _
end Go.Proofs.Ytihghhmhgakkaaa

namespace Go.Proofs.Ytihghhmhgakkaaa
set_option maxRecDepth 100000
open Go.ChangeShapes Go.WideShapes Go.ChangeAt Go.RowKit

set_option maxHeartbeats 1000000 in
set_option maxRecDepth 100000 in
theorem sameList_yes (va vb : Value) (f : List (List Int)) (w : World) (ha : BsR w va f) (hb : BsR w vb f) (hby : ∀ l ∈ f, ∀ x ∈ l, 0 ≤ x ∧ x ≤ 255) :
    Calls Try.prog 35 #[va, vb] w fun e w' => e = .returned (.bool true) ∧ Below w.heap.size w w' := by
  have HA : Hid (BsR w va f) := ha
  have HB : Hid (BsR w vb f) := hb
  have HY : Hid (∀ l ∈ f, ∀ x ∈ l, 0 ≤ x ∧ x ≤ 255) := hby
  obtain ⟨a, ca, rfl, hca, hma, _⟩ := ha
  obtain ⟨b, cb, rfl, hcb, hmb, _⟩ := hb
  unfold maxLen at hma hmb
  have hll : ((f.length : Int) != (f.length : Int)) = false := by simp
  clear hby
  go_enter Try.func35, Try.ntmps35
  go_wp2_with fail
  go_loopw [5] (fun i wr => ∃ k : Nat, k ≤ f.length ∧ i = .int .i64 k ∧ Below w.heap.size w wr) (fun i _ => f.length - (intOf i).toNat)
  case atStart => exact ⟨0, by omega, rfl, Below.refl _ _⟩
  case round =>
    obtain ⟨k, hk, rfl, hbel⟩ := hrel
    have HBL : Hid (Below w.heap.size w wr) := hbel
    have hsr := hbel.size
    clear hbel
    by_cases hlt : k < f.length
    · obtain ⟨xa, oa, cap', e1, la, _, _, hva⟩ := (HA.out.below HBL.out (Nat.le_refl _)).at (by omega)
      injection e1 with e1 e2 e3
      subst e1 e3
      clear e2
      obtain ⟨xb, ob, cap', e1, lb, _, _, hvb⟩ := (HB.out.below HBL.out (Nat.le_refl _)).at (by omega)
      injection e1 with e1 e2 e3
      subst e1 e3
      clear e2
      obtain ⟨l, hl⟩ := getX hlt
      obtain ⟨u, hu, hur⟩ := hva k l hl
      obtain ⟨t, ht, htr⟩ := hvb k l hl
      have UR : Hid (Reads .u8 wr u l) := hur
      have TR : Hid (Reads .u8 wr t l) := htr
      have BY : Hid (∀ x ∈ l, 0 ≤ x ∧ x ≤ 255) := HY.out l (List.mem_of_getElem? hl)
      obtain ⟨ua, uc, rfl, _⟩ := id hur
      obtain ⟨ta, tc, rfl, _⟩ := id htr
      have p0 : (0 : Int) ≤ (k : Int) := by omega
      have p1 : (k : Int) < (f.length : Int) := by omega
      clear hva hvb hl hur htr
      go_wp2_with fail
      go_quiet ((go_at_call 49; exact Calls.quiet_of_same (sameBytes_any _ _ l l _ UR.out TR.out BY.out BY.out)))
      go_wp2_with fail
      go_roundw
      case rel => exact ⟨k + 1, by omega, by go_num, below_drewN HBL.out _⟩
      case measure => simp [intOf]; omega
    · go_wp2_with fail
      go_ret
      exact ⟨rfl, HBL.out⟩

set_option maxHeartbeats 1000000 in
set_option maxRecDepth 100000 in
theorem sameQueue_yes (n : Int) (vl vr xl xr : Value) (lo : List Ml) (rs : List (List Int)) (w : World) (ha : QuR w vl vr lo rs) (hb : QuR w xl xr lo rs) (hby : ∀ l ∈ rs, ∀ x ∈ l, 0 ≤ x ∧ x ≤ 255) :
    Calls Try.prog 12 #[.agg #[.int .i64 n, vl, vr], .agg #[.int .i64 n, xl, xr]] w fun e w' => e = .returned (.bool true) ∧ Below w.heap.size w w' := by
  have HA : Hid (QuR w vl vr lo rs) := ha
  have HB : Hid (QuR w xl xr lo rs) := hb
  have HY : Hid (∀ l ∈ rs, ∀ x ∈ l, 0 ≤ x ∧ x ≤ 255) := hby
  obtain ⟨a1, c1, rfl⟩ := ha.1.shape
  obtain ⟨a2, c2, rfl, _⟩ := id ha.2
  obtain ⟨a3, c3, rfl⟩ := hb.1.shape
  obtain ⟨a4, c4, rfl, _⟩ := id hb.2
  clear ha hb hby
  have hnn : (n == n) = true := by simp
  go_enter Try.func12, Try.ntmps12
  go_wp2_with fail
  have B0 : Below (w.heap.size + 2) ((w.alloc (.cells #[.int .i64 n, .slice a1 lo.length c1, .slice a2 rs.length c2] 25)).alloc (.cells #[.int .i64 n, .slice a3 lo.length c3, .slice a4 rs.length c4] 25)) ((w.alloc (.cells #[.int .i64 n, .slice a1 lo.length c1, .slice a2 rs.length c2] 25)).alloc (.cells #[.int .i64 n, .slice a3 lo.length c3, .slice a4 rs.length c4] 25)) := Below.refl _ _
  refine (sameMails_yes _ _ lo _ (HA.out.1.below (below_two B0) (Nat.le_refl _)) (HB.out.1.below (below_two B0) (Nat.le_refl _))).mono ?_
  rintro e w1 ⟨rfl, hb1⟩
  have hb1' : Below (w.heap.size + 2) ((w.alloc (.cells #[.int .i64 n, .slice a1 lo.length c1, .slice a2 rs.length c2] 25)).alloc (.cells #[.int .i64 n, .slice a3 lo.length c3, .slice a4 rs.length c4] 25)) w1 := by simpa using hb1
  have B1 : Hid (Below w.heap.size w w1) := below_two hb1'
  have hs1 := B1.out.size
  have Q1 : QX w1 w.heap.size (.int .i64 n) (.slice a1 lo.length c1) (.slice a2 rs.length c2) := ((QX.new w (.int .i64 n) (.slice a1 lo.length c1) (.slice a2 rs.length c2)).below (below_alloc _ _) (by simp)).below hb1' (by omega)
  have Q2 : QX w1 (w.heap.size + 1) (.int .i64 n) (.slice a3 lo.length c3) (.slice a4 rs.length c4) := by
    have h := QX.new (w.alloc (.cells #[.int .i64 n, .slice a1 lo.length c1, .slice a2 rs.length c2] 25)) (.int .i64 n) (.slice a3 lo.length c3) (.slice a4 rs.length c4)
    rw [show (w.alloc (.cells #[.int .i64 n, .slice a1 lo.length c1, .slice a2 rs.length c2] 25)).heap.size = w.heap.size + 1 by simp] at h
    exact h.below hb1' (by omega)
  obtain ⟨_, _, g2⟩ := Q1.cells
  obtain ⟨_, _, g4⟩ := Q2.cells
  clear hb1 hb1' B0 Q1 Q2
  go_wp2_with fail
  refine (sameList_yes _ _ rs _ (HA.out.2.below B1.out (Nat.le_refl _)) (HB.out.2.below B1.out (Nat.le_refl _)) HY.out).mono ?_
  rintro e w2 ⟨rfl, hb2⟩
  have B2 : Hid (Below w.heap.size w w2) := B1.out.trans (hb2.mono hs1)
  clear hb2
  go_wp2_with fail
  go_ret
  exact ⟨rfl, B2.out⟩
end Go.Proofs.Ytihghhmhgakkaaa
