/-
  Contract of queue.Push.
  Contract of pacelinekeep's own filled: what it answers is its own.
  Contract of queue.Drain.
  Slices of a slice of mail: what they read as.
  A region that draws its order, where just three operations may come up.
-/
import Derived.Test.YtihghhmhgakkaaaQueueBudgetPartB
import Derived.Test.YtihghhmhgakkaaaRunPut
import Derived.Shelf.Abstract
import Derived.Deep.CutRange
import Derived.Deep.QuietTactic
import Derived.BigQuiet
import Derived.Lib.QuietBelow
import Derived.Test.YtihghhmhgakkaaaFillMath
import Derived.Test.YtihghhmhgakkaaaMailSort
import Derived.Test.YtihghhmhgakkaaaMailMem

namespace Go.Proofs.Ytihghhmhgakkaaa
set_option maxRecDepth 100000
open Go.ChangeShapes Go.WideShapes Go.ChangeAt Go.RowKit

/-- What Push answers, and the document's. -/
def PshP (w : World) (n : Int) (L : List Ml) (R : List (List Int)) (f : Int) (e : Ending) (w' : World) : Prop :=
  ∃ vl vr, e = .returned (.tuple #[.agg #[.int .i64 (okN f n), vl, vr], .int .i64 f]) ∧ w'.ownsRow w.heap.size 27 2 vl (okL f L).length ((okL f L).flatMap encM) ∧ OwnBs w' w.heap.size vr (okL f R) ∧ Below w.heap.size w w'
theorem PshP.no {w w' : World} {n f : Int} {L : List Ml} {R : List (List Int)} (hf : f ≠ 0) (hb : Below w.heap.size w w') : PshP w n L R f (.returned (.tuple #[.agg #[.int .i64 0, .slice none 0 0, .slice none 0 0], .int .i64 f])) w' :=
  ⟨_, _, by rw [okN_no hf], by rw [okL_no hf]; exact World.ownsRow_nil _ _ _ _, by rw [okL_no hf]; exact OwnBs.nil _ _, hb⟩
theorem PshP.yes {w w' : World} {n : Int} {L : List Ml} {R : List (List Int)} {vl vr : Value} (h1 : w'.ownsRow w.heap.size 27 2 vl L.length (L.flatMap encM)) (h2 : OwnBs w' w.heap.size vr R) (hb : Below w.heap.size w w') : PshP w n L R 0 (.returned (.tuple #[.agg #[.int .i64 n, vl, vr], .int .i64 0])) w' :=
  ⟨_, _, rfl, h1, h2, hb⟩
theorem MlR.one (w : World) (m : Ml) : MlR (w.alloc (.cells #[.int .i64 m.1, .int .i64 m.2] 27)) (.slice (some ⟨w.heap.size, 0, none⟩) 1 1) [m] := by
  refine ⟨some ⟨w.heap.size, 0, none⟩, 1, rfl, Nat.le_refl _, by simp [maxLen], fun e => (by cases e), fun _ => ⟨w.heap.size, 0, rfl, by simp, fun i x hx j u hu => ?_⟩⟩
  have hi : i = 0 := by
    rcases Nat.eq_zero_or_pos i with h | h
    · exact h
    · rw [List.getElem?_eq_none (by simp; omega)] at hx; cases hx
  subst hi
  simp at hx
  subst hx
  rw [cell_of_row _ _ _ _ _ _ (heap_alloc_new w _)]
  simp only [Nat.zero_mul, Nat.zero_add]
  match j, hu with
  | 0, hu => simp [encM] at hu ⊢; exact hu
  | 1, hu => simp [encM] at hu ⊢; exact hu
  | j + 2, hu => simp [encM] at hu
theorem mayA_one (m : Ml) : mayA [m] = mayM m := by unfold mayA; simp

/-- The three boxes that Push makes. -/
theorem push_boxes (w : World) (a b c : Value) (m : Ml) : ∀ W, W = ((w.alloc (.cells #[a, b, c] 25)).alloc (.cells #[.int .i64 m.1, .int .i64 m.2] 27)).alloc (.cells #[.int .i64 0, .slice none 0 0, .slice none 0 0] 25) →
    QX W w.heap.size a b c ∧ QX W (w.heap.size + 2) (.int .i64 0) (.slice none 0 0) (.slice none 0 0) ∧ W.heap[w.heap.size + 1]? = some (.cells #[.int .i64 m.1, .int .i64 m.2] 27 (0, 0)) ∧ Below w.heap.size w W ∧ W.heap.size ≤ w.heap.size + 3 ∧ w.heap.size + 3 ≤ W.heap.size := by
  rintro W rfl
  have b1 := below_alloc w (.cells #[a, b, c] 25)
  have b2 := below_alloc (w.alloc (.cells #[a, b, c] 25)) (.cells #[.int .i64 m.1, .int .i64 m.2] 27)
  have b3 := below_alloc ((w.alloc (.cells #[a, b, c] 25)).alloc (.cells #[.int .i64 m.1, .int .i64 m.2] 27)) (.cells #[.int .i64 0, .slice none 0 0, .slice none 0 0] 25)
  have s1 : (w.alloc (.cells #[a, b, c] 25)).heap.size = w.heap.size + 1 := by simp
  have s2 : ((w.alloc (.cells #[a, b, c] 25)).alloc (.cells #[.int .i64 m.1, .int .i64 m.2] 27)).heap.size = w.heap.size + 2 := by simp
  refine ⟨((QX.new w a b c).below b2 (by omega)).below b3 (by omega), ?_, ?_, ?_, by simp, by simp⟩
  · have h := QX.new ((w.alloc (.cells #[a, b, c] 25)).alloc (.cells #[.int .i64 m.1, .int .i64 m.2] 27)) (.int .i64 0) (.slice none 0 0) (.slice none 0 0)
    rwa [s2] at h
  · rw [b3.block _ (by omega)]
    have h := heap_second w (.cells #[a, b, c] 25) #[.int .i64 m.1, .int .i64 m.2] 27
    exact h
  · exact (b1.trans (b2.mono (by omega))).trans (b3.mono (by omega))

theorem QX.grown {w w' : World} {q b n size : Nat} {e : TypeId} {x y z v : Value} {xs : List Value} (h : QX w q x y z) (ho : w.ownsRow b e size v n xs) (hne : e ≠ 25) (hg : w.grownBy w' v.ownBlock) : QX w' q x y z := (hg.block q h.lt fun k => own_block ho k.symm h hne rfl).trans h
theorem OwnBs.past {w w' : World} {base b n size : Nat} {e : TypeId} {v u : Value} {xs : List Value} {f : List (List Int)} (h : OwnBs w base v f) (hu : w.ownsRow b e size u n xs) (h1 : 50 ≠ e) (h2 : 5 ≠ e) (hg : w.grownBy w' u.ownBlock) : OwnBs w' base v f := by
  obtain ⟨vs, k1, k2, k3⟩ := h
  exact ⟨vs, k1, k2.kept hg (own_apart k2 hu h1), fun j x l hx hl => (k3 j x l hx hl).kept hg (own_apart (k3 j x l hx hl) hu h2)⟩

set_option maxHeartbeats 4000000 in
set_option maxRecDepth 100000 in
theorem push_any (n : Int) (vl vr : Value) (lo : List Ml) (rs : List (List Int)) (m : Ml) (w : World) (h : QuR w vl vr lo rs) (hB : QuB lo rs) :
    Calls Try.prog 10 #[.agg #[.int .i64 n, vl, vr], .agg #[.int .i64 m.1, .int .i64 m.2]] w (PshP w n (looF n lo m) (rnsF n lo rs m) (pushE lo m (quF n lo rs))) := by
  have HR : Hid (QuR w vl vr lo rs) := h
  have HBd : Hid (QuB lo rs) := hB
  have HU : Hid (∀ X, QuR X vl vr lo rs → Calls Try.prog 25 #[.agg #[.int .i64 n, vl, vr]] X (UnpP X (quF n lo rs))) := fun X hX => unpackAll_any n vl vr lo rs X hX hB
  have HQ : Hid (∀ f, quF n lo rs = some f → 1 ≤ n ∧ n ≤ 1000 ∧ (lo.length : Int) < n ∧ rs.length ≤ 5000 ∧ mayA lo = true ∧ f.length = rs.length ∧ lo.length + sumM f ≤ 5000 ∧ ∀ l ∈ f, 1 ≤ l.length ∧ l.length ≤ 1000 ∧ mayA l = true ∧ srtMb l = true) := fun f hf => quF_inv hf
  obtain ⟨a, cap, rfl⟩ := h.1.shape
  obtain ⟨c, cap2, rfl, _⟩ := id h.2
  clear h hB
  generalize quF n lo rs = o at *
  cases o with
  | none =>
    have HE : Hid (∀ w', Below w.heap.size w w' → PshP w n (looF n lo m) (rnsF n lo rs m) (pushE lo m none) (.returned (.tuple #[.agg #[.int .i64 0, .slice none 0 0, .slice none 0 0], .int .i64 9])) w') := fun w' hw => PshP.no (by show (9 : Int) ≠ 0; decide) hw
    generalize PshP w n (looF n lo m) (rnsF n lo rs m) (pushE lo m none) = P at *
    go_enter Try.func10, Try.ntmps10
    go_upto_region 1 with fail
    obtain ⟨Q0, T0, M0, B0, s1, s2⟩ := push_boxes w (.int .i64 n) (.slice a lo.length cap) (.slice c rs.length cap2) m _ rfl
    generalize ((w.alloc (.cells #[.int .i64 n, .slice a lo.length cap, .slice c rs.length cap2] 25)).alloc (.cells #[.int .i64 m.1, .int .i64 m.2] 27)).alloc (.cells #[.int .i64 0, .slice none 0 0, .slice none 0 0] 25) = W0 at *
    have T1 : Hid (QX W0 (w.heap.size + 2) (.int .i64 0) (.slice none 0 0) (.slice none 0 0)) := T0
    have BH : Hid (Below w.heap.size w W0) := B0
    obtain ⟨q0, q1, q2⟩ := Q0.cells
    clear Q0 T0 M0 B0
    go_wp2_with fail
    refine (HU.out _ (HR.out.below BH.out (Nat.le_refl _))).mono ?_
    rintro e w1 ⟨v1, rfl, ho, hb1⟩
    have T2 : Hid (QX w1 (w.heap.size + 2) (.int .i64 0) (.slice none 0 0) (.slice none 0 0)) := T1.out.below hb1 (by omega)
    have HX : Hid (P (.returned (.tuple #[.agg #[.int .i64 0, .slice none 0 0, .slice none 0 0], .int .i64 9])) (putQ w1 (w.heap.size + 2) (.int .i64 0) (.slice none 0 0) (.slice none 0 0))) := HE.out _ (below_putQ (BH.out.trans (hb1.mono (by omega))) (by omega) _ _ _)
    obtain ⟨t0, t1, t2, t3, t4, t5⟩ := T2.out.all
    clear hb1 ho HU
    unfold errQ
    go_wp2_with fail
    have r := (T2.out.put (.int .i64 0) (.slice none 0 0) (.slice none 0 0)).cells
    unfold putQ at r
    obtain ⟨r0, r1, r2⟩ := r
    exact bodyPost_ret (v := .tuple #[.agg #[.int .i64 0, .slice none 0 0, .slice none 0 0], .int .i64 9]) (by simp [results, Try.results10, go_sem, r0, r1, r2]) rfl HX.out
  | some f =>
    obtain ⟨h1, h2, h3, h4, h5, h6, h7, _⟩ := HQ.out f rfl
    have HA : Hid (∀ v X, MlR X v [m] → Calls Try.prog 26 #[v] X fun e w' => e = .returned (.bool (!mayM m)) ∧ Below X.heap.size X w') := fun v X hX => by
      have := anyBarred_any v [m] X hX
      rwa [mayA_one] at this
    have hfl : f.length ≤ 5000 := by omega
    clear h6 HQ
    cases hm : mayM m
    · have hpe : pushE lo m (some f) = 2 := by unfold pushE; rw [hm]; rfl
      rw [hm] at HA
      have HE : Hid (∀ w', Below w.heap.size w w' → PshP w n (looF n lo m) (rnsF n lo rs m) (pushE lo m (some f)) (.returned (.tuple #[.agg #[.int .i64 0, .slice none 0 0, .slice none 0 0], .int .i64 2])) w') := fun w' hw => by rw [hpe]; exact PshP.no (by decide) hw
      generalize PshP w n (looF n lo m) (rnsF n lo rs m) (pushE lo m (some f)) = P at *
      clear hm hpe h7
      go_enter Try.func10, Try.ntmps10
      go_upto_region 1 with fail
      obtain ⟨Q0, T0, M0, B0, s1, s2⟩ := push_boxes w (.int .i64 n) (.slice a lo.length cap) (.slice c rs.length cap2) m _ rfl
      generalize ((w.alloc (.cells #[.int .i64 n, .slice a lo.length cap, .slice c rs.length cap2] 25)).alloc (.cells #[.int .i64 m.1, .int .i64 m.2] 27)).alloc (.cells #[.int .i64 0, .slice none 0 0, .slice none 0 0] 25) = W0 at *
      have T1 : Hid (QX W0 (w.heap.size + 2) (.int .i64 0) (.slice none 0 0) (.slice none 0 0)) := T0
      have Q1 : Hid (QX W0 w.heap.size (.int .i64 n) (.slice a lo.length cap) (.slice c rs.length cap2)) := Q0
      have M1 : Hid (W0.heap[w.heap.size + 1]? = some (.cells #[.int .i64 m.1, .int .i64 m.2] 27 (0, 0))) := M0
      have BH : Hid (Below w.heap.size w W0) := B0
      obtain ⟨q0, q1, q2⟩ := Q0.cells
      clear Q0 T0 M0 B0
      go_wp2_with fail
      refine (HU.out _ (HR.out.below BH.out (Nat.le_refl _))).mono ?_
      rintro e w1 ⟨v1, rfl, ho, hb1⟩
      have b1 : Below W0.heap.size W0 w1 := hb1
      have B1 : Hid (Below W0.heap.size W0 w1) := hb1
      have hs1 := hb1.size
      have HL : Hid (LmR w1 v1 f) := ho.reads
      obtain ⟨fa, fc, rfl⟩ : ∃ a c, v1 = .slice a f.length c := by obtain ⟨a, c, e, _⟩ := ho.reads; exact ⟨a, c, e⟩
      have mb : w1.heap[w.heap.size + 1]? = some (.cells #[.int .i64 m.1, .int .i64 m.2] 27 (0, 0)) := (b1.block _ (by omega)).trans M1.out
      have mc0 : w1.cell? ⟨w.heap.size + 1, 0, none⟩ = some (.int .i64 m.1) := boxQ_cells mb 0
      have mc1 : w1.cell? ⟨w.heap.size + 1, 1, none⟩ = some (.int .i64 m.2) := boxQ_cells mb 1
      clear hb1 ho HU b1 mb q0 q1 q2
      unfold errQ
      go_wp2_with fail
      refine (HA.out _ _ (MlR.one w1 m)).mono ?_
      rintro e w2 ⟨rfl, hb2⟩
      have b2 : Below w1.heap.size w1 w2 := (below_alloc _ _).trans (hb2.mono (by simp))
      have B2 : Hid (Below W0.heap.size W0 w2) := B1.out.trans (b2.mono hs1)
      have hs2 := B2.out.size
      have L2 : Hid (LmR w2 (.slice fa f.length fc) f) := HL.out.below b2 (Nat.le_refl _)
      have Q2 : Hid (QX w2 w.heap.size (.int .i64 n) (.slice a lo.length cap) (.slice c rs.length cap2)) := Q1.out.below B2.out (by omega)
      have T2 : Hid (QX w2 (w.heap.size + 2) (.int .i64 0) (.slice none 0 0) (.slice none 0 0)) := T1.out.below B2.out (by omega)
      have M2 : Hid (w2.heap[w.heap.size + 1]? = some (.cells #[.int .i64 m.1, .int .i64 m.2] 27 (0, 0))) := (B2.out.block _ (by omega)).trans M1.out
      clear hb2 b2 HL mc0 mc1 Q1 T1 M1 B1
      have HX : Hid (P (.returned (.tuple #[.agg #[.int .i64 0, .slice none 0 0, .slice none 0 0], .int .i64 2])) (putQ w2 (w.heap.size + 2) (.int .i64 0) (.slice none 0 0) (.slice none 0 0))) := HE.out _ (below_putQ (BH.out.trans (B2.out.mono (by omega))) (by omega) _ _ _)
      obtain ⟨t0, t1, t2, t3, t4, t5⟩ := T2.out.all
      go_wp2_with fail
      have r := (T2.out.put (.int .i64 0) (.slice none 0 0) (.slice none 0 0)).cells
      unfold putQ at r
      obtain ⟨r0, r1, r2⟩ := r
      exact bodyPost_ret (v := .tuple #[.agg #[.int .i64 0, .slice none 0 0, .slice none 0 0], .int .i64 2]) (by simp [results, Try.results10, go_sem, r0, r1, r2]) rfl HX.out
    · rw [hm] at HA
      have HC : Hid (∀ v X, LmR X v f → Calls Try.prog 27 #[v] X fun e w' => e = .returned (.int .i64 (sumM f : Nat)) ∧ w' = X) := fun v X hX => countQ_any v f X hX (by omega)
      obtain ⟨tot, htot, ht1, ht2⟩ : ∃ tot : Int, IntKind.i64.wrap ((lo.length : Int) + (sumM f : Nat)) = tot ∧ tot ≤ (lo.length : Int) + (sumM f : Nat) ∧ (lo.length : Int) + (sumM f : Nat) ≤ tot := ⟨_, rfl, by rw [IntKind.wrap_i64]; omega, by rw [IntKind.wrap_i64]; omega⟩
      by_cases hfull : lo.length + sumM f = 5000
      · have hpe : pushE lo m (some f) = 10 := by unfold pushE; rw [hm]; exact if_pos hfull
        have hte : (tot == 5000) = true := by simp; omega
        have HE : Hid (∀ w', Below w.heap.size w w' → PshP w n (looF n lo m) (rnsF n lo rs m) (pushE lo m (some f)) (.returned (.tuple #[.agg #[.int .i64 0, .slice none 0 0, .slice none 0 0], .int .i64 10])) w') := fun w' hw => by rw [hpe]; exact PshP.no (by decide) hw
        generalize PshP w n (looF n lo m) (rnsF n lo rs m) (pushE lo m (some f)) = P at *
        clear hm hpe h7 hfull ht1 ht2
        generalize sumM f = sf at *
        go_enter Try.func10, Try.ntmps10
        go_upto_region 1 with fail
        obtain ⟨Q0, T0, M0, B0, s1, s2⟩ := push_boxes w (.int .i64 n) (.slice a lo.length cap) (.slice c rs.length cap2) m _ rfl
        generalize ((w.alloc (.cells #[.int .i64 n, .slice a lo.length cap, .slice c rs.length cap2] 25)).alloc (.cells #[.int .i64 m.1, .int .i64 m.2] 27)).alloc (.cells #[.int .i64 0, .slice none 0 0, .slice none 0 0] 25) = W0 at *
        have T1 : Hid (QX W0 (w.heap.size + 2) (.int .i64 0) (.slice none 0 0) (.slice none 0 0)) := T0
        have Q1 : Hid (QX W0 w.heap.size (.int .i64 n) (.slice a lo.length cap) (.slice c rs.length cap2)) := Q0
        have M1 : Hid (W0.heap[w.heap.size + 1]? = some (.cells #[.int .i64 m.1, .int .i64 m.2] 27 (0, 0))) := M0
        have BH : Hid (Below w.heap.size w W0) := B0
        obtain ⟨q0, q1, q2⟩ := Q0.cells
        clear Q0 T0 M0 B0
        go_wp2_with fail
        refine (HU.out _ (HR.out.below BH.out (Nat.le_refl _))).mono ?_
        rintro e w1 ⟨v1, rfl, ho, hb1⟩
        have b1 : Below W0.heap.size W0 w1 := hb1
        have B1 : Hid (Below W0.heap.size W0 w1) := hb1
        have hs1 := hb1.size
        have HL : Hid (LmR w1 v1 f) := ho.reads
        obtain ⟨fa, fc, rfl⟩ : ∃ a c, v1 = .slice a f.length c := by obtain ⟨a, c, e, _⟩ := ho.reads; exact ⟨a, c, e⟩
        have mb : w1.heap[w.heap.size + 1]? = some (.cells #[.int .i64 m.1, .int .i64 m.2] 27 (0, 0)) := (b1.block _ (by omega)).trans M1.out
        have mc0 : w1.cell? ⟨w.heap.size + 1, 0, none⟩ = some (.int .i64 m.1) := boxQ_cells mb 0
        have mc1 : w1.cell? ⟨w.heap.size + 1, 1, none⟩ = some (.int .i64 m.2) := boxQ_cells mb 1
        clear hb1 ho HU b1 mb q0 q1 q2
        unfold errQ
        go_wp2_with fail
        refine (HA.out _ _ (MlR.one w1 m)).mono ?_
        rintro e w2 ⟨rfl, hb2⟩
        have b2 : Below w1.heap.size w1 w2 := (below_alloc _ _).trans (hb2.mono (by simp))
        have B2 : Hid (Below W0.heap.size W0 w2) := B1.out.trans (b2.mono hs1)
        have hs2 := B2.out.size
        have L2 : Hid (LmR w2 (.slice fa f.length fc) f) := HL.out.below b2 (Nat.le_refl _)
        have Q2 : Hid (QX w2 w.heap.size (.int .i64 n) (.slice a lo.length cap) (.slice c rs.length cap2)) := Q1.out.below B2.out (by omega)
        have T2 : Hid (QX w2 (w.heap.size + 2) (.int .i64 0) (.slice none 0 0) (.slice none 0 0)) := T1.out.below B2.out (by omega)
        have M2 : Hid (w2.heap[w.heap.size + 1]? = some (.cells #[.int .i64 m.1, .int .i64 m.2] 27 (0, 0))) := (B2.out.block _ (by omega)).trans M1.out
        clear hb2 b2 HL mc0 mc1 Q1 T1 M1 B1
        obtain ⟨q0, q1, q2⟩ := Q2.out.cells
        go_wp2_with fail
        go_quiet ((go_at_call 27; exact Calls.quiet_of_same (HC.out _ _ L2.out)))
        have b3 := below_drewN (Below.refl w2.heap.size w2) nq
        have B3 : Hid (Below W0.heap.size W0 (w2.drewN nq)) := B2.out.trans (b3.mono hs2)
        have Q3 : Hid (QX (w2.drewN nq) w.heap.size (.int .i64 n) (.slice a lo.length cap) (.slice c rs.length cap2)) := Q2.out.below b3 Q2.out.lt
        have T3 : Hid (QX (w2.drewN nq) (w.heap.size + 2) (.int .i64 0) (.slice none 0 0) (.slice none 0 0)) := T2.out.below b3 T2.out.lt
        have M3 : Hid ((w2.drewN nq).heap[w.heap.size + 1]? = some (.cells #[.int .i64 m.1, .int .i64 m.2] 27 (0, 0))) := M2.out
        clear b3 q0 q1 q2 Q2 T2 M2 B2 L2
        generalize w2.drewN nq = w3 at *
        have hs3 := B3.out.size
        have HX : Hid (P (.returned (.tuple #[.agg #[.int .i64 0, .slice none 0 0, .slice none 0 0], .int .i64 10])) (putQ w3 (w.heap.size + 2) (.int .i64 0) (.slice none 0 0) (.slice none 0 0))) := HE.out _ (below_putQ (BH.out.trans (B3.out.mono (by omega))) (by omega) _ _ _)
        obtain ⟨t0, t1, t2, t3, t4, t5⟩ := T3.out.all
        go_wp2_with fail
        have r := (T3.out.put (.int .i64 0) (.slice none 0 0) (.slice none 0 0)).cells
        unfold putQ at r
        obtain ⟨r0, r1, r2⟩ := r
        exact bodyPost_ret (v := .tuple #[.agg #[.int .i64 0, .slice none 0 0, .slice none 0 0], .int .i64 10]) (by simp [results, Try.results10, go_sem, r0, r1, r2]) rfl HX.out
      · have hpe : pushE lo m (some f) = 0 := by unfold pushE; rw [hm]; exact if_neg hfull
        have hte : (tot == 5000) = false := by simp; omega
        have hmA : mayA (lo ++ [m]) = true := by rw [mayA_app, h5, mayA_one, hm]; rfl
        have HMA : Hid (mayA (lo ++ [m]) = true) := hmA
        have HE : Hid (∀ vl vr w', w'.ownsRow w.heap.size 27 2 vl (looF n lo m).length ((looF n lo m).flatMap encM) → OwnBs w' w.heap.size vr (rnsF n lo rs m) → Below w.heap.size w w' → PshP w n (looF n lo m) (rnsF n lo rs m) (pushE lo m (some f)) (.returned (.tuple #[.agg #[.int .i64 n, vl, vr], .int .i64 0])) w') := fun vl vr w' g1 g2 hw => by rw [hpe]; exact PshP.yes g1 g2 hw
        generalize PshP w n (looF n lo m) (rnsF n lo rs m) (pushE lo m (some f)) = P at *
        clear hm hpe h7 hfull ht1 ht2 hmA h5
        generalize sumM f = sf at *
        go_enter Try.func10, Try.ntmps10
        go_upto_region 1 with fail
        obtain ⟨Q0, T0, M0, B0, s1, s2⟩ := push_boxes w (.int .i64 n) (.slice a lo.length cap) (.slice c rs.length cap2) m _ rfl
        generalize ((w.alloc (.cells #[.int .i64 n, .slice a lo.length cap, .slice c rs.length cap2] 25)).alloc (.cells #[.int .i64 m.1, .int .i64 m.2] 27)).alloc (.cells #[.int .i64 0, .slice none 0 0, .slice none 0 0] 25) = W0 at *
        have T1 : Hid (QX W0 (w.heap.size + 2) (.int .i64 0) (.slice none 0 0) (.slice none 0 0)) := T0
        have Q1 : Hid (QX W0 w.heap.size (.int .i64 n) (.slice a lo.length cap) (.slice c rs.length cap2)) := Q0
        have M1 : Hid (W0.heap[w.heap.size + 1]? = some (.cells #[.int .i64 m.1, .int .i64 m.2] 27 (0, 0))) := M0
        have BH : Hid (Below w.heap.size w W0) := B0
        obtain ⟨q0, q1, q2⟩ := Q0.cells
        clear Q0 T0 M0 B0
        go_wp2_with fail
        refine (HU.out _ (HR.out.below BH.out (Nat.le_refl _))).mono ?_
        rintro e w1 ⟨v1, rfl, ho, hb1⟩
        have b1 : Below W0.heap.size W0 w1 := hb1
        have B1 : Hid (Below W0.heap.size W0 w1) := hb1
        have hs1 := hb1.size
        have HL : Hid (LmR w1 v1 f) := ho.reads
        obtain ⟨fa, fc, rfl⟩ : ∃ a c, v1 = .slice a f.length c := by obtain ⟨a, c, e, _⟩ := ho.reads; exact ⟨a, c, e⟩
        have mb : w1.heap[w.heap.size + 1]? = some (.cells #[.int .i64 m.1, .int .i64 m.2] 27 (0, 0)) := (b1.block _ (by omega)).trans M1.out
        have mc0 : w1.cell? ⟨w.heap.size + 1, 0, none⟩ = some (.int .i64 m.1) := boxQ_cells mb 0
        have mc1 : w1.cell? ⟨w.heap.size + 1, 1, none⟩ = some (.int .i64 m.2) := boxQ_cells mb 1
        clear hb1 ho HU b1 mb q0 q1 q2
        unfold errQ
        go_wp2_with fail
        refine (HA.out _ _ (MlR.one w1 m)).mono ?_
        rintro e w2 ⟨rfl, hb2⟩
        have b2 : Below w1.heap.size w1 w2 := (below_alloc _ _).trans (hb2.mono (by simp))
        have B2 : Hid (Below W0.heap.size W0 w2) := B1.out.trans (b2.mono hs1)
        have hs2 := B2.out.size
        have L2 : Hid (LmR w2 (.slice fa f.length fc) f) := HL.out.below b2 (Nat.le_refl _)
        have Q2 : Hid (QX w2 w.heap.size (.int .i64 n) (.slice a lo.length cap) (.slice c rs.length cap2)) := Q1.out.below B2.out (by omega)
        have T2 : Hid (QX w2 (w.heap.size + 2) (.int .i64 0) (.slice none 0 0) (.slice none 0 0)) := T1.out.below B2.out (by omega)
        have M2 : Hid (w2.heap[w.heap.size + 1]? = some (.cells #[.int .i64 m.1, .int .i64 m.2] 27 (0, 0))) := (B2.out.block _ (by omega)).trans M1.out
        clear hb2 b2 HL mc0 mc1 Q1 T1 M1 B1
        obtain ⟨q0, q1, q2⟩ := Q2.out.cells
        go_wp2_with fail
        go_quiet ((go_at_call 27; exact Calls.quiet_of_same (HC.out _ _ L2.out)))
        have b3 := below_drewN (Below.refl w2.heap.size w2) nq
        have B3 : Hid (Below W0.heap.size W0 (w2.drewN nq)) := B2.out.trans (b3.mono hs2)
        have Q3 : Hid (QX (w2.drewN nq) w.heap.size (.int .i64 n) (.slice a lo.length cap) (.slice c rs.length cap2)) := Q2.out.below b3 Q2.out.lt
        have T3 : Hid (QX (w2.drewN nq) (w.heap.size + 2) (.int .i64 0) (.slice none 0 0) (.slice none 0 0)) := T2.out.below b3 T2.out.lt
        have M3 : Hid ((w2.drewN nq).heap[w.heap.size + 1]? = some (.cells #[.int .i64 m.1, .int .i64 m.2] 27 (0, 0))) := M2.out
        clear b3 q0 q1 q2 Q2 T2 M2 B2 L2
        generalize w2.drewN nq = w3 at *
        have hs3 := B3.out.size
        obtain ⟨q0, q1, q2⟩ := Q3.out.cells
        go_wp2_with fail
        refine (clone_any n _ _ lo rs _ ((HR.out.below BH.out (Nat.le_refl _)).below B3.out (Nat.le_refl _)) HBd.out).mono ?_
        rintro e w4 ⟨xl, xr, rfl, hol, hor, hb4⟩
        obtain ⟨xa, xc, rfl⟩ := (MlR.ownd hol).shape
        obtain ⟨ya, yc, rfl, _⟩ := id hor.reads
        have L5 : Hid ((w4.alloc (.cells #[.int .i64 n, .slice xa lo.length xc, .slice ya rs.length yc] 25)).ownsRow w3.heap.size 27 2 (.slice xa lo.length xc) lo.length (lo.flatMap encM)) := hol.alloc _
        have O5 : Hid (OwnBs (w4.alloc (.cells #[.int .i64 n, .slice xa lo.length xc, .slice ya rs.length yc] 25)) w3.heap.size (.slice ya rs.length yc) rs) := hor.kept (Kept.of (S := fun _ => False) (below_alloc _ _)) (fun _ _ h => h)
        have b5 : Below w3.heap.size w3 (w4.alloc (.cells #[.int .i64 n, .slice xa lo.length xc, .slice ya rs.length yc] 25)) := hb4.alloc hb4.size _
        have X5 : Hid (QX (w4.alloc (.cells #[.int .i64 n, .slice xa lo.length xc, .slice ya rs.length yc] 25)) w4.heap.size (.int .i64 n) (.slice xa lo.length xc) (.slice ya rs.length yc)) := QX.new _ _ _ _
        have hnb := hb4.size
        clear hol hor hb4 q0 q1 q2 Q3
        go_upto_region 9 with fail
        generalize w4.alloc (.cells #[.int .i64 n, .slice xa lo.length xc, .slice ya rs.length yc] 25) = W5 at *
        generalize w4.heap.size = nb at *
        have B5 : Hid (Below w3.heap.size w3 W5) := b5
        have hs5 := b5.size
        have mb : W5.heap[w.heap.size + 1]? = some (.cells #[.int .i64 m.1, .int .i64 m.2] 27 (0, 0)) := (b5.block _ (by omega)).trans M3.out
        have mc0 : W5.cell? ⟨w.heap.size + 1, 0, none⟩ = some (.int .i64 m.1) := boxQ_cells mb 0
        have mc1 : W5.cell? ⟨w.heap.size + 1, 1, none⟩ = some (.int .i64 m.2) := boxQ_cells mb 1
        obtain ⟨x0, x1, x2, x3, x4, x5⟩ := X5.out.all
        have A5 : Hid (QX (W5.alloc (.cells #[.int .i64 m.1, .int .i64 m.2] 27)) nb (.int .i64 n) (.slice xa lo.length xc) (.slice ya rs.length yc)) := X5.out.below (below_alloc _ _) X5.out.lt
        have D5 : Hid (OwnBs (W5.alloc (.cells #[.int .i64 m.1, .int .i64 m.2] 27)) w3.heap.size (.slice ya rs.length yc) rs) := O5.out.kept (Kept.of (S := fun _ => False) (below_alloc _ _)) (fun _ _ h => h)
        have C5 : Hid (Below w3.heap.size w3 (W5.alloc (.cells #[.int .i64 m.1, .int .i64 m.2] 27))) := b5.alloc hs5 _
        clear b5 mb M3
        go_wp2_with (at_builtin; refine wpList_append_newK kM rfl _ _ rfl w3.heap.size _ lo rfl (L5.out.alloc _) W5.heap.size m rfl #[.int .i64 m.1, .int .i64 m.2] rfl (0, 0) (heap_alloc_new _ _) (by simp [kM]; omega) (by unfold maxLen; omega) (by simp; omega) ?_)
        intro g gc w6 hol6 hb6 hg6
        have L6 : Hid (w6.ownsRow w3.heap.size 27 2 (.slice (some ⟨g, 0, none⟩) (lo.length + 1) gc) (lo ++ [m]).length ((lo ++ [m]).flatMap encM)) := by show World.ownsRow _ _ _ _ _ _ _; simpa [kM] using hol6
        have X6 : Hid (QX w6 nb (.int .i64 n) (.slice xa lo.length xc) (.slice ya rs.length yc)) := A5.out.grown (L5.out.alloc _) (by decide) hg6
        have O6 : Hid (OwnBs w6 w3.heap.size (.slice ya rs.length yc) rs) := D5.out.past (L5.out.alloc _) (by decide) (by decide) hg6
        have B6 : Hid (Below w3.heap.size w3 w6) := C5.out.trans hb6
        obtain ⟨y0, y1, y2, y3, y4, y5⟩ := X6.out.all
        have X7 : Hid (QX (w6.setCell ⟨nb, 1, none⟩ (.slice (some ⟨g, 0, none⟩) (lo.length + 1) gc)) nb (.int .i64 n) (.slice (some ⟨g, 0, none⟩) (lo.length + 1) gc) (.slice ya rs.length yc)) := X6.out.set1 _
        have L7 : Hid ((w6.setCell ⟨nb, 1, none⟩ (.slice (some ⟨g, 0, none⟩) (lo.length + 1) gc)).ownsRow w3.heap.size 27 2 (.slice (some ⟨g, 0, none⟩) (lo.length + 1) gc) (lo ++ [m]).length ((lo ++ [m]).flatMap encM)) := X6.out.own L6.out (by decide)
        have O7 : Hid (OwnBs (w6.setCell ⟨nb, 1, none⟩ (.slice (some ⟨g, 0, none⟩) (lo.length + 1) gc)) w3.heap.size (.slice ya rs.length yc) rs) := O6.out.boxQ X6.out
        have B7 : Hid (Below w3.heap.size w3 (w6.setCell ⟨nb, 1, none⟩ (.slice (some ⟨g, 0, none⟩) (lo.length + 1) gc))) := B6.out.setCell hnb _
        clear hol6 hb6 hg6 X5 L5 O5 A5 D5 C5 x0 x1 x2 x3 x4 x5 mc0 mc1 L6 O6 B6 B5
        go_upto_region 10 with fail
        clear y0 y1 y2 y3 y4 y5 X6
        generalize w6.setCell ⟨nb, 1, none⟩ (.slice (some ⟨g, 0, none⟩) (lo.length + 1) gc) = W7 at *
        have T7 : Hid (QX W7 (w.heap.size + 2) (.int .i64 0) (.slice none 0 0) (.slice none 0 0)) := T3.out.below B7.out (by omega)
        have Z7 : Hid (Below w.heap.size w W7) := (BH.out.trans (B3.out.mono (by omega))).trans (B7.out.mono (by omega))
        have hl7 : lo.length + 1 ≤ 1000 := by omega
        obtain ⟨x0, x1, x2, x3, x4, x5⟩ := X7.out.all
        obtain ⟨t0, t1, t2, t3, t4, t5⟩ := T7.out.all
        have hs7 := B7.out.size
        by_cases hbud : (lo.length : Int) + 1 = n
        · have ep : ∀ args w, (callFunc 29 args).run Try.prog w = .ok (.enter 29 args) w := enters_of Try.func29 (by kernel_rfl) rfl
          have heq : (((lo.length + 1 : Nat) : Int) == n) = true := by rw [beq_iff_eq]; omega
          have hlen : (lo ++ [m]).length ≤ 1000 := by simp; omega
          have MR : Hid (MlR W7 (.slice (some ⟨g, 0, none⟩) (lo.length + 1) gc) (lo ++ [m])) := MlR.ownd L7.out
          have EL : Hid (looF n lo m = []) := if_pos hbud
          have ER : Hid (rnsF n lo rs m = rs ++ [runB (sortM (lo ++ [m]))]) := if_pos hbud
          have KEEP : Hid (∀ V, Below W7.heap.size W7 V → V.cell? ⟨nb, 2, none⟩ = some (.slice ya rs.length yc) ∧ V.cell? ⟨nb, 1, none⟩ = some (.slice (some ⟨g, 0, none⟩) (lo.length + 1) gc)) := fun V hV => ⟨(hV.cell (p := ⟨nb, 2, none⟩) X7.out.lt).trans x2, (hV.cell (p := ⟨nb, 1, none⟩) X7.out.lt).trans x1⟩
          have HSD : Hid (_ ∧ _) := KEEP.out W7.drew (Below.refl _ _).drew
          have hrs5 : rs.length ≤ 5000 := h4
          generalize lo.length + 1 = t9 at *
          clear L7 hl7
          go_upto_region 11 with fail
          refine region_lastF (S := fun V => V.cell? ⟨nb, 2, none⟩ = some (.slice ya rs.length yc) ∧ V.cell? ⟨nb, 1, none⟩ = some (.slice (some ⟨g, 0, none⟩) t9 gc)) (by kernel_rfl) rfl (by kernel_rfl) (by kernel_rfl) ?_
          simp only [List.pop_toArray, List.dropLast_cons_cons, List.dropLast_singleton, List.size_toArray, List.length_cons, List.length_nil, Nat.reduceAdd]
          refine takeH (i := 0) (v := .pointer (some ⟨nb, 2, none⟩)) (d := 47) rfl rfl (by kernel_rfl) (by kernel_rfl) (by kernel_rfl) (fun _ _ _ h => h) (by rfl) (fun V hV => by obtain ⟨v1, v2⟩ := hV; go_simp) HSD.out ?_
          simp only [Act.put, List.setIfInBounds_toArray, List.set_cons_zero, List.set_cons_succ]
          refine takeH (i := 1) (v := .slice ya rs.length yc) (d := 48) rfl rfl (by kernel_rfl) (by kernel_rfl) (by kernel_rfl) (fun _ _ _ h => h) (by rfl) (fun V hV => by obtain ⟨v1, v2⟩ := hV; go_simp) HSD.out ?_
          simp only [Act.put, List.setIfInBounds_toArray, List.set_cons_zero, List.set_cons_succ]
          refine takeH (i := 2) (v := .pointer (some ⟨nb, 1, none⟩)) (d := 49) rfl rfl (by kernel_rfl) (by kernel_rfl) (by kernel_rfl) (fun _ _ _ h => h) (by rfl) (fun V hV => by obtain ⟨v1, v2⟩ := hV; go_simp) HSD.out ?_
          simp only [Act.put, List.setIfInBounds_toArray, List.set_cons_zero, List.set_cons_succ]
          refine takeH (i := 3) (v := .slice (some ⟨g, 0, none⟩) t9 gc) (d := 50) rfl rfl (by kernel_rfl) (by kernel_rfl) (by kernel_rfl) (fun _ _ _ h => h) (by rfl) (fun V hV => by obtain ⟨v1, v2⟩ := hV; go_simp) HSD.out ?_
          simp only [Act.put, List.setIfInBounds_toArray, List.set_cons_zero, List.set_cons_succ]
          refine oneH (i := 4) rfl (by kernel_rfl) rfl (call_gets (d := 51) (f := 29) (xs := #[.tmp 50]) (ats := #[22]) rfl rfl ep (vs := #[.slice (some ⟨g, 0, none⟩) t9 gc]) (by simp [Act.eval]) (pack_any _ (lo ++ [m]) _ (MR.out.below (Below.refl _ _).drew (Nat.le_refl _)) HMA.out hlen) ?_)
          intro v8 w8 h8
          obtain ⟨ho8, hb8⟩ := h8
          have C8 : Below W7.heap.size W7 w8 := below_undrew hb8
          have HS8 : Hid (_ ∧ _) := KEEP.out w8 C8
          refine ⟨HS8.out, ?_⟩
          simp only [Act.put, List.setIfInBounds_toArray, List.set_cons_zero, List.set_cons_succ]
          generalize runB (sortM (lo ++ [m])) = rb at *
          have A8 : Below W7.heap.size W7 (w8.alloc (.cells #[v8] 50)) := C8.alloc C8.size _
          have HS9 : Hid (_ ∧ _) := KEEP.out (w8.alloc (.cells #[v8] 50)) A8
          obtain ⟨za, zc, rfl⟩ : ∃ za zc, v8 = .slice za rb.length zc := by obtain ⟨x, y, e, _⟩ := reads_own ho8; exact ⟨x, y, e⟩
          refine oneH (i := 5) rfl (by kernel_rfl) rfl (op_run (d := 52) (v' := .slice (some ⟨w8.heap.size, 0, none⟩) 1 1) (w' := w8.alloc (.cells #[.slice za rb.length zc] 50)) rfl (by go_simp) ⟨HS9.out, ?_⟩)
          simp only [Act.put, List.setIfInBounds_toArray, List.set_cons_zero, List.set_cons_succ]
          have OB : OwnBs (w8.alloc (.cells #[.slice za rb.length zc] 50)) w3.heap.size (.slice ya rs.length yc) rs := O7.out.kept (Kept.of (S := fun _ => False) A8) (fun _ _ h => h)
          obtain ⟨gg, ggc, w9, hrun, hob, hgr, _⟩ := run_append_bs 23 w3.heap.size (.slice ya rs.length yc) rs OB w8.heap.size (.slice za rb.length zc) rb (0, 0) (heap_alloc_new _ _) ((own_lower ho8 (by simp; omega)).alloc _) (by omega) (by have := A8.size; omega)
          obtain ⟨us, hus⟩ := OB.row
          have X9 : Hid (QX w9 nb (.int .i64 n) (.slice (some ⟨g, 0, none⟩) t9 gc) (.slice ya rs.length yc)) := (X7.out.below A8 X7.out.lt).grown hus (by decide) hgr
          refine oneH (i := 6) rfl (by kernel_rfl) rfl (call_append (d := 53) (s := .tmp 48) (x := .tmp 52) (t := 23) rfl rfl (v := .slice ya rs.length yc) (v2 := .slice (some ⟨w8.heap.size, 0, none⟩) 1 1) (by simp [Act.eval]) (by simp [Act.eval]) hrun ⟨⟨X9.out.cells.2.2, X9.out.cells.2.1⟩, ?_⟩)
          simp only [Act.put, List.setIfInBounds_toArray, List.set_cons_zero, List.set_cons_succ]
          refine takeH (i := 7) (v := .pointer (some ⟨nb, 2, none⟩)) (d := 54) rfl rfl (by kernel_rfl) (by kernel_rfl) (by kernel_rfl) (fun _ _ _ h => h) (by rfl) (fun V hV => by obtain ⟨v1, v2⟩ := hV; go_simp) ⟨X9.out.cells.2.2, X9.out.cells.2.1⟩ ?_
          simp only [Act.put, List.setIfInBounds_toArray, List.set_cons_zero, List.set_cons_succ]
          refine wpAnyH_done (by kernel_rfl) ?_ _
          have K9 : Kept (fun q => (Value.slice ya rs.length yc).ownBlock = some q) W7 w9 := (Kept.of (S := fun q => (Value.slice ya rs.length yc).ownBlock = some q) A8).grown hgr (fun q hq => .inl hq)
          have B9 : Hid (Below w3.heap.size w3 w9) := B7.out.trans (K9.below hs7 (fun q hq => (own_geB hus hq).1))
          have T9 : Hid (QX w9 (w.heap.size + 2) (.int .i64 0) (.slice none 0 0) (.slice none 0 0)) := T3.out.below B9.out (by omega)
          have Z9 : Hid (Below w.heap.size w w9) := (BH.out.trans (B3.out.mono (by omega))).trans (B9.out.mono (by omega))
          have O9 : Hid (OwnBs w9 w3.heap.size (.slice (some ⟨gg, 0, none⟩) (rs.length + 1) ggc) (rs ++ [rb])) := hob
          have hnt : nb ≠ w.heap.size + 2 := by omega
          have T10 : Hid (QX ((w9.setCell ⟨nb, 2, none⟩ (.slice (some ⟨gg, 0, none⟩) (rs.length + 1) ggc)).setCell ⟨nb, 1, none⟩ (.slice none 0 0)) (w.heap.size + 2) (.int .i64 0) (.slice none 0 0) (.slice none 0 0)) := (T9.out.other hnt.symm).other hnt.symm
          have X10 : Hid (QX ((w9.setCell ⟨nb, 2, none⟩ (.slice (some ⟨gg, 0, none⟩) (rs.length + 1) ggc)).setCell ⟨nb, 1, none⟩ (.slice none 0 0)) nb (.int .i64 n) (.slice none 0 0) (.slice (some ⟨gg, 0, none⟩) (rs.length + 1) ggc)) := (X9.out.set2 _).set1 _
          have O10 : Hid (OwnBs ((w9.setCell ⟨nb, 2, none⟩ (.slice (some ⟨gg, 0, none⟩) (rs.length + 1) ggc)).setCell ⟨nb, 1, none⟩ (.slice none 0 0)) w3.heap.size (.slice (some ⟨gg, 0, none⟩) (rs.length + 1) ggc) (rs ++ [rb])) := (O9.out.boxQ X9.out).boxQ (X9.out.set2 _)
          have Z10 : Hid (Below w.heap.size w ((w9.setCell ⟨nb, 2, none⟩ (.slice (some ⟨gg, 0, none⟩) (rs.length + 1) ggc)).setCell ⟨nb, 1, none⟩ (.slice none 0 0))) := (Z9.out.setCell (show w.heap.size ≤ nb by omega) _).setCell (show w.heap.size ≤ nb by omega) _
          obtain ⟨y0, y1, y2, y3, y4, y5⟩ := X9.out.all
          have hrn : ∃ rn, rs.length + 1 = rn := ⟨_, rfl⟩
          clear hob hgr hrun hus K9 OB HS8 HS9 ho8 hb8 C8 A8 HSD KEEP B9 O9 x0 x1 x2 x3 x4 x5 t0 t1 t2 t3 t4 t5 MR hrn
          generalize rs.length + 1 = rn at *
          show Oper.wp _ _ _ _ _ _
          go_upto_region 13 with fail
          clear y0 y1 y2 y3 y4 y5 X9 T9 Z9
          generalize (w9.setCell ⟨nb, 2, none⟩ (.slice (some ⟨gg, 0, none⟩) rn ggc)).setCell ⟨nb, 1, none⟩ (.slice none 0 0) = WX at *
          obtain ⟨x0, x1, x2, x3, x4, x5⟩ := X10.out.all
          obtain ⟨t0, t1, t2, t3, t4, t5⟩ := T10.out.all
          have HX : Hid (P (.returned (.tuple #[.agg #[.int .i64 n, .slice none 0 0, .slice (some ⟨gg, 0, none⟩) rn ggc], .int .i64 0])) (putQ WX (w.heap.size + 2) (.int .i64 n) (.slice none 0 0) (.slice (some ⟨gg, 0, none⟩) rn ggc))) := HE.out _ _ _ (by rw [EL.out]; exact World.ownsRow_nil _ _ _ _) (by rw [ER.out]; exact (OwnBs.putQ T10.out O10.out).lower (by omega)) (below_putQ Z10.out (by omega) _ _ _)
          go_wp2_with fail
          have r := (T10.out.put (.int .i64 n) (.slice none 0 0) (.slice (some ⟨gg, 0, none⟩) rn ggc)).cells
          unfold putQ at r
          obtain ⟨r0, r1, r2⟩ := r
          exact bodyPost_ret (v := .tuple #[.agg #[.int .i64 n, .slice none 0 0, .slice (some ⟨gg, 0, none⟩) rn ggc], .int .i64 0]) (by simp [results, Try.results10, go_sem, r0, r1, r2]) rfl HX.out
        · have heq : (((lo.length + 1 : Nat) : Int) == n) = false := by rw [beq_eq_false_iff_ne]; omega
          have HX : Hid (P (.returned (.tuple #[.agg #[.int .i64 n, .slice (some ⟨g, 0, none⟩) (lo.length + 1) gc, .slice ya rs.length yc], .int .i64 0])) (putQ W7 (w.heap.size + 2) (.int .i64 n) (.slice (some ⟨g, 0, none⟩) (lo.length + 1) gc) (.slice ya rs.length yc))) := HE.out _ _ _ (by rw [show looF n lo m = lo ++ [m] from if_neg hbud]; exact own_lower (T7.out.ownPut L7.out (by decide)) (by omega)) (by rw [show rnsF n lo rs m = rs from if_neg hbud]; exact (OwnBs.putQ T7.out O7.out).lower (by omega)) (below_putQ Z7.out (by omega) _ _ _)
          generalize lo.length + 1 = t9 at *
          go_wp2_with fail
          have r := (T7.out.put (.int .i64 n) (.slice (some ⟨g, 0, none⟩) t9 gc) (.slice ya rs.length yc)).cells
          unfold putQ at r
          obtain ⟨r0, r1, r2⟩ := r
          exact bodyPost_ret (v := .tuple #[.agg #[.int .i64 n, .slice (some ⟨g, 0, none⟩) t9 gc, .slice ya rs.length yc], .int .i64 0]) (by simp [results, Try.results10, go_sem, r0, r1, r2]) rfl HX.out
end Go.Proofs.Ytihghhmhgakkaaa

namespace Go.Proofs.Ytihghhmhgakkaaa
set_option maxRecDepth 100000
open Go.ChangeShapes Go.WideShapes Go.ChangeAt Go.RowKit

/-- What filled answers. -/
def FilO (w : World) (B : Nat) (l : List Ml) (e : Ending) (w' : World) : Prop :=
  ∃ (lo : List Ml) (rs : List (List Int)) (f : List (List Ml)) (vl vr : Value) (most : Nat), e = .returned (.tuple #[.agg #[.int .i64 B, vl, vr], .int .i64 most, .bool true]) ∧ Fil B l lo rs f ∧ most < B ∧ (w'.ownsRow w.heap.size 27 2 vl lo.length (lo.flatMap encM) ∧ OwnBs w' w.heap.size vr rs) ∧ Below w.heap.size w w'

/-- Push, where it refuses nothing. -/
theorem push_okO (n : Int) (vl vr : Value) (lo : List Ml) (rs : List (List Int)) (m : Ml) (w : World) (h : QuR w vl vr lo rs) (hB : QuB lo rs) (hp : pushE lo m (quF n lo rs) = 0) :
    Calls Try.prog 10 #[.agg #[.int .i64 n, vl, vr], .agg #[.int .i64 m.1, .int .i64 m.2]] w fun e w' => ∃ v, e = .returned v ∧ ∃ ya yc za zc, v = .tuple #[.agg #[.int .i64 n, .slice ya (looF n lo m).length yc, .slice za (rnsF n lo rs m).length zc], .int .i64 0] ∧ (w'.ownsRow w.heap.size 27 2 (.slice ya (looF n lo m).length yc) (looF n lo m).length ((looF n lo m).flatMap encM) ∧ OwnBs w' w.heap.size (.slice za (rnsF n lo rs m).length zc) (rnsF n lo rs m)) ∧ Below w.heap.size w w' := by
  have := push_any n vl vr lo rs m w h hB
  rw [hp] at this
  refine this.mono ?_
  rintro e w' ⟨yl, yr, rfl, h1, h2, h3⟩
  rw [okL_yes] at h1 h2
  have q1 := MlR.ownd h1
  have q2 := h2.reads
  obtain ⟨ya, yc, rfl⟩ := q1.shape
  obtain ⟨za, zc, rfl, _⟩ := id q2
  exact ⟨_, rfl, ya, yc, za, zc, rfl, ⟨h1, h2⟩, h3⟩

set_option maxHeartbeats 4000000 in
set_option maxRecDepth 100000 in
theorem filled_own (B : Nat) (v : Value) (l : List Ml) (w : World) (h : MlR w v l) (hm : mayA l = true) (hB1 : 1 ≤ B) (hB2 : B ≤ 1000) (hl : l.length ≤ 40) :
    Calls Try.prog 20 #[.int .i64 B, v] w (FilO w B l) := by
  have HR : Hid (MlR w v l) := h
  have HM : Hid (∀ x ∈ l, mayM x = true) := mayA_iff.1 hm
  obtain ⟨a, cap, rfl⟩ := h.shape
  have HE : Hid (∀ lo rs f vl vr (most : Nat) w', Fil B l lo rs f → most < B → (w'.ownsRow w.heap.size 27 2 vl lo.length (lo.flatMap encM) ∧ OwnBs w' w.heap.size vr rs) → Below w.heap.size w w' → FilO w B l (.returned (.tuple #[.agg #[.int .i64 B, vl, vr], .int .i64 most, .bool true])) w') := fun lo rs f vl vr most w' h1 h2 h3 h4 => ⟨lo, rs, f, vl, vr, most, rfl, h1, h2, h3, h4⟩
  generalize FilO w B l = P at *
  clear h hm
  go_enter Try.func20, Try.ntmps20
  go_upto_region 1 with fail
  have T0 : Hid (QX (w.alloc (.cells #[.int .i64 0, .slice none 0 0, .slice none 0 0] 25)) w.heap.size (.int .i64 0) (.slice none 0 0) (.slice none 0 0)) := QX.new _ _ _ _
  have B0 : Hid (Below w.heap.size w (w.alloc (.cells #[.int .i64 0, .slice none 0 0, .slice none 0 0] 25))) := below_alloc _ _
  have hs0 : w.heap.size < (w.alloc (.cells #[.int .i64 0, .slice none 0 0, .slice none 0 0] 25)).heap.size := by simp
  generalize w.alloc (.cells #[.int .i64 0, .slice none 0 0, .slice none 0 0] 25) = W0 at *
  go_upto_region 2 with fail
  have X1 : Hid (QX (W0.alloc (.cells #[.int .i64 (B : Int), .slice none 0 0, .slice none 0 0] 25)) W0.heap.size (.int .i64 (B : Int)) (.slice none 0 0) (.slice none 0 0)) := QX.new _ _ _ _
  have B1 : Hid (Below W0.heap.size W0 (W0.alloc (.cells #[.int .i64 (B : Int), .slice none 0 0, .slice none 0 0] 25))) := below_alloc _ _
  generalize W0.alloc (.cells #[.int .i64 (B : Int), .slice none 0 0, .slice none 0 0] 25) = W1 at *
  have F1 : Hid (Fil B [] [] [] []) := Fil.nil hB1 hB2
  go_wp2_with fail
  go_loopw [8, 9] (fun y i wr => ∃ (k most : Nat) (lo : List Ml) (rs : List (List Int)) (f : List (List Ml)) (vl vr : Value), k ≤ l.length ∧ i = .int .i64 k ∧ y = .int .i64 most ∧ most < B ∧ Fil B (l.take k) lo rs f ∧ QX wr W0.heap.size (.int .i64 (B : Int)) vl vr ∧ (wr.ownsRow W0.heap.size 27 2 vl lo.length (lo.flatMap encM) ∧ OwnBs wr W0.heap.size vr rs) ∧ Below W0.heap.size W0 wr) (fun _ i _ => l.length - (intOf i).toNat)
  case atStart => exact ⟨0, 0, [], [], [], _, _, by omega, rfl, rfl, by omega, F1.out, X1.out, ⟨World.ownsRow_nil _ _ _ _, OwnBs.nil _ _⟩, B1.out⟩
  case round =>
    obtain ⟨k, most, lo, rs, f, vl, vr, hk, rfl, rfl, hmo, hfl, hqx, hqr, hbel⟩ := hrel
    have FL : Hid (Fil B (l.take k) lo rs f) := hfl
    have QR : Hid (QX wr W0.heap.size (.int .i64 (B : Int)) vl vr) := hqx
    have RR : Hid (QuR wr vl vr lo rs) := ⟨MlR.ownd hqr.1, hqr.2.reads⟩
    have RO : Hid (wr.ownsRow W0.heap.size 27 2 vl lo.length (lo.flatMap encM) ∧ OwnBs wr W0.heap.size vr rs) := hqr
    have HB : Hid (Below W0.heap.size W0 wr) := hbel
    have hsr := hbel.size
    obtain ⟨la, lc, rfl⟩ := RR.out.1.shape
    obtain ⟨ra, rc, rfl, _⟩ := id RR.out.2
    obtain ⟨x0, x1, x2⟩ := hqx.cells
    clear hfl hqx hqr hbel X1 B1 F1
    by_cases hlt : k < l.length
    · obtain ⟨b, off, cap', e1, _, _, lt, hv⟩ := MlR.at ((HR.out.below B0.out (Nat.le_refl _)).below HB.out (Nat.le_refl _)) (by omega)
      injection e1 with e1 e9 e3
      subst e1 e3
      clear e9
      obtain ⟨x, hx⟩ := getX hlt
      obtain ⟨c1, c2⟩ := hv k x hx
      have hxm := HM.out x (List.mem_of_getElem? hx)
      have htk : (l.take k).length ≤ k := List.length_take_le _ _
      have hpe : pushE lo x (quF (B : Int) lo rs) = 0 := FL.out.err (by omega) hxm
      have HT : Hid (l.take (k + 1) = l.take k ++ [x]) := take_snoc hx
      have F2 : Hid (∃ f', Fil B (l.take (k + 1)) (looF (B : Int) lo x) (rnsF (B : Int) lo rs x) f') := by show ∃ f', _; rw [HT.out]; exact FL.out.step hB1 hB2 (by omega) hxm
      have p0 : (0 : Int) ≤ (k : Int) := by omega
      have p1 : (k : Int) < (l.length : Int) := by omega
      clear hv hx
      have epu : ∀ args w, (callFunc 10 args).run Try.prog w = .ok (.enter 10 args) w := enters_of Try.func10 (by kernel_rfl) rfl
      have KEEP : Hid (∀ V, Below wr.heap.size wr V → V.cell? ⟨W0.heap.size, 0, none⟩ = some (.int .i64 (B : Int)) ∧ V.cell? ⟨W0.heap.size, 1, none⟩ = some (.slice la lo.length lc) ∧ V.cell? ⟨W0.heap.size, 2, none⟩ = some (.slice ra rs.length rc) ∧ V.cell? ⟨b, off + k * 2, none⟩ = some (.int .i64 x.1) ∧ V.cell? ⟨b, off + k * 2 + 1, none⟩ = some (.int .i64 x.2)) := fun V hV => ⟨(hV.cell (p := ⟨W0.heap.size, 0, none⟩) QR.out.lt).trans x0, (hV.cell (p := ⟨W0.heap.size, 1, none⟩) QR.out.lt).trans x1, (hV.cell (p := ⟨W0.heap.size, 2, none⟩) QR.out.lt).trans x2, (hV.cell (p := ⟨b, off + k * 2, none⟩) lt).trans c1, (hV.cell (p := ⟨b, off + k * 2 + 1, none⟩) lt).trans c2⟩
      have HPU : Hid (∀ X, QuR X (.slice la lo.length lc) (.slice ra rs.length rc) lo rs → Calls Try.prog 10 #[.agg #[.int .i64 (B : Int), .slice la lo.length lc, .slice ra rs.length rc], .agg #[.int .i64 x.1, .int .i64 x.2]] X fun e w' => ∃ v, e = .returned v ∧ ∃ ya yc za zc, v = .tuple #[.agg #[.int .i64 (B : Int), .slice ya (looF (B : Int) lo x).length yc, .slice za (rnsF (B : Int) lo rs x).length zc], .int .i64 0] ∧ (w'.ownsRow X.heap.size 27 2 (.slice ya (looF (B : Int) lo x).length yc) (looF (B : Int) lo x).length ((looF (B : Int) lo x).flatMap encM) ∧ OwnBs w' X.heap.size (.slice za (rnsF (B : Int) lo rs x).length zc) (rnsF (B : Int) lo rs x)) ∧ Below X.heap.size X w') := fun X hX => push_okO (B : Int) _ _ lo rs x X hX FL.out.bound hpe
      have HSD : Hid (_ ∧ _ ∧ _ ∧ _ ∧ _) := KEEP.out wr.drew (Below.refl _ _).drew
      clear hpe FL
      generalize looF (B : Int) lo x = LL at *
      generalize rnsF (B : Int) lo rs x = NN at *
      go_upto_region 6 with fail
      clear x0 x1 x2 c1 c2
      apply Hid.cut
      case h =>
        intro HG
        refine region_lastF (S := fun V => V.cell? ⟨W0.heap.size, 0, none⟩ = some (.int .i64 (B : Int)) ∧ V.cell? ⟨W0.heap.size, 1, none⟩ = some (.slice la lo.length lc) ∧ V.cell? ⟨W0.heap.size, 2, none⟩ = some (.slice ra rs.length rc) ∧ V.cell? ⟨b, off + k * 2, none⟩ = some (.int .i64 x.1) ∧ V.cell? ⟨b, off + k * 2 + 1, none⟩ = some (.int .i64 x.2)) (by kernel_rfl) rfl (by kernel_rfl) (by kernel_rfl) ?_
        simp only [List.pop_toArray, List.dropLast_cons_cons, List.dropLast_singleton, List.size_toArray, List.length_cons, List.length_nil, Nat.reduceAdd]
        refine takeH (i := 0) (v := .agg #[.int .i64 (B : Int), .slice la lo.length lc, .slice ra rs.length rc]) (d := 21) rfl rfl (by kernel_rfl) (by kernel_rfl) (by kernel_rfl) (fun _ _ _ h => h) (by rfl) (fun V hV => by obtain ⟨v1, v2, v3, v4, v5⟩ := hV; go_simp) HSD.out ?_
        simp only [Act.put, List.setIfInBounds_toArray, List.set_cons_zero, List.set_cons_succ]
        refine takeH (i := 1) (v := .slice (some ⟨b, off, none⟩) l.length cap) (d := 22) rfl rfl (by kernel_rfl) (by kernel_rfl) (by kernel_rfl) (fun _ _ _ h => h) (by rfl) (fun V hV => by obtain ⟨v1, v2, v3, v4, v5⟩ := hV; go_simp) HSD.out ?_
        simp only [Act.put, List.setIfInBounds_toArray, List.set_cons_zero, List.set_cons_succ]
        refine takeH (i := 2) (v := .int .i64 (k : Int)) (d := 23) rfl rfl (by kernel_rfl) (by kernel_rfl) (by kernel_rfl) (fun _ _ _ h => h) (by rfl) (fun V hV => by obtain ⟨v1, v2, v3, v4, v5⟩ := hV; go_simp) HSD.out ?_
        simp only [Act.put, List.setIfInBounds_toArray, List.set_cons_zero, List.set_cons_succ]
        refine takeH (i := 3) (v := .pointer (some ⟨b, off + k * 2, none⟩)) (d := 24) rfl rfl (by kernel_rfl) (by kernel_rfl) (by kernel_rfl) (fun _ _ _ h => h) (by rfl) (fun V hV => by obtain ⟨v1, v2, v3, v4, v5⟩ := hV; go_simp) HSD.out ?_
        simp only [Act.put, List.setIfInBounds_toArray, List.set_cons_zero, List.set_cons_succ]
        refine takeH (i := 4) (v := .agg #[.int .i64 x.1, .int .i64 x.2]) (d := 25) rfl rfl (by kernel_rfl) (by kernel_rfl) (by kernel_rfl) (fun _ _ _ h => h) (by rfl) (fun V hV => by obtain ⟨v1, v2, v3, v4, v5⟩ := hV; go_simp) HSD.out ?_
        simp only [Act.put, List.setIfInBounds_toArray, List.set_cons_zero, List.set_cons_succ]
        refine twoH (i := 5) (j := 9) rfl rfl (by kernel_rfl) rfl rfl (call_gets (d := 26) (f := 10) (xs := #[.tmp 21, .tmp 25]) (ats := #[25, 27]) rfl rfl epu (vs := #[.agg #[.int .i64 (B : Int), .slice la lo.length lc, .slice ra rs.length rc], .agg #[.int .i64 x.1, .int .i64 x.2]]) (by simp [Act.eval]) (HPU.out _ (RR.out.below (Below.refl _ _).drew (Nat.le_refl _))) ?_) ?_
        · intro v2 w2 h2
          obtain ⟨ya, yc, za, zc, rfl, hq2, hb2⟩ := h2
          have C2 : Below wr.heap.size wr w2 := below_undrew hb2
          have HS2 : Hid (_ ∧ _ ∧ _ ∧ _ ∧ _) := KEEP.out w2 C2
          have HS3 : Hid (_ ∧ _ ∧ _ ∧ _ ∧ _) := KEEP.out (w2.alloc (.cells #[.int .i64 0, .slice none 0 0, .slice none 0 0] 25)) (C2.alloc C2.size _)
          refine ⟨HS2.out, ?_⟩
          simp only [Act.put, List.setIfInBounds_toArray, List.set_cons_zero, List.set_cons_succ]
          refine takeH (i := 6) (v := .tuple #[.agg #[.int .i64 (B : Int), .slice ya LL.length yc, .slice za NN.length zc], .int .i64 0]) (d := 20) rfl rfl (by kernel_rfl) (by kernel_rfl) (by kernel_rfl) (fun _ _ _ h => h) (by rfl) (fun V hV => by obtain ⟨v1, v2, v3, v4, v5⟩ := hV; go_simp) HS2.out ?_
          simp only [Act.put, List.setIfInBounds_toArray, List.set_cons_zero, List.set_cons_succ]
          refine takeH (i := 7) (v := .agg #[.int .i64 (B : Int), .slice ya LL.length yc, .slice za NN.length zc]) (d := 27) rfl rfl (by kernel_rfl) (by kernel_rfl) (by kernel_rfl) (fun _ _ _ h => h) (by rfl) (fun V hV => by obtain ⟨v1, v2, v3, v4, v5⟩ := hV; go_simp) HS2.out ?_
          simp only [Act.put, List.setIfInBounds_toArray, List.set_cons_zero, List.set_cons_succ]
          refine takeH (i := 8) (v := .int .i64 0) (d := 28) rfl rfl (by kernel_rfl) (by kernel_rfl) (by kernel_rfl) (fun _ _ _ h => h) (by rfl) (fun V hV => by obtain ⟨v1, v2, v3, v4, v5⟩ := hV; go_simp) HS2.out ?_
          simp only [Act.put, List.setIfInBounds_toArray, List.set_cons_zero, List.set_cons_succ]
          refine oneH (i := 9) rfl (by kernel_rfl) rfl (op_run (d := 10) (v' := .pointer (some ⟨w2.heap.size, 0, none⟩)) (w' := w2.alloc (.cells #[.int .i64 0, .slice none 0 0, .slice none 0 0] 25)) rfl (by go_simp) ⟨HS3.out, ?_⟩)
          simp only [Act.put, List.setIfInBounds_toArray, List.set_cons_zero, List.set_cons_succ]
          have NX : Hid (QX (w2.alloc (.cells #[.int .i64 0, .slice none 0 0, .slice none 0 0] 25)) w2.heap.size (.int .i64 0) (.slice none 0 0) (.slice none 0 0)) := QX.new _ _ _ _
          have NB : Hid (Below wr.heap.size wr (w2.alloc (.cells #[.int .i64 0, .slice none 0 0, .slice none 0 0] 25))) := C2.alloc C2.size _
          have NL : Hid (wr.heap.size ≤ w2.heap.size) := C2.size
          have NP : Hid ((putQ (w2.alloc (.cells #[.int .i64 0, .slice none 0 0, .slice none 0 0] 25)) w2.heap.size (.int .i64 (B : Int)) (.slice ya LL.length yc) (.slice za NN.length zc)).ownsRow wr.heap.size 27 2 (.slice ya LL.length yc) LL.length (LL.flatMap encM) ∧ OwnBs (putQ (w2.alloc (.cells #[.int .i64 0, .slice none 0 0, .slice none 0 0] 25)) w2.heap.size (.int .i64 (B : Int)) (.slice ya LL.length yc) (.slice za NN.length zc)) wr.heap.size (.slice za NN.length zc) NN) := ⟨NX.out.ownPut (hq2.1.alloc _) (by decide), OwnBs.putQ NX.out (hq2.2.kept (Kept.of (S := fun _ => False) (below_alloc _ _)) (fun _ _ h => h))⟩
          obtain ⟨n0, n1, n2, n3, n4, n5⟩ := NX.out.all
          have Z2 : Hid (_ ∧ _ ∧ _ ∧ _ ∧ _) := KEEP.out (putQ (w2.alloc (.cells #[.int .i64 0, .slice none 0 0, .slice none 0 0] 25)) w2.heap.size (.int .i64 (B : Int)) (.slice ya LL.length yc) (.slice za NN.length zc)) (below_putQ NB.out NL.out _ _ _)
          refine oneH (i := 10) rfl (by kernel_rfl) rfl (op_skip (w' := putQ (w2.alloc (.cells #[.int .i64 0, .slice none 0 0, .slice none 0 0] 25)) w2.heap.size (.int .i64 (B : Int)) (.slice ya LL.length yc) (.slice za NN.length zc)) rfl (by unfold putQ; go_simp) ⟨Z2.out, ?_⟩)
          try simp only [Act.put, List.setIfInBounds_toArray, List.set_cons_zero, List.set_cons_succ]
          refine wpAnyH_done (by kernel_rfl) ?_ _
          have FX : Hid (QX (putQ (w2.alloc (.cells #[.int .i64 0, .slice none 0 0, .slice none 0 0] 25)) w2.heap.size (.int .i64 (B : Int)) (.slice ya LL.length yc) (.slice za NN.length zc)) w2.heap.size (.int .i64 (B : Int)) (.slice ya LL.length yc) (.slice za NN.length zc)) := NX.out.put _ _ _
          have FB : Hid (Below wr.heap.size wr (putQ (w2.alloc (.cells #[.int .i64 0, .slice none 0 0, .slice none 0 0] 25)) w2.heap.size (.int .i64 (B : Int)) (.slice ya LL.length yc) (.slice za NN.length zc))) := below_putQ NB.out NL.out _ _ _
          show Oper.wp _ _ _ _ _ _
          refine op_run (d := 11) (v' := .int .i64 0) (w' := putQ (w2.alloc (.cells #[.int .i64 0, .slice none 0 0, .slice none 0 0] 25)) w2.heap.size (.int .i64 (B : Int)) (.slice ya LL.length yc) (.slice za NN.length zc)) rfl (by go_simp) ?_
          clear n0 n1 n2 n3 n4 n5 NX NB Z2 HS2 HS3 hq2 hb2 C2
          generalize putQ (w2.alloc (.cells #[.int .i64 0, .slice none 0 0, .slice none 0 0] 25)) w2.heap.size (.int .i64 (B : Int)) (.slice ya LL.length yc) (.slice za NN.length zc) = X at *
          generalize w2.heap.size = nx at *
          clear w2
          revert FX
          revert FB
          revert NP
          revert NL
          revert X
          revert nx
          revert zc
          revert za
          revert yc
          revert ya
          exact HG.out
        · have HS4 : Hid (_ ∧ _ ∧ _ ∧ _ ∧ _) := KEEP.out (wr.drew.alloc (.cells #[.int .i64 0, .slice none 0 0, .slice none 0 0] 25)) ((Below.refl _ _).drew.alloc (by simp) _)
          refine op_run (d := 10) (v' := .pointer (some ⟨wr.heap.size, 0, none⟩)) (w' := wr.drew.alloc (.cells #[.int .i64 0, .slice none 0 0, .slice none 0 0] 25)) rfl (by go_simp) ⟨HS4.out, ?_⟩
          simp only [Act.put, List.setIfInBounds_toArray, List.set_cons_zero, List.set_cons_succ]
          refine oneH (i := 5) rfl (by kernel_rfl) rfl (call_gets (d := 26) (f := 10) (xs := #[.tmp 21, .tmp 25]) (ats := #[25, 27]) rfl rfl epu (vs := #[.agg #[.int .i64 (B : Int), .slice la lo.length lc, .slice ra rs.length rc], .agg #[.int .i64 x.1, .int .i64 x.2]]) (by simp [Act.eval]) (HPU.out _ (RR.out.below ((Below.refl _ _).drew.alloc (by simp) _) (Nat.le_refl _))) ?_)
          intro v2 w2 h2
          obtain ⟨ya, yc, za, zc, rfl, hq2, hb2⟩ := h2
          have C2 : Below wr.heap.size wr w2 := ((Below.refl _ _).drew.alloc (by simp) _).trans (hb2.mono (by simp))
          have HS2 : Hid (_ ∧ _ ∧ _ ∧ _ ∧ _) := KEEP.out w2 C2
          refine ⟨HS2.out, ?_⟩
          simp only [Act.put, List.setIfInBounds_toArray, List.set_cons_zero, List.set_cons_succ]
          refine takeH (i := 6) (v := .tuple #[.agg #[.int .i64 (B : Int), .slice ya LL.length yc, .slice za NN.length zc], .int .i64 0]) (d := 20) rfl rfl (by kernel_rfl) (by kernel_rfl) (by kernel_rfl) (fun _ _ _ h => h) (by rfl) (fun V hV => by obtain ⟨v1, v2, v3, v4, v5⟩ := hV; go_simp) HS2.out ?_
          simp only [Act.put, List.setIfInBounds_toArray, List.set_cons_zero, List.set_cons_succ]
          refine takeH (i := 7) (v := .agg #[.int .i64 (B : Int), .slice ya LL.length yc, .slice za NN.length zc]) (d := 27) rfl rfl (by kernel_rfl) (by kernel_rfl) (by kernel_rfl) (fun _ _ _ h => h) (by rfl) (fun V hV => by obtain ⟨v1, v2, v3, v4, v5⟩ := hV; go_simp) HS2.out ?_
          simp only [Act.put, List.setIfInBounds_toArray, List.set_cons_zero, List.set_cons_succ]
          refine takeH (i := 8) (v := .int .i64 0) (d := 28) rfl rfl (by kernel_rfl) (by kernel_rfl) (by kernel_rfl) (fun _ _ _ h => h) (by rfl) (fun V hV => by obtain ⟨v1, v2, v3, v4, v5⟩ := hV; go_simp) HS2.out ?_
          simp only [Act.put, List.setIfInBounds_toArray, List.set_cons_zero, List.set_cons_succ]
          have NX0 : QX w2 wr.heap.size (.int .i64 0) (.slice none 0 0) (.slice none 0 0) := newQ hb2
          have NP0 : ((putQ w2 wr.heap.size (.int .i64 (B : Int)) (.slice ya LL.length yc) (.slice za NN.length zc)).ownsRow wr.heap.size 27 2 (.slice ya LL.length yc) LL.length (LL.flatMap encM) ∧ OwnBs (putQ w2 wr.heap.size (.int .i64 (B : Int)) (.slice ya LL.length yc) (.slice za NN.length zc)) wr.heap.size (.slice za NN.length zc) NN) := ⟨NX0.ownPut (own_lower hq2.1 (by simp)) (by decide), OwnBs.putQ NX0 (hq2.2.lower (by simp))⟩
          have NB : Hid (Below wr.heap.size wr w2) := C2
          obtain ⟨nx, hbe⟩ : ∃ nx, wr.heap.size = nx := ⟨_, rfl⟩
          have NL : Hid (wr.heap.size ≤ nx) := Nat.le_of_eq hbe
          have NX : Hid (QX w2 nx (.int .i64 0) (.slice none 0 0) (.slice none 0 0)) := by rw [← hbe]; exact NX0
          have NP : Hid ((putQ w2 nx (.int .i64 (B : Int)) (.slice ya LL.length yc) (.slice za NN.length zc)).ownsRow wr.heap.size 27 2 (.slice ya LL.length yc) LL.length (LL.flatMap encM) ∧ OwnBs (putQ w2 nx (.int .i64 (B : Int)) (.slice ya LL.length yc) (.slice za NN.length zc)) wr.heap.size (.slice za NN.length zc) NN) := by have h := NP0; rw [hbe] at h; rw [hbe]; exact h
          clear NX0 NP0
          rw [hbe]
          clear hbe
          obtain ⟨n0, n1, n2, n3, n4, n5⟩ := NX.out.all
          have Z2 : Hid (_ ∧ _ ∧ _ ∧ _ ∧ _) := KEEP.out (putQ w2 nx (.int .i64 (B : Int)) (.slice ya LL.length yc) (.slice za NN.length zc)) (below_putQ NB.out NL.out _ _ _)
          refine oneH (i := 10) rfl (by kernel_rfl) rfl (op_skip (w' := putQ w2 nx (.int .i64 (B : Int)) (.slice ya LL.length yc) (.slice za NN.length zc)) rfl (by unfold putQ; go_simp) ⟨Z2.out, ?_⟩)
          try simp only [Act.put, List.setIfInBounds_toArray, List.set_cons_zero, List.set_cons_succ]
          refine wpAnyH_done (by kernel_rfl) ?_ _
          have FX : Hid (QX (putQ w2 nx (.int .i64 (B : Int)) (.slice ya LL.length yc) (.slice za NN.length zc)) nx (.int .i64 (B : Int)) (.slice ya LL.length yc) (.slice za NN.length zc)) := NX.out.put _ _ _
          have FB : Hid (Below wr.heap.size wr (putQ w2 nx (.int .i64 (B : Int)) (.slice ya LL.length yc) (.slice za NN.length zc))) := below_putQ NB.out NL.out _ _ _
          show Oper.wp _ _ _ _ _ _
          refine op_run (d := 11) (v' := .int .i64 0) (w' := putQ w2 nx (.int .i64 (B : Int)) (.slice ya LL.length yc) (.slice za NN.length zc)) rfl (by go_simp) ?_
          clear n0 n1 n2 n3 n4 n5 NX NB Z2 HS2 HS4 hq2 hb2 C2
          generalize putQ w2 nx (.int .i64 (B : Int)) (.slice ya LL.length yc) (.slice za NN.length zc) = X at *
          clear w2
          revert FX
          revert FB
          revert NP
          revert NL
          revert X
          revert nx
          revert zc
          revert za
          revert yc
          revert ya
          exact HG.out
      case g =>
        intro ya yc za zc nx X NL NP FB FX
        obtain ⟨f', hf'⟩ := F2.out
        have hLL : LL.length < B := by rw [hf'.loose]; exact Nat.mod_lt _ (by omega)
        have F3 : Hid (Fil B (l.take (k + 1)) LL NN f') := hf'
        have X3 : Hid (QX X W0.heap.size (.int .i64 (B : Int)) (.slice la lo.length lc) (.slice ra rs.length rc)) := QR.out.below FB.out QR.out.lt
        have B3 : Hid (Below W0.heap.size W0 X) := HB.out.trans (FB.out.mono hsr)
        have hbb : ((B : Int) != (B : Int)) = false := by simp
        obtain ⟨n0, n1, n2⟩ := FX.out.cells
        obtain ⟨y0, y1, y2, y3, y4, y5⟩ := X3.out.all
        have X4 : Hid (QX (putQ X W0.heap.size (.int .i64 (B : Int)) (.slice ya LL.length yc) (.slice za NN.length zc)) W0.heap.size (.int .i64 (B : Int)) (.slice ya LL.length yc) (.slice za NN.length zc)) := X3.out.put _ _ _
        have B4 : Hid (Below W0.heap.size W0 (putQ X W0.heap.size (.int .i64 (B : Int)) (.slice ya LL.length yc) (.slice za NN.length zc))) := below_putQ B3.out (Nat.le_refl _) _ _ _
        clear hf' KEEP HPU HSD epu F2
        have R4 : Hid ((putQ X W0.heap.size (.int .i64 (B : Int)) (.slice ya LL.length yc) (.slice za NN.length zc)).ownsRow W0.heap.size 27 2 (.slice ya LL.length yc) LL.length (LL.flatMap encM) ∧ OwnBs (putQ X W0.heap.size (.int .i64 (B : Int)) (.slice ya LL.length yc) (.slice za NN.length zc)) W0.heap.size (.slice za NN.length zc) NN) := ⟨own_lower (X3.out.ownPut NP.out.1 (by decide)) hsr, (OwnBs.putQ X3.out NP.out.2).lower hsr⟩
        go_wp2_with fail
        go_roundw
        case rel => exact ⟨k + 1, max most LL.length, LL, NN, f', _, _, by omega, by go_num, by congr 1; omega, by omega, F3.out, X4.out, R4.out, B4.out⟩
        case measure => simp [intOf]; omega
    · have ek : l.take k = l := List.take_of_length_le (by omega)
      have FF : Hid (Fil B l lo rs f) := by have := FL.out; rwa [ek] at this
      have T1 : Hid (QX wr w.heap.size (.int .i64 0) (.slice none 0 0) (.slice none 0 0)) := T0.out.below HB.out (by omega)
      obtain ⟨t0, t1, t2, t3, t4, t5⟩ := T1.out.all
      have HX : Hid (P (.returned (.tuple #[.agg #[.int .i64 (B : Int), .slice la lo.length lc, .slice ra rs.length rc], .int .i64 most, .bool true])) (putQ wr w.heap.size (.int .i64 (B : Int)) (.slice la lo.length lc) (.slice ra rs.length rc))) := HE.out lo rs f _ _ most _ FF.out hmo ⟨own_lower (T1.out.ownPut RO.out.1 (by decide)) (by omega), (OwnBs.putQ T1.out RO.out.2).lower (by omega)⟩ (below_putQ (B0.out.trans (HB.out.mono (by omega))) (Nat.le_refl _) _ _ _)
      clear ek FL FF
      go_wp2_with fail
      have r := (T1.out.put (.int .i64 (B : Int)) (.slice la lo.length lc) (.slice ra rs.length rc)).cells
      unfold putQ at r
      obtain ⟨r0, r1, r2⟩ := r
      exact bodyPost_ret (v := .tuple #[.agg #[.int .i64 (B : Int), .slice la lo.length lc, .slice ra rs.length rc], .int .i64 most, .bool true]) (by simp [results, Try.results20, go_sem, r0, r1, r2]) rfl HX.out
theorem filled_gets (B : Nat) (v : Value) (l : List Ml) (w : World) (h : MlR w v l) (hm : mayA l = true) (hB1 : 1 ≤ B) (hB2 : B ≤ 1000) (hl : l.length ≤ 40) :
    Calls Try.prog 20 #[.int .i64 B, v] w fun e w' => ∃ u, e = .returned u ∧ ∃ (lo : List Ml) (rs : List (List Int)) (f : List (List Ml)) (xa : Option Addr) (xc : Nat) (ya : Option Addr) (yc most : Nat), u = .tuple #[.agg #[.int .i64 B, .slice xa lo.length xc, .slice ya rs.length yc], .int .i64 most, .bool true] ∧ Fil B l lo rs f ∧ (w'.ownsRow w.heap.size 27 2 (.slice xa lo.length xc) lo.length (lo.flatMap encM) ∧ OwnBs w' w.heap.size (.slice ya rs.length yc) rs) ∧ Below w.heap.size w w' := by
  refine (filled_own B v l w h hm hB1 hB2 hl).mono ?_
  rintro e w' ⟨lo, rs, f, vl, vr, most, rfl, h1, _, h3, h4⟩
  obtain ⟨xa, xc, rfl⟩ := (MlR.ownd h3.1).shape
  obtain ⟨ya, yc, rfl, _⟩ := id h3.2.reads
  exact ⟨_, rfl, lo, rs, f, xa, xc, ya, yc, most, rfl, h1, h3, h4⟩
end Go.Proofs.Ytihghhmhgakkaaa

namespace Go.Proofs.Ytihghhmhgakkaaa
set_option maxRecDepth 100000
open Go.ChangeShapes Go.WideShapes Go.ChangeAt Go.RowKit

theorem RefP.lower {w w1 w' : World} {f : Int} {l : List Ml} {e : Ending} (h : RefP w1 f l e w') (hb : Below w.heap.size w w1) : RefP w f l e w' := by
  obtain ⟨v, rfl, ho, h2⟩ := h
  exact ⟨v, rfl, own_lower ho hb.size, hb.trans (h2.mono hb.size)⟩
theorem errM_ok {f : List (List Ml)} (h1 : f.length ≤ 5000) (h2 : sumM f ≤ 5000) (h3 : ∀ l ∈ f, srtMb l = true) : errM f = 0 := by
  unfold errM
  rw [if_neg (by omega), (allB_iff f).2 h3]
  rfl
theorem flat_sort (f : List (List Ml)) (lo : List Ml) : sortM (f ++ [sortM lo]).flatten = sortM (lo ++ f.flatten) := by
  refine sortM_congr ?_
  rw [List.flatten_append, List.flatten_singleton]
  exact List.perm_append_comm.trans (List.Perm.append_right _ (sortM_perm lo))
theorem srtM_sort (l : List Ml) : srtMb (sortM l) = true := (srtMb_iff _).2 (in_srtM (sortM_sorted l))

set_option maxHeartbeats 1000000 in
set_option maxRecDepth 100000 in
theorem queueDrain_any (n : Int) (vl vr : Value) (lo : List Ml) (rs : List (List Int)) (w : World) (h : QuR w vl vr lo rs) (hB : QuB lo rs) :
    Calls Try.prog 13 #[.agg #[.int .i64 n, vl, vr]] w (RefP w (errQ (quF n lo rs)) (drainF lo (quF n lo rs))) := by
  have HR : Hid (QuR w vl vr lo rs) := h
  have HU : Hid (∀ X, QuR X vl vr lo rs → Calls Try.prog 25 #[.agg #[.int .i64 n, vl, vr]] X (UnpP X (quF n lo rs))) := fun X hX => unpackAll_any n vl vr lo rs X hX hB
  have HQ : Hid (∀ f, quF n lo rs = some f → 1 ≤ n ∧ n ≤ 1000 ∧ (lo.length : Int) < n ∧ rs.length ≤ 5000 ∧ mayA lo = true ∧ f.length = rs.length ∧ lo.length + sumM f ≤ 5000 ∧ ∀ l ∈ f, 1 ≤ l.length ∧ l.length ≤ 1000 ∧ mayA l = true ∧ srtMb l = true) := fun f hf => quF_inv hf
  obtain ⟨a, cap, rfl⟩ := h.1.shape
  obtain ⟨c, cap2, rfl, _⟩ := id h.2
  clear h hB
  generalize quF n lo rs = o at *
  have hb : ∀ o, Below w.heap.size w (w.alloc o) := fun o => below_alloc w o
  cases o with
  | none =>
    have HE : Hid (∀ w', Below w.heap.size w w' → RefP w (errQ (none : Option (List (List Ml)))) (drainF lo none) (.returned (.tuple #[.slice none 0 0, .int .i64 9])) w') := fun w' hw => RefP.no (by decide) hw
    generalize RefP w (errQ (none : Option (List (List Ml)))) (drainF lo none) = P at *
    go_enter Try.func13, Try.ntmps13
    go_wp2_with fail
    refine (HU.out _ (HR.out.below (hb _) (Nat.le_refl _))).mono ?_
    rintro e w1 ⟨v1, rfl, ho, hb1⟩
    have HX : Hid (P (.returned (.tuple #[.slice none 0 0, .int .i64 9])) w1) := HE.out w1 ((hb _).trans (hb1.mono (by simp)))
    clear hb1 ho
    unfold errQ
    go_wp2_with fail
    exact HX.out
  | some f =>
    obtain ⟨_, h2, h3, _, _, h6, h7, h8⟩ := HQ.out f rfl
    have hfl : f.length ≤ sumM f := sumM_ge f fun l hl => (h8 l hl).1
    have hf5 : f.length ≤ 5000 := by omega
    have hlo : lo.length < 1000 := by omega
    have HE0 : Hid (∀ w1 v w', Below w.heap.size w w1 → RefP w1 0 (sortM (lo ++ f.flatten)) (.returned v) w' → RefP w (errQ (some f)) (drainF lo (some f)) (.returned v) w') := fun w1 v w' hb hp => hp.lower hb
    by_cases h0 : lo = []
    · have HM : Hid (∀ v X, LmR X v f → Calls Try.prog 37 #[v] X (RefP X 0 (sortM (lo ++ f.flatten)))) := fun v X hX => by
        have := lists_merge v f X hX (fun l hl => by have := (h8 l hl).2.1; omega)
        rw [errM_ok hf5 (by omega) (fun l hl => (h8 l hl).2.2.2)] at this
        rw [h0]
        exact this
      have hl0 : ¬ (0 : Int) < (lo.length : Int) := by rw [h0]; simp
      generalize RefP w (errQ (some f)) (drainF lo (some f)) = P at *
      clear HQ h6 h7 h8 h0 h2 h3
      go_enter Try.func13, Try.ntmps13
      go_wp2_with fail
      refine (HU.out _ (HR.out.below (hb _) (Nat.le_refl _))).mono ?_
      rintro e w1 ⟨v1, rfl, ho, hb1⟩
      have hb1' : Below (w.heap.size + 1) (w.alloc (.cells #[.int .i64 n, .slice a lo.length cap, .slice c rs.length cap2] 25)) w1 := by simpa using hb1
      obtain ⟨q0, q1, q2⟩ := ((QX.new w (.int .i64 n) (.slice a lo.length cap) (.slice c rs.length cap2)).below hb1' (Nat.lt_succ_self _)).cells
      have B1 : Hid (Below w.heap.size w w1) := box_below hb1'
      have L1 : Hid (LmR w1 v1 f) := ho.reads
      obtain ⟨fa, fc, rfl⟩ : ∃ a c, v1 = .slice a f.length c := by obtain ⟨a, c, e, _⟩ := ho.reads; exact ⟨a, c, e⟩
      clear hb1 hb1' ho HU HR
      generalize lo.length = ll at *
      unfold errQ
      go_wp2_with fail
      refine (HM.out _ _ L1.out).mono ?_
      rintro e w2 hp
      obtain ⟨v2, rfl, _, _⟩ := id hp
      have HX : Hid (P (.returned (.tuple #[v2, .int .i64 0])) w2) := HE0.out w1 _ w2 B1.out hp
      clear hp
      go_wp2_with fail
      exact HX.out
    · have h1 : 1 ≤ lo.length := by
        cases lo with
        | nil => exact absurd rfl h0
        | cons x l => simp
      have HM : Hid (∀ v X, LmR X v (f ++ [sortM lo]) → Calls Try.prog 37 #[v] X (RefP X 0 (sortM (lo ++ f.flatten)))) := fun v X hX => by
        have := lists_merge v (f ++ [sortM lo]) X hX (fun l hl => by
          rcases List.mem_append.1 hl with hl | hl
          · have := (h8 l hl).2.1; omega
          · rw [List.mem_singleton.1 hl, sortM_len]; omega)
        rw [errM_ok (by simp; omega) (by rw [sumM_snoc, sortM_len]; omega) (fun l hl => by
          rcases List.mem_append.1 hl with hl | hl
          · exact (h8 l hl).2.2.2
          · rw [List.mem_singleton.1 hl]; exact srtM_sort lo), flat_sort] at this
        exact this
      have hl0 : (0 : Int) < (lo.length : Int) := by omega
      have HS : Hid (∀ X, MlR X (.slice a lo.length cap) lo → Calls Try.prog 36 #[.slice a lo.length cap] X (RefP X 0 (sortM lo))) := fun X hX => by
        have := mergeSort_ref _ lo X hX
        rw [show errS lo.length = 0 from if_neg (by omega)] at this
        exact this
      generalize RefP w (errQ (some f)) (drainF lo (some f)) = P at *
      clear HQ h6 h7 h8 h0 h2 h3 hfl
      go_enter Try.func13, Try.ntmps13
      go_wp2_with fail
      refine (HU.out _ (HR.out.below (hb _) (Nat.le_refl _))).mono ?_
      rintro e w1 ⟨v1, rfl, ho, hb1⟩
      have hb1' : Below (w.heap.size + 1) (w.alloc (.cells #[.int .i64 n, .slice a lo.length cap, .slice c rs.length cap2] 25)) w1 := by simpa using hb1
      obtain ⟨q0, q1, q2⟩ := ((QX.new w (.int .i64 n) (.slice a lo.length cap) (.slice c rs.length cap2)).below hb1' (Nat.lt_succ_self _)).cells
      have B1 : Hid (Below w.heap.size w w1) := box_below hb1'
      have O1 : Hid (OwnLm w1 w.heap.size v1 f) := ho.lower (by simp)
      have R1 : Hid (MlR w1 (.slice a lo.length cap) lo) := HR.out.1.below B1.out (Nat.le_refl _)
      obtain ⟨fa, fc, rfl⟩ : ∃ a c, v1 = .slice a f.length c := by obtain ⟨a, c, e, _⟩ := ho.reads; exact ⟨a, c, e⟩
      have hs1 := B1.out.size
      clear hb1 hb1' ho HU HR
      unfold errQ
      go_wp2_with fail
      refine (HS.out _ R1.out).mono ?_
      rintro e w2 ⟨v2, rfl, ho2, hb2⟩
      have O2 : Hid (w2.ownsRow w.heap.size 27 2 v2 (sortM lo).length ((sortM lo).flatMap encM)) := own_lower ho2 hs1
      have OL : Hid (OwnLm w2 w.heap.size (.slice fa f.length fc) f) := O1.out.kept (Kept.of (S := fun _ => False) hb2) (fun _ _ h => h)
      have B2 : Hid (Below w.heap.size w w2) := B1.out.trans (hb2.mono hs1)
      have hs2 := B2.out.size
      obtain ⟨xa, xc, rfl⟩ := (MlR.ownd O2.out).shape
      clear ho2 hb2 q0 q1 q2
      generalize sortM lo = sl at *
      go_wp2_with (at_builtin; refine wpList_append_lm rfl _ _ rfl w.heap.size _ f rfl (OL.out.kept (Kept.of (S := fun _ => False) (below_alloc w2 _)) (fun _ _ h => h)) w2.heap.size (.slice xa sl.length xc) sl rfl (0, 0) (heap_alloc_new _ _) (O2.out.alloc _) ?d1 ?d2 ?_)
      case d1 => omega
      case d2 => simp; omega
      intro g c3 w3 hown3 hg3 _
      have L3 : Hid (LmR w3 (.slice (some ⟨g, 0, none⟩) (f.length + 1) c3) (f ++ [sl])) := hown3.reads
      have B3 : Hid (Below w.heap.size w w3) := (B2.out.alloc hs2 _).grown hg3 (by simp; omega) (fun j hj => by
        obtain ⟨vs, hrow⟩ := OL.out.row
        exact (own_geM hrow hj).1)
      clear hown3 hg3
      go_wp2_with fail
      refine (HM.out _ _ L3.out).mono ?_
      rintro e w4 hp
      obtain ⟨v4, rfl, _, _⟩ := id hp
      have HX : Hid (P (.returned (.tuple #[v4, .int .i64 0])) w4) := HE0.out w3 _ w4 B3.out hp
      clear hp
      go_wp2_with fail
      exact HX.out
end Go.Proofs.Ytihghhmhgakkaaa

namespace Go.Proofs.Ytihghhmhgakkaaa
set_option maxRecDepth 100000
open Go.ChangeShapes Go.WideShapes Go.ChangeAt Go.RowKit

/-- s[lo:hi:m]. -/
def cutP (a : Option Addr) (lo hi m : Nat) : Value := .slice (if m = lo then a else a.map (·.add (lo * 2))) (hi - lo) (m - lo)
theorem run_cutP (a : Option Addr) (len cap lo hi : Nat) (h1 : lo ≤ hi) (h2 : hi ≤ cap) (w : World) : (Instr.slice 22 (.slice a len cap) (some (.int .i64 (lo : Int))) (some (.int .i64 (hi : Int))) (some (.int .i64 (hi : Int)))).run Try.prog w = .ok (cutP a lo hi hi) w := by
  have hsz : (sizeOf (Try.prog.elem 22)).run Try.prog w = .ok 2 w := by kernel_rfl
  rw [run_slice_lhm (P := Try.prog) (w := w) 22 a len cap (by rw [Try.underlying22]; kernel_rfl) .i64 .i64 .i64 lo hi hi (by omega) (by omega) (by omega) (by omega), hsz]
  simp only [Result.andThen, sliced, Int.toNat_natCast, cutP]
theorem run_cutF (a : Option Addr) (len cap lo : Nat) (h1 : lo ≤ len) (w : World) : (Instr.slice 22 (.slice a len cap) (some (.int .i64 (lo : Int))) none none).run Try.prog w = .ok (cutP a lo len cap) w := by
  have hsz : (sizeOf (Try.prog.elem 22)).run Try.prog w = .ok 2 w := by kernel_rfl
  rw [run_slice_l (P := Try.prog) (w := w) 22 a len cap (by rw [Try.underlying22]; kernel_rfl) .i64 lo (by omega) (by omega), hsz]
  simp only [Result.andThen, sliced, Int.toNat_natCast, cutP]
theorem reads_cutP {w : World} {a : Option Addr} {cap lo hi m : Nat} {l : List Ml} (h : MlR w (.slice a l.length cap) l) (h1 : lo ≤ hi) (h2 : hi ≤ l.length) (h3 : hi ≤ m) (h4 : m ≤ cap) : MlR w (cutP a lo hi m) ((l.drop lo).take (hi - lo)) := by
  obtain ⟨a', cap', e, hc, hm, ha, hel⟩ := h
  injection e with e1 _ e3
  subst e1 e3
  have hll : ((l.drop lo).take (hi - lo)).length = hi - lo := by rw [List.length_take, List.length_drop]; omega
  unfold cutP
  refine ⟨_, m - lo, by rw [hll], by rw [hll]; omega, by omega, fun hx => ?_, fun hn => ?_⟩
  · split at hx
    · omega
    · cases a with
      | none => have := ha rfl; omega
      | some p => cases hx
  · rw [hll] at hn
    obtain ⟨b, off, rfl, hlt, hcell⟩ := hel (by omega)
    refine ⟨b, off + lo * 2, by rw [if_neg (by omega), Option.map_some, addr_plus], hlt, fun i x hx j u hu => ?_⟩
    have hi2 : i < hi - lo := by
      have := (List.getElem?_eq_some_iff.1 hx).1
      rw [hll] at this
      exact this
    rw [List.getElem?_take_of_lt hi2, List.getElem?_drop] at hx
    have := hcell (lo + i) x hx j u hu
    rw [show off + lo * 2 + i * 2 + j = off + (lo + i) * 2 + j by omega]
    exact this
theorem run_cutH (a : Option Addr) (len cap hi : Nat) (h2 : hi ≤ cap) (w : World) : (Instr.slice 22 (.slice a len cap) none (some (.int .i64 (hi : Int))) (some (.int .i64 (hi : Int)))).run Try.prog w = .ok (cutP a 0 hi hi) w := by
  have hsz : (sizeOf (Try.prog.elem 22)).run Try.prog w = .ok 2 w := by kernel_rfl
  rw [run_slice_hm (P := Try.prog) (w := w) 22 a len cap (by rw [Try.underlying22]; kernel_rfl) .i64 .i64 hi hi (by omega) (by omega) (by omega), hsz]
  simp only [Result.andThen, sliced, Int.toNat_natCast, cutP]
end Go.Proofs.Ytihghhmhgakkaaa

namespace Go.Proofs.Ytihghhmhgakkaaa
set_option maxRecDepth 100000
open Go.RowKit

theorem threeH {P : Program} {Q : Exit → Act → World → Prop} {ops : Array Oper} {md : Region.Mode} {S : World → Prop} {i j m : Nat} {oi oj om : Oper} {fuel : Nat} {listed : Array Bool} {a : Act} {w : World} (hi : ops[i]? = some oi) (hj : ops[j]? = some oj) (hm : ops[m]? = some om) (hr : Region.ready md ops listed = [i, j, m]) (gi : oi.guard = none) (gj : oj.guard = none) (gm : om.guard = none)
    (h1 : oi.wp P a w (fun a' w' => S w' ∧ wpAnyH P md ops Q S fuel (listed.setIfInBounds i true) a' w') Q) (h2 : oj.wp P a w (fun a' w' => S w' ∧ wpAnyH P md ops Q S fuel (listed.setIfInBounds j true) a' w') Q) (h3 : om.wp P a w (fun a' w' => S w' ∧ wpAnyH P md ops Q S fuel (listed.setIfInBounds m true) a' w') Q) : wpAnyH P md ops Q S (fuel + 1) listed a w := by
  refine wpAnyH_all hr (by simp) fun k hk => ?_
  rcases (by simpa using hk : k = i ∨ k = j ∨ k = m) with rfl | rfl | rfl
  · unfold wpOp
    simp only [hi]
    rw [if_pos (by simp [Region.wanted, gi])]
    exact .inl h1
  · unfold wpOp
    simp only [hj]
    rw [if_pos (by simp [Region.wanted, gj])]
    exact .inl h2
  · unfold wpOp
    simp only [hm]
    rw [if_pos (by simp [Region.wanted, gm])]
    exact .inl h3
end Go.Proofs.Ytihghhmhgakkaaa
