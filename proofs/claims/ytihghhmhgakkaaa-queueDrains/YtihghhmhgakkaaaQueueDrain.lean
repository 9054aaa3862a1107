/-
  Contract of queue.Drain.
-/
import Derived.Test.YtihghhmhgakkaaaUnpackAll
import Derived.Test.YtihghhmhgakkaaaMailSort
namespace Go.Proofs.Ytihghhmhgakkaaa
set_option maxRecDepth 100000
open Go.ChangeShapes Go.WideShapes Go.ChangeAt Go.RowKit

theorem RefP.lower {w w1 w' : World} {f : Int} {l : List Ml} {e : Ending} (h : RefP w1 f l e w') (hb : Below w.heap.size w w1) : RefP w f l e w' := by
  obtain ⟨v, rfl, ho, h2⟩ := h
  exact ⟨v, rfl, own_lower ho hb.size, hb.trans (h2.mono hb.size)⟩
theorem errM_ok {f : List (List Ml)} (h1 : f.length ≤ 5000) (h2 : sumM f ≤ 5000) (h3 : ∀ l ∈ f, srtMb l = true) : errM f = 0 := by
  unfold errM
  rw [if_neg (by omega), (allB_iff f).2 h3]
  rfl
theorem flat_sort (f : List (List Ml)) (lo : List Ml) : sortM (f ++ [sortM lo]).flatten = sortM (lo ++ f.flatten) := by
  refine sortM_congr ?_
  rw [List.flatten_append, List.flatten_singleton]
  exact List.perm_append_comm.trans (List.Perm.append_right _ (sortM_perm lo))
theorem srtM_sort (l : List Ml) : srtMb (sortM l) = true := (srtMb_iff _).2 (in_srtM (sortM_sorted l))

set_option maxHeartbeats 1000000 in
set_option maxRecDepth 100000 in
theorem queueDrain_any (n : Int) (vl vr : Value) (lo : List Ml) (rs : List (List Int)) (w : World) (h : QuR w vl vr lo rs) (hB : QuB lo rs) :
    Calls Try.prog 13 #[.agg #[.int .i64 n, vl, vr]] w (RefP w (errQ (quF n lo rs)) (drainF lo (quF n lo rs))) := by
  have HR : Hid (QuR w vl vr lo rs) := h
  have HU : Hid (∀ X, QuR X vl vr lo rs → Calls Try.prog 25 #[.agg #[.int .i64 n, vl, vr]] X (UnpP X (quF n lo rs))) := fun X hX => unpackAll_any n vl vr lo rs X hX hB
  have HQ : Hid (∀ f, quF n lo rs = some f → 1 ≤ n ∧ n ≤ 1000 ∧ (lo.length : Int) < n ∧ rs.length ≤ 5000 ∧ mayA lo = true ∧ f.length = rs.length ∧ lo.length + sumM f ≤ 5000 ∧ ∀ l ∈ f, 1 ≤ l.length ∧ l.length ≤ 1000 ∧ mayA l = true ∧ srtMb l = true) := fun f hf => quF_inv hf
  obtain ⟨a, cap, rfl⟩ := h.1.shape
  obtain ⟨c, cap2, rfl, _⟩ := id h.2
  clear h hB
  generalize quF n lo rs = o at *
  have hb : ∀ o, Below w.heap.size w (w.alloc o) := fun o => below_alloc w o
  cases o with
  | none =>
    have HE : Hid (∀ w', Below w.heap.size w w' → RefP w (errQ (none : Option (List (List Ml)))) (drainF lo none) (.returned (.tuple #[.slice none 0 0, .int .i64 9])) w') := fun w' hw => RefP.no (by decide) hw
    generalize RefP w (errQ (none : Option (List (List Ml)))) (drainF lo none) = P at *
    go_enter Try.func13, Try.ntmps13
    go_wp2_with fail
    refine (HU.out _ (HR.out.below (hb _) (Nat.le_refl _))).mono ?_
    rintro e w1 ⟨v1, rfl, ho, hb1⟩
    have HX : Hid (P (.returned (.tuple #[.slice none 0 0, .int .i64 9])) w1) := HE.out w1 ((hb _).trans (hb1.mono (by simp)))
    clear hb1 ho
    unfold errQ
    go_wp2_with fail
    exact HX.out
  | some f =>
    obtain ⟨_, h2, h3, _, _, h6, h7, h8⟩ := HQ.out f rfl
    have hfl : f.length ≤ sumM f := sumM_ge f fun l hl => (h8 l hl).1
    have hf5 : f.length ≤ 5000 := by omega
    have hlo : lo.length < 1000 := by omega
    have HE0 : Hid (∀ w1 v w', Below w.heap.size w w1 → RefP w1 0 (sortM (lo ++ f.flatten)) (.returned v) w' → RefP w (errQ (some f)) (drainF lo (some f)) (.returned v) w') := fun w1 v w' hb hp => hp.lower hb
    by_cases h0 : lo = []
    · have HM : Hid (∀ v X, LmR X v f → Calls Try.prog 37 #[v] X (RefP X 0 (sortM (lo ++ f.flatten)))) := fun v X hX => by
        have := lists_merge v f X hX (fun l hl => by have := (h8 l hl).2.1; omega)
        rw [errM_ok hf5 (by omega) (fun l hl => (h8 l hl).2.2.2)] at this
        rw [h0]
        exact this
      have hl0 : ¬ (0 : Int) < (lo.length : Int) := by rw [h0]; simp
      generalize RefP w (errQ (some f)) (drainF lo (some f)) = P at *
      clear HQ h6 h7 h8 h0 h2 h3
      go_enter Try.func13, Try.ntmps13
      go_wp2_with fail
      refine (HU.out _ (HR.out.below (hb _) (Nat.le_refl _))).mono ?_
      rintro e w1 ⟨v1, rfl, ho, hb1⟩
      have hb1' : Below (w.heap.size + 1) (w.alloc (.cells #[.int .i64 n, .slice a lo.length cap, .slice c rs.length cap2] 25)) w1 := by simpa using hb1
      obtain ⟨q0, q1, q2⟩ := ((QX.new w (.int .i64 n) (.slice a lo.length cap) (.slice c rs.length cap2)).below hb1' (Nat.lt_succ_self _)).cells
      have B1 : Hid (Below w.heap.size w w1) := box_below hb1'
      have L1 : Hid (LmR w1 v1 f) := ho.reads
      obtain ⟨fa, fc, rfl⟩ : ∃ a c, v1 = .slice a f.length c := by obtain ⟨a, c, e, _⟩ := ho.reads; exact ⟨a, c, e⟩
      clear hb1 hb1' ho HU HR
      generalize lo.length = ll at *
      unfold errQ
      go_wp2_with fail
      refine (HM.out _ _ L1.out).mono ?_
      rintro e w2 hp
      obtain ⟨v2, rfl, _, _⟩ := id hp
      have HX : Hid (P (.returned (.tuple #[v2, .int .i64 0])) w2) := HE0.out w1 _ w2 B1.out hp
      clear hp
      go_wp2_with fail
      exact HX.out
    · have h1 : 1 ≤ lo.length := by
        cases lo with
        | nil => exact absurd rfl h0
        | cons x l => simp
      have HM : Hid (∀ v X, LmR X v (f ++ [sortM lo]) → Calls Try.prog 37 #[v] X (RefP X 0 (sortM (lo ++ f.flatten)))) := fun v X hX => by
        have := lists_merge v (f ++ [sortM lo]) X hX (fun l hl => by
          rcases List.mem_append.1 hl with hl | hl
          · have := (h8 l hl).2.1; omega
          · rw [List.mem_singleton.1 hl, sortM_len]; omega)
        rw [errM_ok (by simp; omega) (by rw [sumM_snoc, sortM_len]; omega) (fun l hl => by
          rcases List.mem_append.1 hl with hl | hl
          · exact (h8 l hl).2.2.2
          · rw [List.mem_singleton.1 hl]; exact srtM_sort lo), flat_sort] at this
        exact this
      have hl0 : (0 : Int) < (lo.length : Int) := by omega
      have HS : Hid (∀ X, MlR X (.slice a lo.length cap) lo → Calls Try.prog 36 #[.slice a lo.length cap] X (RefP X 0 (sortM lo))) := fun X hX => by
        have := mergeSort_ref _ lo X hX
        rw [show errS lo.length = 0 from if_neg (by omega)] at this
        exact this
      generalize RefP w (errQ (some f)) (drainF lo (some f)) = P at *
      clear HQ h6 h7 h8 h0 h2 h3 hfl
      go_enter Try.func13, Try.ntmps13
      go_wp2_with fail
      refine (HU.out _ (HR.out.below (hb _) (Nat.le_refl _))).mono ?_
      rintro e w1 ⟨v1, rfl, ho, hb1⟩
      have hb1' : Below (w.heap.size + 1) (w.alloc (.cells #[.int .i64 n, .slice a lo.length cap, .slice c rs.length cap2] 25)) w1 := by simpa using hb1
      obtain ⟨q0, q1, q2⟩ := ((QX.new w (.int .i64 n) (.slice a lo.length cap) (.slice c rs.length cap2)).below hb1' (Nat.lt_succ_self _)).cells
      have B1 : Hid (Below w.heap.size w w1) := box_below hb1'
      have O1 : Hid (OwnLm w1 w.heap.size v1 f) := ho.lower (by simp)
      have R1 : Hid (MlR w1 (.slice a lo.length cap) lo) := HR.out.1.below B1.out (Nat.le_refl _)
      obtain ⟨fa, fc, rfl⟩ : ∃ a c, v1 = .slice a f.length c := by obtain ⟨a, c, e, _⟩ := ho.reads; exact ⟨a, c, e⟩
      have hs1 := B1.out.size
      clear hb1 hb1' ho HU HR
      unfold errQ
      go_wp2_with fail
      refine (HS.out _ R1.out).mono ?_
      rintro e w2 ⟨v2, rfl, ho2, hb2⟩
      have O2 : Hid (w2.ownsRow w.heap.size 27 2 v2 (sortM lo).length ((sortM lo).flatMap encM)) := own_lower ho2 hs1
      have OL : Hid (OwnLm w2 w.heap.size (.slice fa f.length fc) f) := O1.out.kept (Kept.of (S := fun _ => False) hb2) (fun _ _ h => h)
      have B2 : Hid (Below w.heap.size w w2) := B1.out.trans (hb2.mono hs1)
      have hs2 := B2.out.size
      obtain ⟨xa, xc, rfl⟩ := (MlR.ownd O2.out).shape
      clear ho2 hb2 q0 q1 q2
      generalize sortM lo = sl at *
      go_wp2_with (at_builtin; refine wpList_append_lm rfl _ _ rfl w.heap.size _ f rfl (OL.out.kept (Kept.of (S := fun _ => False) (below_alloc w2 _)) (fun _ _ h => h)) w2.heap.size (.slice xa sl.length xc) sl rfl (0, 0) (heap_alloc_new _ _) (O2.out.alloc _) ?d1 ?d2 ?_)
      case d1 => omega
      case d2 => simp; omega
      intro g c3 w3 hown3 hg3 _
      have L3 : Hid (LmR w3 (.slice (some ⟨g, 0, none⟩) (f.length + 1) c3) (f ++ [sl])) := hown3.reads
      have B3 : Hid (Below w.heap.size w w3) := (B2.out.alloc hs2 _).grown hg3 (by simp; omega) (fun j hj => by
        obtain ⟨vs, hrow⟩ := OL.out.row
        exact (own_geM hrow hj).1)
      clear hown3 hg3
      go_wp2_with fail
      refine (HM.out _ _ L3.out).mono ?_
      rintro e w4 hp
      obtain ⟨v4, rfl, _, _⟩ := id hp
      have HX : Hid (P (.returned (.tuple #[v4, .int .i64 0])) w4) := HE0.out w3 _ w4 B3.out hp
      clear hp
      go_wp2_with fail
      exact HX.out
end Go.Proofs.Ytihghhmhgakkaaa
