/-
  Contracts of the document's own SenderMay and mailsFrom.
-/
import Derived.Test.YtjmjpmnjibdhhaaLinkMay
import Derived.Test.YtjmjpmnjibdhhaaInWalk
namespace Go.Proofs.Ytjmjpmnjibdhhaa
set_option maxRecDepth 100000
open Go.ChangeShapes Go.WideShapes Go.ChangeAt Go.RowKit

theorem inW_is {n : Int} {b : Bool} (h : wi n = b) (w : World) : Calls Try.prog 27 #[.int .i64 n, .int .i64 0, .int .i64 1099511627776] w fun e w' => e = .returned (.bool b) ∧ w' = w := by
  have := in_any n 0 1099511627776 w
  rwa [show inB n 0 1099511627776 = b from h] at this

set_option maxHeartbeats 1000000 in
theorem senderMay_any (e b : Int) (a : Option Addr) (n c : Nat) (hn : n ≤ 140737488355328) (w : World) :
    Calls Try.prog 31 #[.agg #[.int .i64 e, .int .i64 b, .slice a n c]] w (MayP w (mayS e b n)) := by
  have HB : Hid (∀ o, Below w.heap.size w (w.alloc o)) := fun o => below_alloc w o
  have HE : Hid (∀ t w', t = mayS e b n → Below w.heap.size w w' → MayP w (mayS e b n) (.returned (.bool t)) w') := fun t w' h1 h2 => ⟨by rw [h1], h2⟩
  cases h1 : wi e
  · have HM : Hid (mayS e b n = false) := by show mayS e b n = _; simp [mayS, h1]
    have C1 := fun X => inW_is h1 X
    generalize MayP w (mayS e b n) = P at *
    clear h1
    go_enter Try.func31, Try.ntmps31
    go_wp2_with fail
    refine (C1 _).mono ?_
    rintro e w1 ⟨rfl, rfl⟩
    go_wp2_with fail
    exact HE.out _ _ HM.out.symm (HB.out _)
  · have C1 := fun X => inW_is h1 X
    cases h2 : wi b
    · have HM : Hid (mayS e b n = false) := by show mayS e b n = _; simp [mayS, h1, h2]
      have C2 := fun X => inW_is h2 X
      generalize MayP w (mayS e b n) = P at *
      clear h1 h2
      go_enter Try.func31, Try.ntmps31
      go_wp2_with fail
      refine (C1 _).mono ?_
      rintro e w1 ⟨rfl, rfl⟩
      go_wp2_with fail
      refine (C2 _).mono ?_
      rintro e w1 ⟨rfl, rfl⟩
      go_wp2_with fail
      exact HE.out _ _ HM.out.symm (HB.out _)
    · have C2 := fun X => inW_is h2 X
      have HM : Hid (mayS e b n = decide ((n : Int) ≤ 5000)) := by
        show mayS e b n = _
        simp only [mayS, h1, h2, Bool.and_self, Bool.true_and]
        exact decide_eq_decide.2 (by omega)
      generalize MayP w (mayS e b n) = P at *
      clear h1 h2
      go_enter Try.func31, Try.ntmps31
      go_wp2_with fail
      refine (C1 _).mono ?_
      rintro e w1 ⟨rfl, rfl⟩
      go_wp2_with fail
      refine (C2 _).mono ?_
      rintro e w1 ⟨rfl, rfl⟩
      go_wp2_with fail
      exact HE.out _ _ HM.out.symm (HB.out _)

theorem senderMay_is {e b : Int} {n : Nat} {t : Bool} (h : mayS e b n = t) (a : Option Addr) (c : Nat) (hn : n ≤ 140737488355328) (w : World) : Calls Try.prog 31 #[.agg #[.int .i64 e, .int .i64 b, .slice a n c]] w fun E w' => E = .returned (.bool t) ∧ Below w.heap.size w w' := by
  have := senderMay_any e b a n c hn w
  rw [h] at this
  exact this

set_option maxHeartbeats 1000000 in
set_option maxRecDepth 100000 in
theorem mailsFrom_any (v : Value) (l : List Ml) (k : Nat) (w : World) (h : MlR w v l) (hk : k ≤ l.length) (hl : l.length * 16 ≤ 140737488351232) :
    Calls Try.prog 32 #[v, .int .i64 (k : Int)] w fun e w' => ∃ v', e = .returned v' ∧ (w'.ownsRow w.heap.size 33 2 v' (l.drop k).length ((l.drop k).flatMap encM) ∧ Below w.heap.size w w') := by
  have HR : Hid (MlR w v l) := h
  obtain ⟨a, cap, rfl⟩ := h.shape
  clear h
  go_enter Try.func32, Try.ntmps32
  go_wp2_with fail
  go_loopw [5, 6] (fun u i wr => ∃ j : Nat, k ≤ j ∧ j ≤ l.length ∧ i = .int .i64 j ∧ wr.ownsRow w.heap.size 33 2 u ((l.take j).drop k).length (((l.take j).drop k).flatMap encM) ∧ Below w.heap.size w wr) (fun _ i _ => l.length - (intOf i).toNat)
  case atStart => exact ⟨k, Nat.le_refl _, hk, rfl, by rw [List.drop_eq_nil_of_le (by rw [List.length_take]; omega)]; exact World.ownsRow_nil _ _ _ _, Below.refl _ _⟩
  case round =>
    obtain ⟨j, hj0, hj, rfl, hown, hbel⟩ := hrel
    have OW : Hid (wr.ownsRow w.heap.size 33 2 u5 ((l.take j).drop k).length (((l.take j).drop k).flatMap encM)) := hown
    have HB : Hid (Below w.heap.size w wr) := hbel
    have hsr := hbel.size
    clear hown hbel
    by_cases hlt : j < l.length
    · obtain ⟨xb, xo, cap', e1, _, _, lb, hv⟩ := MlR.at (HR.out.below HB.out (Nat.le_refl _)) (by omega)
      injection e1 with e1 _ e3
      subst e1 e3
      obtain ⟨x, hx⟩ := getX hlt
      have p0 : (0 : Int) ≤ (j : Int) := by omega
      have p1 : (j : Int) < (l.length : Int) := by omega
      obtain ⟨c1, c2⟩ := hv j x hx
      have HT : Hid ((l.take (j + 1)).drop k = (l.take j).drop k ++ [x]) := by
        show (l.take (j + 1)).drop k = _
        rw [take_snoc hx, List.drop_append_of_le_length (by rw [List.length_take]; omega)]
      have hpl : ((l.take j).drop k).length ≤ l.length := by rw [List.length_drop, List.length_take]; omega
      obtain ⟨x1, x2⟩ := x
      simp only at c1 c2
      clear hv hx
      generalize (l.take j).drop k = f at *
      go_wp2_with (at_builtin; refine wpList_append_newK kM rfl _ _ rfl w.heap.size _ f rfl (OW.out.alloc _) wr.heap.size (x1, x2) rfl #[.int .i64 x1, .int .i64 x2] rfl (0, 0) (heap_alloc_new _ _) ?d1 ?d2 ?d3 ?_)
      case d1 => simp [kM]; omega
      case d2 => unfold maxLen; omega
      case d3 => first | omega | (simp; omega)
      intro g gc w4 ho4 hb4 hg4
      have B4 : Hid (Below w.heap.size w w4) := (HB.out.alloc hsr _).trans hb4
      have O4 : Hid (w4.ownsRow w.heap.size 33 2 (.slice (some ⟨g, 0, none⟩) (f.length + 1) gc) ((l.take (j + 1)).drop k).length (((l.take (j + 1)).drop k).flatMap encM)) := by
        show World.ownsRow _ _ _ _ _ _ _
        rw [HT.out, List.length_append, flat_snoc]
        exact ho4
      clear ho4 hb4 hg4 c1 c2
      go_wp2_with fail
      go_roundw
      case rel => exact ⟨j + 1, by omega, by omega, by go_num, O4.out, B4.out⟩
      case measure => simp [intOf]; omega
    · have ek : l.take j = l := List.take_of_length_le (by omega)
      rw [ek] at OW
      obtain ⟨ua, uc, rfl⟩ := (MlR.ownd OW.out).shape
      clear ek
      go_wp2_with fail
      go_ret
      exact ⟨_, rfl, OW.out, HB.out⟩
end Go.Proofs.Ytjmjpmnjibdhhaa
