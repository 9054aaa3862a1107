/-
  Contract of paths.Reach.
-/
import Derived.Test.YtankibadiomkkabPathReached
import Derived.Test.YtankibadiomkkabPathHops
import Derived.Test.YtankibadiomkkabPathCheck
namespace Go.Proofs.Ytankibadiomkkab
set_option maxRecDepth 100000
open Go.ChangeShapes Go.WideShapes Go.ChangeAt Go.RowKit

set_option maxHeartbeats 1000000 in
set_option maxRecDepth 100000 in
theorem pReach_any (v : Value) (es : List Ed) (n s : Int) (w : World) (h : EdR w v es) :
    Calls Try.prog 8 #[.agg #[.int .i64 n, v], .int .i64 s] w (BolP w (errV n es s) (reachF n.toNat es s)) := by
  have HR : Hid (EdR w v es) := h
  obtain ⟨a, cap, rfl, hca, hma, _, _⟩ := h
  unfold maxLen at hma
  have HCK : Hid (∀ X, EdR X (.slice a es.length cap) es → Calls Try.prog 12 #[.agg #[.int .i64 n, .slice a es.length cap], .int .i64 s] X fun e w' => e = .returned (.int .i64 (errV n es s)) ∧ Below X.heap.size X w') := fun X hX => pCheck_any _ es n s X hX
  obtain ⟨W0, hW0⟩ : ∃ W0, W0 = w.alloc (.cells #[.int .i64 n, .slice a es.length cap] 25) := ⟨_, rfl⟩
  have Q0 : BX 25 W0 w.heap.size #[.int .i64 n, .slice a es.length cap] := by rw [hW0]; exact BX.new _ _ _
  have BH : Hid (Below w.heap.size w W0) := by show Below _ _ _; rw [hW0]; exact below_alloc _ _
  have s1 : w.heap.size + 1 ≤ W0.heap.size := by rw [hW0]; simp
  have HK : Hid (∀ X, Below W0.heap.size W0 X → BX 25 X w.heap.size #[.int .i64 n, .slice a es.length cap] ∧ Below w.heap.size w X ∧ EdR X (.slice a es.length cap) es) := fun X hX => ⟨Q0.below hX (by omega), BH.out.trans (hX.mono (by omega)), HR.out.below (BH.out.trans (hX.mono (by omega))) (Nat.le_refl _)⟩
  have R0 : Hid (EdR W0 (.slice a es.length cap) es) := HR.out.below BH.out (Nat.le_refl _)
  obtain ⟨q0, q1, _⟩ := Q0.all2
  clear Q0
  by_cases he : errV n es s = 0
  · have hf : faultE n es = 0 := by
      apply Classical.byContradiction
      intro hne
      rw [errV_bad hne] at he
      exact hne he
    have hs : 0 ≤ s ∧ s < n := by
      apply Classical.byContradiction
      intro hne
      rw [errV_out hf hne] at he
      cases he
    obtain ⟨hn0, hn1, hle, hgd⟩ := fault_ok hf
    rw [he] at HCK ⊢
    obtain ⟨m, rfl⟩ : ∃ m : Nat, n = m := ⟨n.toNat, by omega⟩
    obtain ⟨sv, rfl⟩ : ∃ m : Nat, s = m := ⟨s.toNat, by omega⟩
    rw [Int.toNat_natCast]
    have HG : Hid (InG m es) := in_fault hf
    have hsv : sv < m := by omega
    have HP : Hid (∀ v (w' : World), w'.ownsRow w.heap.size 4 1 v m ((reachF m es sv).flatMap encT) → Below w.heap.size w w' → BolP w 0 (reachF m es sv) (.returned (.tuple #[v, .int .i64 0])) w') := fun v w' h1 h2 => BolP.yes (by rw [(reach_ok HG.out hs).1]; exact h1) h2
    have HH : Hid (∀ X, EdR X (.slice a es.length cap) es → Calls Try.prog 11 #[.agg #[.int .i64 (m : Int), .slice a es.length cap]] X fun e w' => ∃ v', e = .returned v' ∧ OwnLs w' X.heap.size v' (tblF m es) ∧ Below X.heap.size X w') := fun X hX => hopsOf_any _ es m X hX (by omega) (by omega) (fun e he => ⟨(HG.out e he).1, (HG.out e he).2.1⟩)
    have HS : Hid (∀ u X, LsR X u (tblF m es) → Calls Try.prog 13 #[u, .int .i64 sv] X (RcdP m es sv X)) := fun u X hX => reached_any u es m sv X hX HG.out (by omega) (by omega) hsv
    generalize BolP w 0 (reachF m es sv) = P at *
    clear hf hgd he hs
    go_enter Try.func8, Try.ntmps8
    go_upto_region 1 with fail
    rw [← hW0]
    clear hW0
    go_wp2_with fail
    refine (HCK.out _ R0.out).mono ?_
    rintro e w1 ⟨rfl, hb1⟩
    have A1 : Hid (Below W0.heap.size W0 w1) := hb1
    clear hb1 q0 q1 HCK
    obtain ⟨Q1, _, R1⟩ := HK.out _ A1.out
    have R1' : Hid (EdR w1 (.slice a es.length cap) es) := R1
    obtain ⟨q0, q1, _⟩ := Q1.all2
    clear Q1 R1
    go_wp2_with fail
    refine (HH.out _ R1'.out).mono ?_
    rintro e w2 ⟨vh, rfl, ho2, hb2⟩
    have L2 : Hid (LsR w2 vh (tblF m es)) := ho2.reads
    have A2 : Hid (Below W0.heap.size W0 w2) := A1.out.trans (hb2.mono A1.out.size)
    obtain ⟨ha, hn, hc, rfl⟩ : ∃ a n c, vh = .slice a n c := by obtain ⟨a, c, e, _⟩ := L2.out; exact ⟨_, _, _, e⟩
    clear ho2 hb2 q0 q1
    go_wp2_with fail
    refine (HS.out _ _ L2.out).mono ?_
    rintro e w3 ⟨v', rfl, ho3, hb3⟩
    have hsz := A2.out.size
    have B3 : Hid (Below w.heap.size w w3) := (HK.out _ A2.out).2.1.trans (hb3.mono (by omega))
    have O3 : Hid (w3.ownsRow w.heap.size 4 1 v' m ((reachF m es sv).flatMap encT)) := by
      show World.ownsRow _ _ _ _ _ _ _
      exact own_lower ho3 (by omega)
    obtain ⟨va, vn, vc, rfl⟩ : ∃ a n c, v' = .slice a n c := by
      rcases own_shapeK ho3 with ⟨e, _⟩ | ⟨g', c', e, _⟩
      · exact ⟨_, _, _, e⟩
      · exact ⟨_, _, _, e⟩
    clear ho3 hb3
    go_wp2_with fail
    exact HP.out _ _ O3.out B3.out
  · have HP : Hid (∀ (w' : World), Below w.heap.size w w' → BolP w (errV n es s) (reachF n.toNat es s) (.returned (.tuple #[.slice none 0 0, .int .i64 (errV n es s)])) w') := fun w' h => BolP.no he h
    generalize BolP w (errV n es s) (reachF n.toNat es s) = P at *
    generalize errV n es s = fe at *
    have t0 : (fe != 0) = true := by simpa using he
    clear he
    go_enter Try.func8, Try.ntmps8
    go_upto_region 1 with fail
    rw [← hW0]
    clear hW0
    go_wp2_with fail
    refine (HCK.out _ R0.out).mono ?_
    rintro e w1 ⟨rfl, hb1⟩
    have B1 : Hid (Below w.heap.size w w1) := (HK.out _ hb1).2.1
    clear hb1 q0 q1 HCK
    go_wp2_with fail
    exact HP.out _ B1.out
end Go.Proofs.Ytankibadiomkkab
