/-
  Contract of paths.Weak.
-/
import Derived.Test.YtankibadiomkkaaPathJoin
import Derived.Test.YtankibadiomkkaaPathErr
import Derived.Test.YtankibadiomkkaaCheckFace
import Derived.Deep.CutRange
namespace Go.Proofs.Ytankibadiomkkaa
set_option maxRecDepth 100000
open Go.ChangeShapes Go.WideShapes Go.ChangeAt Go.RowKit

set_option maxHeartbeats 1000000 in
set_option maxRecDepth 100000 in
theorem pWeak_any (v : Value) (es : List Ed) (n : Int) (w : World) (h : EdR w v es) :
    Calls Try.prog 14 #[.agg #[.int .i64 n, v]] w (NumP w (faultE n es) (weakF n.toNat es)) := by
  have HR : Hid (EdR w v es) := h
  obtain ⟨a, cap, rfl, hca, hma, _, _⟩ := h
  unfold maxLen at hma
  have HCK : Hid (∀ X, EdR X (.slice a es.length cap) es → Calls Try.prog 28 #[.agg #[.int .i64 n, .slice a es.length cap]] X fun e w' => e = .returned (.int .i64 (faultE n es)) ∧ Below X.heap.size X w') := fun X hX => check_any _ es n X hX
  obtain ⟨W0, hW0⟩ : ∃ W0, W0 = w.alloc (.cells #[.int .i64 n, .slice a es.length cap] 24) := ⟨_, rfl⟩
  have Q0 : BX 24 W0 w.heap.size #[.int .i64 n, .slice a es.length cap] := by rw [hW0]; exact BX.new _ _ _
  have BH : Hid (Below w.heap.size w W0) := by show Below _ _ _; rw [hW0]; exact below_alloc _ _
  have s1 : w.heap.size + 1 ≤ W0.heap.size := by rw [hW0]; simp
  have HK : Hid (∀ X, Below W0.heap.size W0 X → BX 24 X w.heap.size #[.int .i64 n, .slice a es.length cap] ∧ Below w.heap.size w X ∧ EdR X (.slice a es.length cap) es) := fun X hX => ⟨Q0.below hX (by omega), BH.out.trans (hX.mono (by omega)), HR.out.below (BH.out.trans (hX.mono (by omega))) (Nat.le_refl _)⟩
  have R0 : Hid (EdR W0 (.slice a es.length cap) es) := HR.out.below BH.out (Nat.le_refl _)
  obtain ⟨q0, q1, _⟩ := Q0.all2
  clear Q0
  by_cases hf : faultE n es = 0
  · obtain ⟨hn0, hn1, hle, hgd⟩ := fault_ok hf
    rw [hf] at HCK ⊢
    obtain ⟨m, rfl⟩ : ∃ m : Nat, n = m := ⟨n.toNat, by omega⟩
    rw [Int.toNat_natCast]
    have HG : Hid (InG m es) := in_fault hf
    have HP : Hid (∀ v (w' : World), w'.ownsRow w.heap.size 3 1 v m ((weakF m es).flatMap encI) → Below w.heap.size w w' → NumP w 0 (weakF m es) (.returned (.tuple #[v, .int .i64 0])) w') := fun v w' h1 h2 => NumP.yes (by rw [(weak_ok HG.out).1]; exact h1) h2
    have HJ : Hid (∀ X, EdR X (.slice a es.length cap) es → Calls Try.prog 30 #[.agg #[.int .i64 (m : Int), .slice a es.length cap]] X (JndP m es X)) := fun X hX => joined_any _ es m X hX HG.out (by omega) (by omega)
    generalize NumP w 0 (weakF m es) = P at *
    clear hf hgd
    go_enter Try.func14, Try.ntmps14
    go_upto_region 1 with fail
    rw [← hW0]
    clear hW0
    go_wp2_with fail
    refine (HCK.out _ R0.out).mono ?_
    rintro e w1 ⟨rfl, hb1⟩
    have A1 : Hid (Below W0.heap.size W0 w1) := hb1
    clear hb1 q0 q1 HCK
    obtain ⟨Q1, _, R1⟩ := HK.out _ A1.out
    have R1' : Hid (EdR w1 (.slice a es.length cap) es) := R1
    obtain ⟨q0, q1, _⟩ := Q1.all2
    clear Q1 R1
    go_wp2_with fail
    refine (HJ.out _ R1'.out).mono ?_
    rintro e w2 ⟨g, T, rfl, hj, ho2, hb2⟩
    have RT := rootsOf_any _ g m es T w2 ho2 hj.1 (by omega)
    rw [partR_weak hj HG.out] at RT
    have HRT : Hid (Calls Try.prog 29 #[.slice (some ⟨g, 0, none⟩) m m] w2 fun e w' => ∃ v', e = .returned v' ∧ w'.ownsRow w2.heap.size 3 1 v' m ((weakF m es).flatMap encI) ∧ Below w2.heap.size w2 w') := RT
    have A2 : Hid (Below W0.heap.size W0 w2) := A1.out.trans (hb2.mono A1.out.size)
    clear RT hj ho2 hb2 q0 q1
    go_wp2_with fail
    refine HRT.out.mono ?_
    rintro e w3 ⟨v', rfl, ho3, hb3⟩
    have hsz := A2.out.size
    have B3 : Hid (Below w.heap.size w w3) := (HK.out _ A2.out).2.1.trans (hb3.mono (by omega))
    have O3 : Hid (w3.ownsRow w.heap.size 3 1 v' m ((weakF m es).flatMap encI)) := own_lower ho3 (by omega)
    obtain ⟨va, vn, vc, rfl⟩ : ∃ a n c, v' = .slice a n c := by
      rcases own_shapeK ho3 with ⟨e, _⟩ | ⟨g', c', e, _⟩
      · exact ⟨_, _, _, e⟩
      · exact ⟨_, _, _, e⟩
    clear ho3 hb3
    go_wp2_with fail
    exact HP.out _ _ O3.out B3.out
  · have HP : Hid (∀ (w' : World), Below w.heap.size w w' → NumP w (faultE n es) (weakF n.toNat es) (.returned (.tuple #[.slice none 0 0, .int .i64 (faultE n es)])) w') := fun w' h => NumP.no hf h
    generalize NumP w (faultE n es) (weakF n.toNat es) = P at *
    generalize faultE n es = fe at *
    have t0 : (fe != 0) = true := by simpa using hf
    clear hf
    go_enter Try.func14, Try.ntmps14
    go_upto_region 1 with fail
    rw [← hW0]
    clear hW0
    go_wp2_with fail
    refine (HCK.out _ R0.out).mono ?_
    rintro e w1 ⟨rfl, hb1⟩
    have B1 : Hid (Below w.heap.size w w1) := (HK.out _ hb1).2.1
    clear hb1 q0 q1 HCK
    go_wp2_with fail
    exact HP.out _ B1.out
end Go.Proofs.Ytankibadiomkkaa
