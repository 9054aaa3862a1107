/-
  Contract of the law's states: a copy.
-/
import Derived.Test.YtooaigcjpkhdhaaRefStaCopy
import Derived.Test.YtooaigcjpkhdhaaJobOpen
import Derived.Deep.CutRange
namespace Go.Proofs.Ytooaigcjpkhdhaa
set_option maxRecDepth 100000
open Go.ChangeShapes Go.WideShapes Go.ChangeAt Go.RowKit

set_option maxHeartbeats 1000000 in
set_option maxRecDepth 100000 in
theorem states_any (T : StS) (vv vm : Value) (w : World) (hv : MlR w vv T.vals) (hm : LiR w vm T.mail) (hB : StaB T) :
    Calls Try.prog 15 #[.agg #[.int .i64 T.step, .int .i64 T.phase, .bool T.fresh, .bool T.done, vv, vm]] w fun e w' => ∃ v1 v2, e = .returned (.agg #[.int .i64 T.step, .int .i64 T.phase, .bool T.fresh, .bool T.done, v1, v2]) ∧ w'.ownsRow w.heap.size 59 2 v1 T.vals.length (T.vals.flatMap encM) ∧ OwnLi w' w.heap.size v2 T.mail ∧ Below w.heap.size w w' := by
  have HV : Hid (MlR w vv T.vals) := hv
  have HM : Hid (LiR w vm T.mail) := hm
  obtain ⟨va, vc, rfl, hvc, hvm, _, _⟩ := hv
  obtain ⟨ma, mc, rfl, hmc, hmm, _⟩ := hm
  have CC : Hid (∀ X, MlR X (.slice va T.vals.length vc) T.vals → LiR X (.slice ma T.mail.length mc) T.mail → _) := fun X h1 h2 => stateCopy_any T _ _ X h1 h2 (by have := hB.1.2; omega) (by have := hB.2.2; omega) (fun l hl => by have := (hB.2.1 l hl).2; omega)
  obtain ⟨W0, hW0⟩ : ∃ W0, W0 = (w.alloc (.cells #[.int .i64 T.step, .int .i64 T.phase, .bool T.fresh, .bool T.done, .slice va T.vals.length vc, .slice ma T.mail.length mc] 34)).alloc (.cells #[.int .i64 0, .int .i64 0, .bool false, .bool false, .slice none 0 0, .slice none 0 0] 34) := ⟨_, rfl⟩
  obtain ⟨Q0, T0, B0, s1, s2⟩ := boxes2 w #[.int .i64 T.step, .int .i64 T.phase, .bool T.fresh, .bool T.done, .slice va T.vals.length vc, .slice ma T.mail.length mc] #[.int .i64 0, .int .i64 0, .bool false, .bool false, .slice none 0 0, .slice none 0 0] 34 34 W0 hW0
  have BH : Hid (Below w.heap.size w W0) := B0
  have Z0 : Hid (BX 34 W0 (w.heap.size + 1) #[.int .i64 0, .int .i64 0, .bool false, .bool false, .slice none 0 0, .slice none 0 0]) := T0
  have V0 : Hid (MlR W0 (.slice va T.vals.length vc) T.vals) := HV.out.below BH.out (Nat.le_refl _)
  have M0 : Hid (LiR W0 (.slice ma T.mail.length mc) T.mail) := HM.out.below BH.out (Nat.le_refl _)
  obtain ⟨⟨c0, c1, c2, c3, c4, c5⟩, _⟩ := Q0.all6
  clear Q0 T0 B0 hB
  go_enter Try.func15, Try.ntmps15
  go_upto_region 1 with fail
  rw [← hW0]
  clear hW0
  go_wp2_with fail
  refine (CC.out _ V0.out M0.out).mono ?_
  rintro e w1 ⟨v1, v2, rfl, hv1, hv2, hb1⟩
  have z1 := Z0.out.below hb1 (by omega)
  have hs1 := hb1.size
  obtain ⟨a1, n1, k1, rfl⟩ : ∃ a n c, v1 = .slice a n c := by
    rcases own_shapeK hv1 with ⟨e, _⟩ | ⟨g', c', e, _⟩
    · exact ⟨_, _, _, e⟩
    · exact ⟨_, _, _, e⟩
  obtain ⟨a2, k2, rfl⟩ := hv2.shape
  have RX : Hid (BX 34 (put6 w1 (w.heap.size + 1) (.int .i64 T.step) (.int .i64 T.phase) (.bool T.fresh) (.bool T.done) (.slice a1 n1 k1) (.slice a2 T.mail.length k2)) (w.heap.size + 1) #[.int .i64 T.step, .int .i64 T.phase, .bool T.fresh, .bool T.done, .slice a1 n1 k1, .slice a2 T.mail.length k2]) := z1.put6
  have VE : Hid ((put6 w1 (w.heap.size + 1) (.int .i64 T.step) (.int .i64 T.phase) (.bool T.fresh) (.bool T.done) (.slice a1 n1 k1) (.slice a2 T.mail.length k2)).ownsRow w.heap.size 59 2 (.slice a1 n1 k1) T.vals.length (T.vals.flatMap encM)) := own_lower (own_off hv1 z1 (by decide) (kept_put6 w1 (w.heap.size + 1) _ _ _ _ _ _)) (by omega)
  have ME : Hid (OwnLi (put6 w1 (w.heap.size + 1) (.int .i64 T.step) (.int .i64 T.phase) (.bool T.fresh) (.bool T.done) (.slice a1 n1 k1) (.slice a2 T.mail.length k2)) w.heap.size (.slice a2 T.mail.length k2) T.mail) := (hv2.off z1 (by decide) (by decide) (kept_put6 w1 (w.heap.size + 1) _ _ _ _ _ _)).lower (by omega)
  have BE : Hid (Below w.heap.size w (put6 w1 (w.heap.size + 1) (.int .i64 T.step) (.int .i64 T.phase) (.bool T.fresh) (.bool T.done) (.slice a1 n1 k1) (.slice a2 T.mail.length k2))) := below_put6 (BH.out.trans (hb1.mono (by omega))) (by omega) z1.lt _ _ _ _ _ _
  obtain ⟨⟨d0, d1, d2, d3, d4, d5⟩, e0, e1, e2, e3, e4, e5⟩ := z1.all6
  clear hv1 hv2 hb1 z1 c0 c1 c2 c3 c4 c5
  go_wp2_with fail
  obtain ⟨⟨r0, r1, r2, r3, r4, r5⟩, _⟩ := RX.out.all6
  unfold put6 at r0 r1 r2 r3 r4 r5
  exact bodyPost_ret (v := .agg #[.int .i64 T.step, .int .i64 T.phase, .bool T.fresh, .bool T.done, .slice a1 n1 k1, .slice a2 T.mail.length k2]) (by simp [results, Try.results15, go_sem, r0, r1, r2, r3, r4, r5]) rfl ⟨_, _, rfl, VE.out, ME.out, BE.out⟩
end Go.Proofs.Ytooaigcjpkhdhaa
