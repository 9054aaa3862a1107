/-
  Moves made of raw numbers: contract of pacelinekeep's own MoveOf; trips that came in.
-/
import Derived.Test.YtdeghndcglgfkaaDoorPlayMem
import Derived.Test.YtdeghndcglgfkaaDoorPicked
import Derived.Test.YtdeghndcglgfkaaDoorTwoOpen
namespace Go.Proofs.YtdeghndcglgfkaaDoor
set_option maxRecDepth 100000
open Go.ChangeShapes Go.WideShapes Go.ChangeAt Go.RowKit

theorem open_tripsP {H : Type} {enc : TypeId × Value → H} {W : World} {v0 : Value} {d0 : DataW H} {p0 : List MemPlace} (hv : ∃ a len cap, v0 = .slice a len cap) (h0 : DataW.Trod enc Tryd.prog W 0 (fun _ => true) true 32 v0 d0 p0)
    (hs : ∀ m ∈ d0.weights Tryd.prog 32, m ≤ reachBytes) : ∃ es, MlR W v0 es ∧ (∀ x ∈ es, mlB x) ∧ es.length * 16 ≤ 140737488351232 := by
  obtain ⟨a, len, cap, rfl⟩ := hv
  obtain ⟨fuel, hf⟩ := h0
  have hf' : DataW.trod enc Tryd.prog W 0 (fun _ => true) true fuel 32 [.slice a len cap] = some (d0, p0) := hf
  exact open_twos Tryd.underlying32 Tryd.underlying37 (by kernel_rfl) rfl rfl rfl rfl (by kernel_rfl) hf' hs
/-- The move of a trip. -/
def mvT (t : Ml) (keep : Int) : Mv := (1 + pickF t.1 8, if 1 + pickF t.1 8 = 5 ∨ 1 + pickF t.1 8 = 8 then 0 else pickF t.2 1000, if 1 + pickF t.1 8 = 6 then pickF keep 1000 else 0)
theorem mvT_ok (t : Ml) (keep : Int) : plE (mvT t keep) = 0 := by
  have h1 := pickF_bd t.1 8 (by decide)
  have h2 := pickF_bd t.2 1000 (by decide)
  have h3 := pickF_bd keep 1000 (by decide)
  unfold mvT
  generalize pickF t.1 8 = d at *
  generalize pickF t.2 1000 = a at *
  generalize pickF keep 1000 = b at *
  obtain rfl | rfl | rfl | rfl | rfl | rfl | rfl | rfl : d = 0 ∨ d = 1 ∨ d = 2 ∨ d = 3 ∨ d = 4 ∨ d = 5 ∨ d = 6 ∨ d = 7 := by omega
  · exact plE_yes (f := (1, [119, 111, 114, 107], 1)) rfl ⟨by simpa using h2.1, by simp; omega, fun h => absurd h (by decide)⟩ ⟨by simp, by simp, fun _ => by simp⟩
  · exact plE_yes (f := (2, [99, 97, 114, 114, 121], 1)) rfl ⟨by simpa using h2.1, by simp; omega, fun h => absurd h (by decide)⟩ ⟨by simp, by simp, fun _ => by simp⟩
  · exact plE_yes (f := (3, [108, 111, 115, 101], 1)) rfl ⟨by simpa using h2.1, by simp; omega, fun h => absurd h (by decide)⟩ ⟨by simp, by simp, fun _ => by simp⟩
  · exact plE_yes (f := (4, [100, 111, 117, 98, 108, 101], 1)) rfl ⟨by simpa using h2.1, by simp; omega, fun h => absurd h (by decide)⟩ ⟨by simp, by simp, fun _ => by simp⟩
  · exact plE_yes (f := (5, [97, 108, 108], 0)) rfl ⟨by simp, by simp, fun _ => by simp⟩ ⟨by simp, by simp, fun _ => by simp⟩
  · exact plE_yes (f := (6, [99, 114, 97, 115, 104], 2)) rfl ⟨by simpa using h2.1, by simp; omega, fun h => absurd h (by decide)⟩ ⟨by simpa using h3.1, by simp; omega, fun h => absurd h (by decide)⟩
  · exact plE_yes (f := (7, [115, 116, 97, 114, 116], 1)) rfl ⟨by simpa using h2.1, by simp; omega, fun h => absurd h (by decide)⟩ ⟨by simp, by simp, fun _ => by simp⟩
  · exact plE_yes (f := (8, [108, 101, 97, 100], 0)) rfl ⟨by simp, by simp, fun _ => by simp⟩ ⟨by simp, by simp, fun _ => by simp⟩

set_option maxHeartbeats 4000000 in
theorem moveOfK_any (t : Ml) (keep : Int) (ht : mlB t) (hk : i64B keep) (w : World) :
    Calls Tryd.prog 13 #[.agg #[.int .i64 t.1, .int .i64 t.2], .int .i64 keep] w fun e w' => e = .returned (.agg #[.int .i64 (mvT t keep).1, .int .i64 (mvT t keep).2.1, .int .i64 (mvT t keep).2.2]) ∧ Below w.heap.size w w' := by
  have h1 := pickF_bd t.1 8 (by decide)
  have h2 := pickF_bd t.2 1000 (by decide)
  have h3 := pickF_bd keep 1000 (by decide)
  have P1 := Lib.hid (fun X => picked_any t.1 8 X ht.1.1 ht.1.2 (by decide) (by decide))
  have P2 := Lib.hid (fun X => picked_any t.2 1000 X ht.2.1 ht.2.2 (by decide) (by decide))
  have P3 := Lib.hid (fun X => picked_any keep 1000 X hk.1 hk.2 (by decide) (by decide))
  unfold mvT
  generalize pickF t.1 8 = d at *
  generalize pickF t.2 1000 = a at *
  generalize pickF keep 1000 = b at *
  obtain ⟨tk, ta⟩ := t
  simp only at *
  have hw : IntKind.i64.wrap (1 + d) = 1 + d := wrap_id64 (by omega) (by omega)
  clear ht hk
  by_cases c5 : d = 4
  · subst c5
    rw [if_pos (by decide), if_neg (by decide)]
    go_enter Tryd.func13, Tryd.ntmps13
    go_wp2_with fail
    refine (P1.out _).mono ?_
    rintro e w1 ⟨rfl, hw1⟩
    rw [hw1]
    clear hw1 P1
    go_wp2_with fail
    obtain ⟨_, X1, _, hB, _⟩ := boxes3 w #[.int .i64 tk, .int .i64 ta] #[.int .i64 (5), .int .i64 0, .int .i64 0] #[.int .i64 (5), .int .i64 0, .int .i64 0] 37 34 34 _ rfl
    generalize ((w.alloc (.cells #[.int .i64 tk, .int .i64 ta] 37)).alloc (.cells #[.int .i64 (5), .int .i64 0, .int .i64 0] 34)).alloc (.cells #[.int .i64 (5), .int .i64 0, .int .i64 0] 34) = WF at X1 hB ⊢
    obtain ⟨r0, r1, r2, _⟩ := X1.all3
    exact bodyPost_ret (v := .agg #[.int .i64 (5), .int .i64 0, .int .i64 0]) (by simp [results, Tryd.results13, go_sem, r0, r1, r2]) rfl ⟨rfl, hB⟩
  by_cases c8 : d = 7
  · subst c8
    rw [if_pos (by decide), if_neg (by decide)]
    go_enter Tryd.func13, Tryd.ntmps13
    go_wp2_with fail
    refine (P1.out _).mono ?_
    rintro e w1 ⟨rfl, hw1⟩
    rw [hw1]
    clear hw1 P1
    go_wp2_with fail
    obtain ⟨_, X1, _, hB, _⟩ := boxes3 w #[.int .i64 tk, .int .i64 ta] #[.int .i64 (8), .int .i64 0, .int .i64 0] #[.int .i64 (8), .int .i64 0, .int .i64 0] 37 34 34 _ rfl
    generalize ((w.alloc (.cells #[.int .i64 tk, .int .i64 ta] 37)).alloc (.cells #[.int .i64 (8), .int .i64 0, .int .i64 0] 34)).alloc (.cells #[.int .i64 (8), .int .i64 0, .int .i64 0] 34) = WF at X1 hB ⊢
    obtain ⟨r0, r1, r2, _⟩ := X1.all3
    exact bodyPost_ret (v := .agg #[.int .i64 (8), .int .i64 0, .int .i64 0]) (by simp [results, Tryd.results13, go_sem, r0, r1, r2]) rfl ⟨rfl, hB⟩
  rw [if_neg (by omega)]
  by_cases c6 : d = 5
  · subst c6
    rw [if_pos (by decide)]
    go_enter Tryd.func13, Tryd.ntmps13
    go_wp2_with fail
    refine (P1.out _).mono ?_
    rintro e w1 ⟨rfl, hw1⟩
    rw [hw1]
    clear hw1 P1
    go_wp2_with fail
    refine (P2.out _).mono ?_
    rintro e w1 ⟨rfl, hw1⟩
    rw [hw1]
    clear hw1 P2
    go_wp2_with fail
    refine (P3.out _).mono ?_
    rintro e w1 ⟨rfl, hw1⟩
    rw [hw1]
    clear hw1 P3
    go_wp2_with fail
    obtain ⟨_, X1, _, hB, _⟩ := boxes3 w #[.int .i64 tk, .int .i64 ta] #[.int .i64 (6), .int .i64 a, .int .i64 b] #[.int .i64 (6), .int .i64 a, .int .i64 b] 37 34 34 _ rfl
    generalize ((w.alloc (.cells #[.int .i64 tk, .int .i64 ta] 37)).alloc (.cells #[.int .i64 (6), .int .i64 a, .int .i64 b] 34)).alloc (.cells #[.int .i64 (6), .int .i64 a, .int .i64 b] 34) = WF at X1 hB ⊢
    obtain ⟨r0, r1, r2, _⟩ := X1.all3
    exact bodyPost_ret (v := .agg #[.int .i64 (6), .int .i64 a, .int .i64 b]) (by simp [results, Tryd.results13, go_sem, r0, r1, r2]) rfl ⟨rfl, hB⟩
  · rw [if_neg (by omega)]
    have n5 : (1 + d != 5) = true := by simp; omega
    have n8 : (1 + d != 8) = true := by simp; omega
    have n6 : (1 + d == 6) = false := by simp; omega
    go_enter Tryd.func13, Tryd.ntmps13
    go_wp2_with fail
    refine (P1.out _).mono ?_
    rintro e w1 ⟨rfl, hw1⟩
    rw [hw1]
    clear hw1 P1
    go_wp2_with fail
    refine (P2.out _).mono ?_
    rintro e w1 ⟨rfl, hw1⟩
    rw [hw1]
    clear hw1 P2
    go_wp2_with fail
    obtain ⟨_, X1, _, hB, _⟩ := boxes3 w #[.int .i64 tk, .int .i64 ta] #[.int .i64 (1 + d), .int .i64 a, .int .i64 0] #[.int .i64 (1 + d), .int .i64 a, .int .i64 0] 37 34 34 _ rfl
    generalize ((w.alloc (.cells #[.int .i64 tk, .int .i64 ta] 37)).alloc (.cells #[.int .i64 (1 + d), .int .i64 a, .int .i64 0] 34)).alloc (.cells #[.int .i64 (1 + d), .int .i64 a, .int .i64 0] 34) = WF at X1 hB ⊢
    obtain ⟨r0, r1, r2, _⟩ := X1.all3
    exact bodyPost_ret (v := .agg #[.int .i64 (1 + d), .int .i64 a, .int .i64 0]) (by simp [results, Tryd.results13, go_sem, r0, r1, r2]) rfl ⟨rfl, hB⟩
end Go.Proofs.YtdeghndcglgfkaaDoor
