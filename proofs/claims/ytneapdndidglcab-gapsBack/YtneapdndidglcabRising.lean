/-
  Contracts of picked (a number from 0 to many - 1) and of rising (a list of at most so many numbers that rises, in memory of its own; nothing else is written).
-/
import Derived.Test.YtneapdndidglcabGapsPlain
namespace Go.Proofs.Ytneapdndidglcab
open Go.ChangeShapes Go.WideShapes Go.ChangeAt Go.RowKit

theorem ret_i64 {a b : Int} (h : a = b) : Ending.returned (.int .i64 a) = .returned (.int .i64 b) := by rw [h]

def pickF (n m : Int) : Int := (if n < 0 then -(n + 1) else n) % m

theorem pickF_bd (n m : Int) (hm : 0 < m) : 0 ≤ pickF n m ∧ pickF n m < m := ⟨Int.emod_nonneg _ (by omega), Int.emod_lt_of_pos _ hm⟩

set_option maxHeartbeats 400000 in
theorem picked_any (n m : Int) (w : World) (h0 : -9223372036854775808 ≤ n) (h1 : n ≤ 9223372036854775807) (hm : 0 < m) (hm1 : m ≤ 9223372036854775807) :
    Calls Try.prog 20 #[.int .i64 n, .int .i64 m] w fun e w' => e = .returned (.int .i64 (pickF n m)) ∧ w' = w := by
  by_cases h : n < 0
  · have HP : Hid (pickF n m = (-(n + 1)) % m) := by show pickF n m = _; unfold pickF; rw [if_pos h]
    have hz : (m == 0) = false := by simp; omega
    go_enter Try.func20, Try.ntmps20
    go_wp2
    go_ret
    exact ⟨ret_i64 (by rw [HP.out, ← Int.neg_tmod, Int.tmod_eq_emod_of_nonneg (by omega)]), rfl⟩
  · have HP : Hid (pickF n m = n % m) := by show pickF n m = _; unfold pickF; rw [if_neg h]
    have hz : (m == 0) = false := by simp; omega
    go_enter Try.func20, Try.ntmps20
    go_wp2
    go_ret
    exact ⟨ret_i64 (by rw [HP.out]), rfl⟩

set_option maxHeartbeats 800000 in
set_option maxRecDepth 100000 in
theorem rising_any (v : Value) (xs : List Int) (w : World) (h : Reads .i64 w v xs) (hx : ∀ x ∈ xs, -9223372036854775808 ≤ x ∧ x ≤ 9223372036854775807) :
    Calls Try.prog 15 #[v, .int .i64 100] w fun e w' =>
      ∃ v' l, e = .returned v' ∧ l.length ≤ 100 ∧ AllIn l ∧ Rises l ∧ w'.ownsRow w.heap.size 3 1 v' l.length (l.map (Value.int .i64)) ∧ Below w.heap.size w w' := by
  obtain ⟨i0, hi, hz0, hz1, hz2⟩ := info_parts Try.info3'
  have HR : Hid (Reads .i64 w v xs) := h
  have HX : Hid (∀ x ∈ xs, -9223372036854775808 ≤ x ∧ x ≤ 9223372036854775807) := hx
  obtain ⟨a, cap, rfl, hc, hm, _, _⟩ := h
  unfold maxLen at hm
  clear hx
  go_enter Try.func15, Try.ntmps15
  go_wp2_with fail
  go_loopw [5, 6, 7] (fun sl sn si wr => ∃ (k : Nat) (n : Int) (out : List Int), k ≤ xs.length ∧ k ≤ 100 ∧ si = .int .i64 k ∧ sn = .int .i64 n ∧ 0 ≤ n ∧ n ≤ 1000000 * k ∧ out.length = k ∧ AllIn out ∧ Rises out ∧ prev out out.length = n ∧
    wr.ownsRow w.heap.size 3 1 sl out.length (out.map (Value.int .i64)) ∧ Below w.heap.size w wr) (fun _ _ i _ => 100 - (intOf i).toNat)
  case atStart => exact ⟨0, 0, [], by omega, by omega, rfl, rfl, by omega, by omega, rfl, fun i hi => by simp at hi, fun i hi => by simp at hi, rfl, World.ownsRow_nil _ _ _ _, Below.refl _ _⟩
  case round =>
    obtain ⟨k, n, out, hk, hk1, rfl, rfl, hn0, hn1, hol, ha, hr, hp, hown, hbel⟩ := hrel
    have HA : Hid (AllIn out ∧ Rises out ∧ prev out out.length = n ∧ out.length = k) := ⟨ha, hr, hp, hol⟩
    have hol2 : out.length ≤ 100 := by omega
    have hsz := hbel.size
    clear ha hr hp hol
    by_cases hgo : k < xs.length ∧ k < 100
    · obtain ⟨h1, h2⟩ := hgo
      obtain ⟨b, off, cap', hv, _, _, hb, hcell⟩ := HR.out.plain (by omega)
      injection hv with hv1 hv2 hv3
      subst hv1 hv3
      have d1 : wr.cell? ⟨b, off + k, none⟩ = some (.int .i64 (xs.getD k 0)) := (hbel.cell (by exact hb)).trans (hcell k h1)
      have hxb := HX.out (xs.getD k 0) (by rw [List.getD_eq_getElem?_getD, List.getElem?_eq_getElem h1]; exact List.getElem_mem h1)
      clear hcell hv2
      generalize xs.getD k 0 = x at *
      have HW : Hid (wr.ownsRow w.heap.size 3 1 _ out.length (out.map (Value.int .i64))) := hown
      clear hown
      go_wp2_with fail
      refine (picked_any x 1000000 _ hxb.1 hxb.2 (by omega) (by omega)).mono ?_
      rintro e w3 ⟨rfl, rfl⟩
      have hpk := pickF_bd x 1000000 (by omega)
      have hown := HW.out
      generalize pickF x 1000000 = p at *
      clear HW
      go_wp2_with (at_builtin; refine wpList_append_own _ rfl _ _ 36 rfl w.heap.size 3 i0 (.int .i64 0) 1 8 Try.underlying36 hi hz0 hz1 hz2 rfl (by decide) _ _ _ rfl (hown.alloc _) ⟨w3.heap.size, 0, none⟩ 1 1 [.int .i64 (n + p)] rfl rfl (cell_one_new _ _ _) ?c2 ?c3 ?c4 ?c5 ?_)
      case c2 => first | rfl | (intro u hu; simp at hu; subst hu; rfl)
      case c3 => unfold maxLen; omega
      case c4 => omega
      case c5 => first | omega | (simp; omega)
      intro v6 w6 hown6 hgrow _
      have hw6 := own_push64 hown6
      have HW6 : Hid (w6.ownsRow w.heap.size 3 1 v6 (out ++ [n + p]).length ((out ++ [n + p]).map (Value.int .i64))) := hw6
      have hbel6 : Below w.heap.size w w6 := (hbel.alloc (by omega) _).grown hgrow (by simp; omega) (fun k hk => (hown.lt k hk).1)
      clear hown6 hgrow hw6 hown hbel
      go_wp2_with fail
      go_roundw
      case rel => exact ⟨k + 1, n + p, out ++ [n + p], by omega, by omega, by go_num, by go_num, by omega, by omega, by rw [List.length_append, HA.out.2.2.2]; rfl, allIn_snoc HA.out.1 (by omega) (by omega), rises_snoc HA.out.2.1 (by rw [HA.out.2.2.1]; omega), prev_snoc _ _, HW6.out, hbel6⟩
      case measure => simp [intOf]; omega
    · by_cases h1 : k < xs.length
      · have h2 : ¬ k < 100 := by omega
        clear hgo
        go_wp2_with fail
        go_ret
        exact ⟨_, out, rfl, hol2, HA.out.1, HA.out.2.1, hown, hbel⟩
      · clear hgo
        go_wp2_with fail
        go_ret
        exact ⟨_, out, rfl, hol2, HA.out.1, HA.out.2.1, hown, hbel⟩
end Go.Proofs.Ytneapdndidglcab
