/-
  Contracts of varint.appendNumber and varint.Put: the bytes of P1.1 are laid behind what the slice holds; nothing else is written.
-/
import Derived.Test.YtkgdenbabafeoaaGreatDoorPlain
import Derived.WalkKit
import Derived.ProofKit
import Derived.OpenShut
import Derived.WalkSpells
import Derived.WalkLawsBesides
namespace Go.Proofs.YtkgdenbabafeoaaGreatDoor
set_option maxRecDepth 100000
open Go.ChangeShapes Go.WideShapes Go.ChangeAt Go.RowKit

theorem nat_or128 (k : Nat) (h : k < 256) : k ||| 128 = k % 128 + 128 := by
  by_cases hk : k < 128
  · have := nat_join 7 128 k (by decide) (by omega)
    rw [Nat.or_comm, this]; omega
  · have e : k = 128 + (k - 128) := by omega
    have := nat_join 7 128 (k - 128) (by decide) (by omega)
    have e2 : k ||| 128 = k := by
      rw [e, ← this, Nat.or_comm, ← Nat.or_assoc, Nat.or_self]
    rw [e2]; omega
theorem or128 (n : Int) : bits .or .u8 (n % 256) 128 = n % 128 + 128 := by
  rw [u8_or _ _ (by omega) (by omega) (by omega) (by omega)]
  have e : (n % 256).toNat ||| (128 : Int).toNat = (n % 256).toNat % 128 + 128 := nat_or128 _ (by omega)
  rw [e]; omega

set_option maxHeartbeats 800000 in
theorem appendNumber_any (base : Nat) (v0 : Value) (xs : List Int) (n : Int) (w : World) (h0 : 0 ≤ n) (h1 : n ≤ 18446744073709551615)
    (hb : base ≤ w.heap.size) (hlen : xs.length + 10 ≤ 140737488355328) (hown : w.ownsRow base 5 1 v0 xs.length (xs.map (Value.int .u8))) :
    Calls Tryz.prog 42 #[v0, .int .u64 n] w fun e w' =>
      ∃ v', e = .returned v' ∧ w'.ownsRow base 5 1 v' (xs ++ put n).length ((xs ++ put n).map (Value.int .u8)) ∧ Below base w w' := by
  obtain ⟨i0, hi, hz0, hz1, hz2⟩ := info_parts Tryz.info5
  go_enter Tryz.func42, Tryz.ntmps42
  go_wp2_with fail
  go_loopw [0, 1] (fun v i wr => ∃ (pre : List Int) (m : Int), i = .int .u64 m ∧ 0 ≤ m ∧ m ≤ 18446744073709551615 ∧ pre ++ put m = xs ++ put n ∧ wr.ownsRow base 5 1 v pre.length (pre.map (Value.int .u8)) ∧ Below base w wr) (fun _ i _ => (intOf i).toNat)
  case atStart => exact ⟨xs, n, rfl, h0, h1, rfl, hown, Below.refl _ _⟩
  case round =>
    obtain ⟨pre, m, rfl, hm0, hm1, hpre, hownr, hbel⟩ := hrel
    have HP : Hid (pre ++ put m = xs ++ put n) := hpre
    clear hpre
    have hl : pre.length ≤ xs.length + 9 := by
      have e := congrArg List.length HP.out
      have p1 := put_len m
      have p2 := put_len n
      simp at e; omega
    have hsz := hbel.size
    by_cases hm : 128 ≤ m
    · have hor := or128 m
      go_wp2_with (at_builtin; refine wpList_append_own _ rfl _ _ 31 rfl base 5 i0 (.int .u8 0) 1 1 Tryz.underlying31 hi hz0 hz1 hz2 rfl (by decide) _ _ _ rfl (hownr.alloc _) ⟨wr.heap.size, 0, none⟩ 1 1 [.int .u8 (m % 128 + 128)] rfl rfl (cell_one_new _ _ _) ?c2 ?c3 ?c4 ?c5 ?_)
      case c2 => intro u hu; simp at hu; subst hu; rfl
      case c3 => unfold maxLen; omega
      case c4 => omega
      case c5 => simp; omega
      intro v' w1 hown' hgrow _
      have hown2 := own_push hown'
      have hbel2 : Below base w w1 := (hbel.alloc (by omega) _).grown hgrow (by simp; omega) (fun k hk => (hownr.lt k hk).1)
      clear hown' hgrow hownr hbel
      go_wp2
      go_roundw
      case rel => exact ⟨pre ++ [m % 128 + 128], m / 128, rfl, by omega, by omega, by rw [← HP.out, put_big hm hm1]; simp, hown2, hbel2⟩
      case measure => simp [intOf]; omega
    · go_wp2_with (at_builtin; refine wpList_append_own _ rfl _ _ 31 rfl base 5 i0 (.int .u8 0) 1 1 Tryz.underlying31 hi hz0 hz1 hz2 rfl (by decide) _ _ _ rfl (hownr.alloc _) ⟨wr.heap.size, 0, none⟩ 1 1 [.int .u8 m] rfl rfl (cell_one_new _ _ _) ?d2 ?d3 ?d4 ?d5 ?_)
      case d2 => first | rfl | (intro u hu; simp at hu; subst hu; rfl)
      case d3 => unfold maxLen; omega
      case d4 => omega
      case d5 => first | omega | (simp; omega)
      intro v' w1 hown' hgrow _
      have hown2 := own_push hown'
      have hbel2 : Below base w w1 := (hbel.alloc (by omega) _).grown hgrow (by simp; omega) (fun k hk => (hownr.lt k hk).1)
      clear hown' hgrow hownr hbel
      go_wp2
      go_ret
      exact ⟨v', rfl, by rw [← HP.out, put_small (by omega)]; exact hown2, hbel2⟩

set_option maxHeartbeats 400000 in
theorem put_any (n : Int) (w : World) (h0 : 0 ≤ n) (h1 : n ≤ 18446744073709551615) :
    Calls Tryz.prog 21 #[.int .u64 n] w fun e w' =>
      ∃ v', e = .returned v' ∧ w'.ownsRow w.heap.size 5 1 v' (put n).length ((put n).map (Value.int .u8)) ∧ Below w.heap.size w w' := by
  go_enter Tryz.func21, Tryz.ntmps21
  go_wp2_with fail
  refine (appendNumber_any w.heap.size _ [] n _ h0 h1 (Nat.le_refl _) (by simp) (World.ownsRow_nil _ _ _ _)).mono ?_
  rintro e w' ⟨v', rfl, hown, hbel⟩
  go_wp2
  go_ret
  exact ⟨v', rfl, by simpa using hown, hbel⟩
end Go.Proofs.YtkgdenbabafeoaaGreatDoor
