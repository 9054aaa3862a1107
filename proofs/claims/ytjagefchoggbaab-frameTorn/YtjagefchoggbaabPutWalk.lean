/-
  Contracts of varint.appendNumber and varint.Put: the bytes of P1.1 are laid behind what the slice holds; nothing else is written.
-/
import Derived.Test.YtjagefchoggbaabPlain
import Derived.WalkKit
import Derived.ProofKit
import Derived.OpenShut
import Derived.WalkSpells
import Derived.WalkLawsBesides
namespace Go.Proofs.Ytjagefchoggbaab
open Go.ChangeShapes Go.WideShapes Go.ChangeAt Go.RowKit

theorem nat_or128 (k : Nat) (h : k < 256) : k ||| 128 = k % 128 + 128 := by
  by_cases hk : k < 128
  · have := nat_join 7 128 k (by decide) (by omega)
    rw [Nat.or_comm, this]; omega
  · have e : k = 128 + (k - 128) := by omega
    have := nat_join 7 128 (k - 128) (by decide) (by omega)
    have e2 : k ||| 128 = k := by
      rw [e, ← this, Nat.or_comm, ← Nat.or_assoc, Nat.or_self]
    rw [e2]; omega
theorem or128 (n : Int) : bits .or .u8 (n % 256) 128 = n % 128 + 128 := by
  rw [u8_or _ _ (by omega) (by omega) (by omega) (by omega)]
  have e : (n % 256).toNat ||| (128 : Int).toNat = (n % 256).toNat % 128 + 128 := nat_or128 _ (by omega)
  rw [e]; omega

theorem own_push {w : World} {base : Nat} {v : Value} {pre : List Int} {x : Int} (h : w.ownsRow base 5 1 v (pre.length + 1) (pre.map (Value.int .u8) ++ [.int .u8 x])) :
    w.ownsRow base 5 1 v (pre ++ [x]).length ((pre ++ [x]).map (Value.int .u8)) := by simpa using h

/-- A slice of one new block owns it. -/
theorem own_new (w : World) (base : Nat) (hb : base ≤ w.heap.size) (x : Int) : (w.alloc (.cells #[.int .u8 x] 5)).ownsRow base 5 1 (.slice (some ⟨w.heap.size, 0, none⟩) 1 1) ([x] : List Int).length (([x] : List Int).map (Value.int .u8)) :=
  ⟨by simp, .inr ⟨w.heap.size, 1, #[.int .u8 x], rfl, hb, heap_alloc_new w _, by simp, by simp [maxLen], by simp, by simp⟩⟩
/-- What is owned in blocks below B is owned still where nothing below B has turned. -/
theorem own_below {w w' : World} {B base : Nat} {e : TypeId} {size n : Nat} {v : Value} {xs : List Value} (h : w.ownsRow base e size v n xs) (hb : Below B w w') (hB : w.heap.size ≤ B) : w'.ownsRow base e size v n xs := by
  refine ⟨h.1, ?_⟩
  rcases h.2 with hn | ⟨g, cap, cur, rfl, hg, hgg, rest⟩
  · exact .inl hn
  · refine .inr ⟨g, cap, cur, rfl, hg, ?_, rest⟩
    rw [hb.block g (by have := (Array.getElem?_eq_some_iff.1 hgg).1; omega)]
    exact hgg
/-- The shape of an owned slice that is not empty. -/
theorem own_shape {w : World} {base : Nat} {e : TypeId} {n : Nat} {v : Value} {xs : List Value} (h : w.ownsRow base e 1 v n xs) (hn : 0 < n) :
    ∃ g cap, v = .slice (some ⟨g, 0, none⟩) n cap ∧ base ≤ g ∧ g < w.heap.size ∧ n ≤ cap ∧ cap ≤ maxLen ∧ ∀ j u, xs[j]? = some u → w.cell? ((⟨g, 0, none⟩ : Addr).add j) = some u := by
  rcases h.2 with ⟨_, h0⟩ | ⟨g, cap, cur, hv, hg, hgg, hc, hm, _⟩
  · omega
  · subst hv
    exact ⟨g, cap, rfl, hg, (Array.getElem?_eq_some_iff.1 hgg).1, hc, hm, h.cells rfl⟩
/-- An owned slice is nil and empty, or begins at the head of a block. -/
theorem own_cases {w : World} {base : Nat} {e : TypeId} {n : Nat} {v : Value} {xs : List Value} (h : w.ownsRow base e 1 v n xs) :
    (v = .slice none 0 0 ∧ n = 0 ∧ xs = []) ∨ ∃ g cap, v = .slice (some ⟨g, 0, none⟩) n cap ∧ base ≤ g ∧ g < w.heap.size ∧ n ≤ cap ∧ cap ≤ maxLen ∧ ∀ j u, xs[j]? = some u → w.cell? ((⟨g, 0, none⟩ : Addr).add j) = some u := by
  rcases h.2 with ⟨hv, h0⟩ | ⟨g, cap, cur, hv, hg, hgg, hc, hm, _⟩
  · exact .inl ⟨hv, h0, List.eq_nil_of_length_eq_zero (by rw [h.1, h0, Nat.zero_mul])⟩
  · subst hv
    exact .inr ⟨g, cap, rfl, hg, (Array.getElem?_eq_some_iff.1 hgg).1, hc, hm, h.cells rfl⟩
theorem bytes_oneCell (l : List Int) : ∀ u ∈ l.map (Value.int .u8), u.oneCell' = true := by
  intro u hu
  obtain ⟨x, _, rfl⟩ := List.mem_map.1 hu
  rfl

theorem Try.info5 : (Try.prog.info? 5).map (fun i => (i.zero, i.size, i.bytes)) = some (some (.int .u8 0), 1, 1) := by kernel_rfl

set_option maxHeartbeats 800000 in
theorem appendNumber_any (base : Nat) (v0 : Value) (xs : List Int) (n : Int) (w : World) (h0 : 0 ≤ n) (h1 : n ≤ 18446744073709551615)
    (hb : base ≤ w.heap.size) (hlen : xs.length + 10 ≤ 140737488355328) (hown : w.ownsRow base 5 1 v0 xs.length (xs.map (Value.int .u8))) :
    Calls Try.prog 16 #[v0, .int .u64 n] w fun e w' =>
      ∃ v', e = .returned v' ∧ w'.ownsRow base 5 1 v' (xs ++ put n).length ((xs ++ put n).map (Value.int .u8)) ∧ Below base w w' := by
  obtain ⟨i0, hi, hz0, hz1, hz2⟩ := info_parts Try.info5
  go_enter Try.func16, Try.ntmps16
  go_wp2_with fail
  go_loopw [0, 1] (fun v i wr => ∃ (pre : List Int) (m : Int), i = .int .u64 m ∧ 0 ≤ m ∧ m ≤ 18446744073709551615 ∧ pre ++ put m = xs ++ put n ∧ wr.ownsRow base 5 1 v pre.length (pre.map (Value.int .u8)) ∧ Below base w wr) (fun _ i _ => (intOf i).toNat)
  case atStart => exact ⟨xs, n, rfl, h0, h1, rfl, hown, Below.refl _ _⟩
  case round =>
    obtain ⟨pre, m, rfl, hm0, hm1, hpre, hownr, hbel⟩ := hrel
    have HP : Hid (pre ++ put m = xs ++ put n) := hpre
    clear hpre
    have hl : pre.length ≤ xs.length + 9 := by
      have e := congrArg List.length HP.out
      have p1 := put_len m
      have p2 := put_len n
      simp at e; omega
    have hsz := hbel.size
    by_cases hm : 128 ≤ m
    · have hor := or128 m
      go_wp2_with (at_builtin; refine wpList_append_own _ rfl _ _ 23 rfl base 5 i0 (.int .u8 0) 1 1 Try.underlying23 hi hz0 hz1 hz2 rfl (by decide) _ _ _ rfl (hownr.alloc _) ⟨wr.heap.size, 0, none⟩ 1 1 [.int .u8 (m % 128 + 128)] rfl rfl (cell_one_new _ _ _) ?c2 ?c3 ?c4 ?c5 ?_)
      case c2 => intro u hu; simp at hu; subst hu; rfl
      case c3 => unfold maxLen; omega
      case c4 => omega
      case c5 => simp; omega
      intro v' w1 hown' hgrow _
      have hown2 := own_push hown'
      have hbel2 : Below base w w1 := (hbel.alloc (by omega) _).grown hgrow (by simp; omega) (fun k hk => (hownr.lt k hk).1)
      clear hown' hgrow hownr hbel
      go_wp2
      go_roundw
      case rel => exact ⟨pre ++ [m % 128 + 128], m / 128, rfl, by omega, by omega, by rw [← HP.out, put_big hm hm1]; simp, hown2, hbel2⟩
      case measure => simp [intOf]; omega
    · go_wp2_with (at_builtin; refine wpList_append_own _ rfl _ _ 23 rfl base 5 i0 (.int .u8 0) 1 1 Try.underlying23 hi hz0 hz1 hz2 rfl (by decide) _ _ _ rfl (hownr.alloc _) ⟨wr.heap.size, 0, none⟩ 1 1 [.int .u8 m] rfl rfl (cell_one_new _ _ _) ?d2 ?d3 ?d4 ?d5 ?_)
      case d2 => first | rfl | (intro u hu; simp at hu; subst hu; rfl)
      case d3 => unfold maxLen; omega
      case d4 => omega
      case d5 => first | omega | (simp; omega)
      intro v' w1 hown' hgrow _
      have hown2 := own_push hown'
      have hbel2 : Below base w w1 := (hbel.alloc (by omega) _).grown hgrow (by simp; omega) (fun k hk => (hownr.lt k hk).1)
      clear hown' hgrow hownr hbel
      go_wp2
      go_ret
      exact ⟨v', rfl, by rw [← HP.out, put_small (by omega)]; exact hown2, hbel2⟩

set_option maxHeartbeats 400000 in
theorem put_any (n : Int) (w : World) (h0 : 0 ≤ n) (h1 : n ≤ 18446744073709551615) :
    Calls Try.prog 11 #[.int .u64 n] w fun e w' =>
      ∃ v', e = .returned v' ∧ w'.ownsRow w.heap.size 5 1 v' (put n).length ((put n).map (Value.int .u8)) ∧ Below w.heap.size w w' := by
  go_enter Try.func11, Try.ntmps11
  go_wp2_with fail
  refine (appendNumber_any w.heap.size _ [] n _ h0 h1 (Nat.le_refl _) (by simp) (World.ownsRow_nil _ _ _ _)).mono ?_
  rintro e w' ⟨v', rfl, hown, hbel⟩
  go_wp2
  go_ret
  exact ⟨v', rfl, by simpa using hown, hbel⟩
end Go.Proofs.Ytjagefchoggbaab
