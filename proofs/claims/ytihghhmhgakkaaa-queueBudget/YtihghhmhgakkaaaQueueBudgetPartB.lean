/-
  Contract of pacelineref.Unpacked: it returns what P1.2 says of the bytes that the slice reads as, and the world is as it was.
  Contract of the document's own small.
  Contract of pacelineref.Ungapped: it returns the numbers, the count of bytes and the error that P1.6 names; nothing that was there is written.
  Contracts of queue.inOrder and queue.unpack: the mail of a run, or ErrForm.
  A box that holds a queue.
  Contracts of queue's looseMayBe, unpackAll, count and Count.
  Calls in a region that draws its order: one whose result is told by a relation, one that gives up by a panic.
  Contract of queue.clone: a queue's copy in memory of its own.
-/
import Derived.Test.YtihghhmhgakkaaaGetWalk
import Derived.Test.YtihghhmhgakkaaaNumMath
import Derived.Test.YtihghhmhgakkaaaUngapWalk
import Derived.Test.YtihghhmhgakkaaaMayMail
import Derived.Test.YtihghhmhgakkaaaQueueBudgetPartA
import Derived.Laws.OwnMore
import Derived.Test.YtihghhmhgakkaaaQueueOpen
import Derived.Test.YtihghhmhgakkaaaRegionLast
import Derived.Laws.AppendOwnNone
import Derived.Deep.CutRange

namespace Go.Proofs.Ytihghhmhgakkaaa
set_option maxRecDepth 100000
open Go.ChangeShapes Go.WideShapes Go.ChangeAt Go.RowKit

set_option maxHeartbeats 1600000 in
theorem unpacked_row (b off cap : Nat) (xs : List Int) (w : World) (hn : 0 < xs.length) (hm : xs.length ≤ maxLen) (hx : ∀ x ∈ xs, 0 ≤ x ∧ x ≤ 255)
    (hcell : ∀ i, i < xs.length → w.cell? ⟨b, off + i, none⟩ = some (.int .u8 (xs.getD i 0))) :
    Calls Try.prog 79 #[.slice (some ⟨b, off, none⟩) xs.length cap] w fun e w' =>
      e = .returned (.tuple #[.int .u64 (get xs).1, .int .i64 (get xs).2.1, .int .i64 (get xs).2.2]) ∧ w' = w := by
  unfold maxLen at hm
  have HC : Hid (∀ i, i < xs.length → w.cell? ⟨b, off + i, none⟩ = some (.int .u8 (xs.getD i 0))) := hcell
  have HX : Hid (∀ i, i < xs.length → 0 ≤ xs.getD i 0 ∧ xs.getD i 0 ≤ 255) := fun i hi => hx _ (by rw [List.getD_eq_getElem?_getD, List.getElem?_eq_getElem hi]; exact List.getElem_mem hi)
  clear hcell hx
  go_enter Try.func79, Try.ntmps79
  go_wp2_with fail
  go_loop [5] (fun i => ∃ (k : Nat), k ≤ xs.length ∧ k ≤ 10 ∧ i = .int .i64 k ∧ ∀ i, i < k → 128 ≤ xs.getD i 0) (fun i => 10 - (intOf i).toNat)
  case atStart => exact ⟨0, by omega, by omega, rfl, fun i hi => by omega⟩
  case round =>
    obtain ⟨k, hk, hk10, rfl, hb⟩ := hrel
    have HB : Hid (∀ i, i < k → 128 ≤ xs.getD i 0) := hb
    clear hb
    by_cases hgo : k < xs.length ∧ k < 10 ∧ 128 ≤ xs.getD k 0
    · obtain ⟨hlt, h10, hge⟩ := hgo
      have hck := HC.out k hlt
      have hxb := HX.out k hlt
      generalize hxe : xs.getD k 0 = x at hck hxb hge
      have HE : Hid (xs.getD k 0 = x) := hxe
      clear hxe
      go_wp2_with fail
      go_round
      case rel => exact ⟨k + 1, by omega, by omega, by go_num, fun i hi => by
        by_cases h : i = k
        · rw [h, HE.out]; exact hge
        · exact HB.out i (by omega)⟩
      case measure => simp [intOf]; omega
    · by_cases h10 : k = 10
      · have hl9 : 9 < xs.length := by omega
        have hck := HC.out 9 hl9
        have hy := HB.out 9 (by omega)
        have hxb := HX.out 9 hl9
        have HV : Hid (get xs = (0, 0, 6)) := get_over xs hl9 (fun i hi => HB.out i (by omega)) (by omega)
        clear hgo
        generalize xs.getD 9 0 = y at *
        have hge : 10 ≤ k := by omega
        clear h10
        by_cases hlt : k < xs.length
        all_goals
          go_wp2_with fail
          go_ret3
          exact ⟨by rw [HV.out]; rfl, rfl⟩
      · by_cases hlt : k < xs.length
        · have hck := HC.out k hlt
          have hxb := HX.out k hlt
          have hsm : xs.getD k 0 < 128 := by
            rcases Int.lt_or_le (xs.getD k 0) 128 with h | h
            · exact h
            · exact absurd ⟨hlt, by omega, h⟩ hgo
          have Hov : Hid (k = 9 → 1 < xs.getD k 0 → get xs = (0, 0, 6)) := fun h9 h1 => get_over xs (by omega) (by rw [h9] at HB; exact HB.out) (by rw [h9] at h1; exact h1)
          have Hform : Hid (0 < k → xs.getD k 0 = 0 → get xs = (0, 0, 3)) := fun h0 hz => get_form xs k (by omega) h0 hlt HB.out hz
          have Hok : Hid ((k = 9 → xs.getD k 0 ≤ 1) → ¬ (xs.getD k 0 = 0 ∧ 0 < k) → get xs = (val (xs.take (k + 1)), k + 1, 0) ∧ 0 ≤ val (xs.take (k + 1)) ∧ val (xs.take (k + 1)) ≤ 18446744073709551615) :=
            fun h9 hz => get_ok xs k (by omega) hlt HB.out h9 hxb.1 hsm hz
          have H9 : Hid (9 ≤ k → w.cell? ⟨b, off + 9, none⟩ = some (.int .u8 (xs.getD k 0))) := fun h => by
            have e : k = 9 := by omega
            have h1 := hck
            rw [e] at h1 ⊢
            exact h1
          have HK : Hid (w.cell? ⟨b, off + k, none⟩ = some (.int .u8 (xs.getD k 0))) := hck
          clear hgo hck
          generalize hxe : xs.getD k 0 = x at *
          have hck := HK.out
          clear hxe HK
          have hk9 : k ≤ 9 := by omega
          clear h10 hk10
          by_cases hov : 9 ≤ k ∧ 1 < x
          · have HV : Hid (get xs = (0, 0, 6)) := Hov.out (by omega) hov.2
            have hc9 := H9.out hov.1
            obtain ⟨h9, h1⟩ := hov
            go_wp2_with fail
            go_ret3
            exact ⟨by rw [HV.out]; rfl, rfl⟩
          · by_cases hz : x = 0 ∧ 0 < k
            · have HV : Hid (get xs = (0, 0, 3)) := Hform.out hz.2 hz.1
              have hz' : (x == 0) = true := by simp [hz.1]
              have hz0 := hz.2
              have hx1 : x ≤ 1 := by omega
              clear hz hov
              by_cases h9 : 9 ≤ k
              · have hc9 := H9.out h9
                go_wp2_with fail
                go_ret3
                exact ⟨by rw [HV.out]; rfl, rfl⟩
              · go_wp2_with fail
                go_ret3
                exact ⟨by rw [HV.out]; rfl, rfl⟩
            · obtain ⟨e1, e2, e3⟩ := Hok.out (fun _ => by omega) hz
              have HV : Hid (get xs = (val (xs.take (k + 1)), k + 1, 0)) := e1
              have HL : Hid (∀ t, t ≤ k → val ((xs.take (k + 1)).drop t) = xs.getD t 0 % 128 + 128 * val ((xs.take (k + 1)).drop (t + 1)) ∧ val ((xs.take (k + 1)).drop t) ≤ 18446744073709551615 ∧ 0 ≤ val ((xs.take (k + 1)).drop (t + 1))) := fun t ht => by
                refine ⟨?_, Int.le_trans (val_drop _ _) e3, val_nonneg _⟩
                have hd : t < (xs.take (k + 1)).length := by rw [List.length_take_of_le (by omega)]; omega
                rw [drop_step hd, val]
                congr 2
                rw [List.getD_eq_getElem?_getD, List.getD_eq_getElem?_getD, List.getElem?_take_of_lt (by omega)]
              have H0 : Hid (val ((xs.take (k + 1)).drop (k + 1)) = 0) := by
                show val _ = 0
                rw [List.drop_eq_nil_of_le (by rw [List.length_take_of_le (by omega)]; omega)]; rfl
              clear e1 e2 e3 Hok Hform Hov
              have hcase : (9 ≤ k ∧ x ≤ 1 ∧ (x == 0) = false ∧ w.cell? ⟨b, off + 9, none⟩ = some (.int .u8 x)) ∨ (k < 9 ∧ 0 < k ∧ (x == 0) = false) ∨ k < 1 := by
                by_cases h9 : 9 ≤ k
                · exact .inl ⟨h9, by omega, by simp; omega, H9.out h9⟩
                · by_cases h0 : 0 < k
                  · exact .inr (.inl ⟨by omega, h0, by simp; omega⟩)
                  · exact .inr (.inr (by omega))
              clear hz hov H9
              rcases hcase with ⟨h9, h1, hz', hc9⟩ | ⟨h9, h0, hz'⟩ | h0
              all_goals
                go_wp2_with fail
                go_loop [6, 7] (fun n i => ∃ j : Nat, j ≤ k + 1 ∧ i = .int .i64 ((j : Int) - 1) ∧ n = .int .u64 (val ((xs.take (k + 1)).drop j))) (fun _ i => (intOf i + 1).toNat)
                case atStart => exact ⟨k + 1, by omega, by go_num, by rw [H0.out]⟩
                case round =>
                  obtain ⟨j, hj, rfl, rfl⟩ := hrel
                  by_cases hj0 : 0 < j
                  · obtain ⟨t, rfl⟩ : ∃ t, j = t + 1 := ⟨j - 1, by omega⟩
                    have hct := HC.out t (by omega)
                    have hxt := HX.out t (by omega)
                    obtain ⟨v1, v2, v3⟩ := HL.out t (by omega)
                    have HV1 : Hid (val ((xs.take (k + 1)).drop t) = xs.getD t 0 % 128 + 128 * val ((xs.take (k + 1)).drop (t + 1))) := v1
                    rw [v1] at v2
                    clear v1
                    generalize xs.getD t 0 = y at *
                    generalize val ((xs.take (k + 1)).drop (t + 1)) = V at *
                    go_wp2_with fail
                    go_round
                    case rel => exact ⟨t, by omega, by go_num, by rw [HV1.out]; go_num⟩
                    case measure => simp [intOf]
                  · have hj1 : j = 0 := by omega
                    subst hj1
                    go_wp2_with fail
                    go_ret3
                    exact ⟨by rw [HV.out]; exact tup3 (by simp) (by simp) rfl, rfl⟩
        · have HV : Hid (get xs = (0, 0, 4)) := get_short xs (by omega) (fun i hi => HB.out i (by omega))
          have hl9 : xs.length ≤ 9 := by omega
          have he : ((k : Int) == (xs.length : Int)) = true := by simp; omega
          clear hgo h10
          by_cases h9 : 9 ≤ k
          all_goals
            go_wp2_with fail
            go_ret3
            exact ⟨by rw [HV.out]; rfl, rfl⟩

theorem unpacked_empty (a : Option Addr) (cap : Nat) (w : World) :
    Calls Try.prog 79 #[.slice a 0 cap] w fun e w' =>
      e = .returned (.tuple #[.int .u64 0, .int .i64 0, .int .i64 4]) ∧ w' = w := by
  go_enter Try.func79, Try.ntmps79
  go_wp2_with fail
  refine wp_loop_rounds 1 ?_
  rw [rounds_succ]
  go_wp2
  go_ret3
  exact ⟨rfl, rfl⟩

theorem unpacked_any (v : Value) (xs : List Int) (w : World) (h : Reads .u8 w v xs) (hx : ∀ x ∈ xs, 0 ≤ x ∧ x ≤ 255) :
    Calls Try.prog 79 #[v] w fun e w' =>
      e = .returned (.tuple #[.int .u64 (get xs).1, .int .i64 (get xs).2.1, .int .i64 (get xs).2.2]) ∧ w' = w := by
  by_cases hn : 0 < xs.length
  · obtain ⟨b, off, cap, rfl, hc, hm, _, hcell⟩ := h.plain hn
    exact unpacked_row b off cap xs w hn (Nat.le_trans hc hm) hx hcell
  · have : xs = [] := List.eq_nil_of_length_eq_zero (by omega)
    subst this
    obtain ⟨a, cap, rfl, _, _⟩ := h.empty
    exact unpacked_empty a cap w
end Go.Proofs.Ytihghhmhgakkaaa

namespace Go.Proofs.Ytihghhmhgakkaaa
set_option maxRecDepth 100000
open Go.ChangeShapes Go.WideShapes Go.ChangeAt Go.RowKit

/-- s[u:]. -/
def cutV (a : Option Addr) (len cap u : Nat) : Value := .slice (if cap = u then a else a.map (·.add u)) (len - u) (cap - u)
theorem run_cutV (a : Option Addr) (len cap u : Nat) (hu : u ≤ len) (w : World) : (Instr.slice 50 (.slice a len cap) (some (.int .i64 (u : Int))) none none).run Try.prog w = .ok (cutV a len cap u) w := by
  have hsz : (sizeOf (Try.prog.elem 50)).run Try.prog w = .ok 1 w := by kernel_rfl
  rw [run_slice_l (P := Try.prog) (w := w) 50 a len cap (by rw [Try.underlying50]; kernel_rfl) .i64 u (by omega) (by omega), hsz]
  simp only [Result.andThen, sliced, Int.toNat_natCast, Nat.mul_one, cutV]
theorem reads_cutV {w : World} {a : Option Addr} {cap u : Nat} {xs : List Int} (h : Reads .u8 w (.slice a xs.length cap) xs) (hu : u ≤ xs.length) : Reads .u8 w (cutV a xs.length cap u) (xs.drop u) := by
  have hl : (xs.drop u).length = xs.length - u := List.length_drop
  have hc : xs.length ≤ cap ∧ cap ≤ maxLen ∧ (a = none → cap = 0) := by
    obtain ⟨a', cap', e, h1, h2, h3, _⟩ := h
    injection e with e1 _ e3
    subst e1 e3
    exact ⟨h1, h2, h3⟩
  by_cases hn : u < xs.length
  · obtain ⟨b, off, cap', e, h1, h2, h3, h4⟩ := h.plain (by omega)
    injection e with e1 _ e3
    subst e1 e3
    have := reads_drop (u := u) h1 h2 h4
    unfold cutV
    rw [if_neg (by omega), Option.map_some, addr_plus]
    exact this
  · have e1 : xs.drop u = [] := List.drop_eq_nil_of_le (by omega)
    rw [e1]
    refine ⟨_, cap - u, by rw [show ([] : List Int).length = xs.length - u by simp; omega]; rfl, by simp, by omega, fun hx => ?_, fun x _ i hi => by simp at hi⟩
    cases a with
    | none => have := hc.2.2 rfl; omega
    | some x =>
      split at hx
      · cases hx
      · cases hx

/-- What small tells of a place: a number and the place behind it, or neither. -/
def SmlP (m : Int) (xs : List Int) (at_ : Nat) (e : Ending) : Prop :=
  (numF m (xs.drop at_) = none ∧ e = .returned (.tuple #[.int .i64 0, .int .i64 (-1)])) ∨
  ∃ (x : Int) (at2 : Nat), numF m (xs.drop at_) = some (x, xs.drop at2) ∧ at_ < at2 ∧ at2 ≤ xs.length ∧ e = .returned (.tuple #[.int .i64 x, .int .i64 at2])

set_option maxHeartbeats 400000 in
theorem small_neg (v : Value) (m : Int) (w : World) : Calls Try.prog 62 #[v, .int .i64 (-1), .int .i64 m] w fun e w' => e = .returned (.tuple #[.int .i64 0, .int .i64 (-1)]) ∧ w' = w := by
  go_enter Try.func62, Try.ntmps62
  go_wp2_with fail
  go_ret2
  exact ⟨rfl, rfl⟩

set_option maxHeartbeats 800000 in
set_option maxRecDepth 100000 in
theorem small_any (v : Value) (xs : List Int) (i : Nat) (m : Int) (w : World) (h : Reads .u8 w v xs) (hx : ∀ x ∈ xs, 0 ≤ x ∧ x ≤ 255) (hi : i ≤ xs.length) (hL : xs.length ≤ 140737488355328) (hm : 0 ≤ m ∧ m ≤ 1125899906842624) :
    Calls Try.prog 62 #[v, .int .i64 i, .int .i64 m] w fun e w' => SmlP m xs i e ∧ w' = w := by
  obtain ⟨a, cap, rfl, hc, hmx, _⟩ := id h
  have hcut := run_cutV a xs.length cap i hi
  have HR : Hid (Reads .u8 w (cutV a xs.length cap i) (xs.drop i)) := reads_cutV h hi
  have hx2 : ∀ x ∈ xs.drop i, 0 ≤ x ∧ x ≤ 255 := fun x h => hx x (List.mem_of_mem_drop h)
  have HG : Hid (∀ X, Reads .u8 X (cutV a xs.length cap i) (xs.drop i) → Calls Try.prog 79 #[cutV a xs.length cap i] X fun e w' => e = .returned (.tuple #[.int .u64 (get (xs.drop i)).1, .int .i64 (get (xs.drop i)).2.1, .int .i64 (get (xs.drop i)).2.2]) ∧ w' = X) := fun X hX => unpacked_any _ _ X hX hx2
  rcases get_inv hx2 with ⟨e, he, hne⟩ | ⟨n, t, he, hl, h0, h1⟩
  · have HN : Hid (numF m (xs.drop i) = none) := numF_err he hne
    rw [he] at HG
    have hne' : (e != 0) = true := by simpa using hne
    clear he hx hx2 h hne
    go_enter Try.func62, Try.ntmps62
    go_wp2_with fail
    refine (HG.out _ HR.out).mono ?_
    rintro e w1 ⟨rfl, rfl⟩
    go_wp2_with fail
    go_ret2
    exact ⟨.inl ⟨HN.out, rfl⟩, rfl⟩
  · by_cases hn : n ≤ m
    · have hp := put_len n
      have hpl : (put n).length ≤ xs.length - i := by rw [← List.length_drop, hl]; simp
      have HN : Hid (numF m (xs.drop i) = some (n, xs.drop (i + (put n).length))) := by show _ = _; rw [numF_yes he hn, List.drop_drop]
      have hw : IntKind.u64.wrap m = m := by rw [IntKind.wrap_u64]; omega
      rw [he] at HG
      clear he hl hx hx2 h
      generalize (put n).length = u at *
      go_enter Try.func62, Try.ntmps62
      go_wp2_with fail
      refine (HG.out _ HR.out).mono ?_
      rintro e w1 ⟨rfl, rfl⟩
      go_wp2_with fail
      go_ret2
      exact ⟨.inr ⟨n, i + u, HN.out, by omega, by omega, by go_num⟩, rfl⟩
    · have HN : Hid (numF m (xs.drop i) = none) := numF_big he (by omega)
      have hw : IntKind.u64.wrap m = m := by rw [IntKind.wrap_u64]; omega
      have hn2 : m < n := by omega
      rw [he] at HG
      clear he hl hx hx2 h
      generalize (put n).length = u at *
      go_enter Try.func62, Try.ntmps62
      go_wp2_with fail
      refine (HG.out _ HR.out).mono ?_
      rintro e w1 ⟨rfl, rfl⟩
      go_wp2_with fail
      go_ret2
      exact ⟨.inl ⟨HN.out, rfl⟩, rfl⟩
end Go.Proofs.Ytihghhmhgakkaaa

namespace Go.Proofs.Ytihghhmhgakkaaa
set_option maxRecDepth 100000
open Go.ChangeShapes Go.WideShapes Go.ChangeAt Go.RowKit

def lenOf : Value → Nat
  | .slice _ n _ => n
  | _ => 0
theorem own_slice {w : World} {base : Nat} {e : TypeId} {n : Nat} {v : Value} {xs : List Value} (h : w.ownsRow base e 1 v n xs) : ∃ a c, v = .slice a n c := by
  rcases h.2 with ⟨hv, h0⟩ | ⟨g, cap, cur, hv, _⟩
  · exact ⟨none, 0, by rw [hv, h0]⟩
  · exact ⟨_, _, hv⟩

set_option maxHeartbeats 1600000 in
set_option maxRecDepth 100000 in
theorem ungapped_any (v : Value) (xs : List Int) (w : World) (h : Reads .u8 w v xs) (hx : ∀ x ∈ xs, 0 ≤ x ∧ x ≤ 255) :
    Calls Try.prog 61 #[v] w fun e w' =>
      ∃ v', e = .returned (.tuple #[v', .int .i64 (ungap xs).2.1, .int .i64 (ungap xs).2.2]) ∧ w'.ownsRow w.heap.size 3 1 v' (ungap xs).1.length ((ungap xs).1.map (Value.int .i64)) ∧ Below w.heap.size w w' := by
  obtain ⟨i0, hi, hz0, hz1, hz2⟩ := info_parts Try.info3'
  have HR : Hid (Reads .u8 w v xs) := h
  have HX : Hid (∀ x ∈ xs, 0 ≤ x ∧ x ≤ 255) := hx
  clear h hx
  go_enter Try.func61, Try.ntmps61
  go_wp2_with fail
  refine (unpacked_any _ xs _ HR.out HX.out).mono ?_
  rintro e w' ⟨rfl, rfl⟩
  rcases get_inv HX.out with ⟨e, he, hne⟩ | ⟨n, r, he, hys, hn0, hn1⟩
  · have HU : Hid (ungap xs = ([], 0, e)) := by show ungap xs = _; unfold ungap; rw [he]; simp [hne]
    rw [he]
    have hne' : (e != 0) = true := by simp [hne]
    clear he hne
    go_wp2_with fail
    go_ret3
    exact ⟨_, by rw [HU.out]; rfl, by rw [HU.out]; exact World.ownsRow_nil _ _ _ _, Below.refl _ _⟩
  · by_cases hbig : 2000 < n
    · have HU : Hid (ungap xs = ([], 0, 1)) := by show ungap xs = _; unfold ungap; rw [he]; simp [hbig]
      rw [he]
      clear he hys
      go_wp2_with fail
      go_ret3
      exact ⟨_, by rw [HU.out]; rfl, by rw [HU.out]; exact World.ownsRow_nil _ _ _ _, Below.refl _ _⟩
    · obtain ⟨m, rfl⟩ := Int.eq_ofNat_of_zero_le hn0
      have lp := put_len (m : Int)
      have hxl : (put (m : Int)).length ≤ xs.length := by rw [hys]; simp
      have HU : Hid (ungap xs = ungR xs m (put (m : Int)).length 0 []) := by show ungap xs = _; unfold ungap; rw [he]; simp [hbig]
      rw [he]
      obtain ⟨b, off, cap, rfl, hc, hm, hb, hcell⟩ := HR.out.plain (by omega)
      unfold maxLen at hm
      have HC : Hid (∀ i, i < xs.length → w'.cell? ⟨b, off + i, none⟩ = some (.int .u8 (xs.getD i 0))) := hcell
      clear he hys hcell HR
      generalize (put (m : Int)).length = k0 at *
      go_wp2_with fail
      go_loopw [6, 8, 9] (fun su sl sn wr => ∃ (j u : Nat) (n : Int) (out : List Int) (la : Option Addr) (lc : Nat), j ≤ m ∧ su = .int .i64 u ∧ u ≤ xs.length ∧ sn = .int .i64 n ∧ 0 ≤ n ∧ n ≤ 1152921504606846976 ∧ out.length = j ∧ sl = .slice la j lc ∧
        wr.ownsRow w'.heap.size 3 1 sl out.length (out.map (Value.int .i64)) ∧ ungap xs = ungR xs (m - j) u n out ∧ Below w'.heap.size w' wr) (fun _ l _ _ => m - lenOf l)
      case atStart => exact ⟨0, k0, 0, [], none, 0, by omega, rfl, by omega, rfl, by omega, by omega, rfl, rfl, World.ownsRow_nil _ _ _ _, HU.out, Below.refl _ _⟩
      case round =>
        obtain ⟨j, u, n, out, la, lc, hj, rfl, hu, rfl, hn0', hn1', hol, rfl, hown, hug, hbel⟩ := hrel
        have HG : Hid (ungap xs = ungR xs (m - j) u n out) := hug
        have HW : Hid (wr.ownsRow w'.heap.size 3 1 _ out.length (out.map (Value.int .i64))) := hown
        have hsz := hbel.size
        have HOL : Hid (out.length = j) := hol
        clear hug hown hol
        by_cases hlt : j < m
        · obtain ⟨t, ht⟩ : ∃ t, m - j = t + 1 := ⟨m - j - 1, by omega⟩
          have HT : Hid (m - (j + 1) = t) := by show m - (j + 1) = t; omega
          rw [ht] at HG
          clear ht
          by_cases hul : u < xs.length
          · have hcu : u < cap := by omega
            have HD : Hid (Reads .u8 wr (.slice (some ⟨b, off + u, none⟩) (xs.length - u) (cap - u)) (xs.drop u)) :=
              reads_drop hc (by unfold maxLen; omega) (fun i hi => (hbel.cell (by exact hb)).trans (HC.out i hi))
            have HXD : Hid (∀ x ∈ xs.drop u, 0 ≤ x ∧ x ≤ 255) := fun x hx => HX.out x (List.mem_of_mem_drop hx)
            have hdl : Hid ((xs.drop u).length = xs.length - u) := List.length_drop
            go_wp2_with fail
            refine (unpacked_any _ (xs.drop u) _ HD.out HXD.out).mono ?_
            rintro e w3 ⟨rfl, rfl⟩
            rcases get_inv HXD.out with ⟨e, he, hne⟩ | ⟨g, r, he, hys, hg0, hg1⟩
            · have HU : Hid (ungap xs = ([], 0, e)) := by show ungap xs = _; rw [HG.out]; exact ungR_err he hne
              rw [he]
              have hne' : (e != 0) = true := by simp [hne]
              clear he hne
              go_wp2_with fail
              go_ret3
              exact ⟨_, by rw [HU.out]; rfl, by rw [HU.out]; exact World.ownsRow_nil _ _ _ _, hbel⟩
            · have hkl : (put g).length ≤ xs.length - u := by rw [← hdl.out, hys]; simp
              have lpg := put_len g
              by_cases hbg : 1152921504606846976 - n < g
              · have HU : Hid (ungap xs = ([], 0, 2)) := by show ungap xs = _; rw [HG.out]; exact ungR_over he hbg
                rw [he]
                clear he hys
                go_wp2_with fail
                go_ret3
                exact ⟨_, by rw [HU.out]; rfl, by rw [HU.out]; exact World.ownsRow_nil _ _ _ _, hbel⟩
              · have HU : Hid (ungap xs = ungR xs t (u + (put g).length) (n + g) (out ++ [n + g])) := by show ungap xs = _; rw [HG.out]; exact ungR_step he hbg
                rw [he]
                have hown := HW.out
                have hol : out.length ≤ 2000 := by have := HOL.out; omega
                clear he hys HD HXD hdl HW
                generalize (put g).length = k at *
                go_wp2_with (at_builtin; refine wpList_append_own _ rfl _ _ 66 rfl w'.heap.size 3 i0 (.int .i64 0) 1 8 Try.underlying66 hi hz0 hz1 hz2 rfl (by decide) _ _ _ rfl (hown.alloc _) ⟨w3.heap.size, 0, none⟩ 1 1 [.int .i64 (n + g)] rfl rfl (cell_one_new _ _ _) ?c2 ?c3 ?c4 ?c5 ?_)
                case c2 => first | rfl | (intro u hu; simp at hu; subst hu; rfl)
                case c3 => unfold maxLen; omega
                case c4 => omega
                case c5 => first | omega | (simp; omega)
                intro v6 w6 hown6 hgrow _
                have hw6 := own_push64 hown6
                obtain ⟨la6, lc6, rfl⟩ := own_slice hw6
                have hl6 : (out ++ [n + g]).length = j + 1 := by rw [List.length_append, HOL.out]; rfl
                rw [hl6] at hw6
                have HL6 : Hid ((out ++ [n + g]).length = j + 1) := hl6
                clear hl6
                have HW6 : Hid (w6.ownsRow w'.heap.size 3 1 _ (j + 1) ((out ++ [n + g]).map (Value.int .i64))) := hw6
                have hbel6 : Below w'.heap.size w' w6 := (hbel.alloc (by omega) _).grown hgrow (by simp; omega) (fun k hk => (hown.lt k hk).1)
                clear hown6 hgrow hw6 hown hbel hol
                go_wp2_with fail
                go_roundw
                case rel => exact ⟨j + 1, u + k, n + g, out ++ [n + g], la6, lc6, by omega, by go_num, by omega, by go_num, by omega, by omega, HL6.out, by rw [HL6.out], by rw [HL6.out]; exact HW6.out, by rw [HT.out]; exact HU.out, hbel6⟩
                case measure => have := HOL.out; simp [lenOf]; omega
          · have hul2 : u = xs.length := by omega
            have HU : Hid (ungap xs = ([], 0, 4)) := by
              show ungap xs = _
              rw [HG.out]
              exact ungR_err (by rw [hul2, List.drop_eq_nil_of_le (Nat.le_refl _)]; rfl) (by decide)
            have hz : xs.length - u = 0 := by omega
            clear hul2
            go_wp2_with fail
            all_goals
              refine (unpacked_empty _ _ _).mono ?_
              rintro e w3 ⟨rfl, rfl⟩
              go_wp2_with fail
              go_ret3
              exact ⟨_, by rw [HU.out]; rfl, by rw [HU.out]; exact World.ownsRow_nil _ _ _ _, hbel⟩
        · have HF : Hid (ungap xs = (out, u, 0)) := by
            show ungap xs = _
            rw [HG.out, show m - j = 0 from by omega]; rfl
          go_wp2_with fail
          go_ret3
          exact ⟨_, by rw [HF.out]; rfl, by rw [HF.out]; exact HW.out, hbel⟩
end Go.Proofs.Ytihghhmhgakkaaa

namespace Go.Proofs.Ytihghhmhgakkaaa
set_option maxRecDepth 100000
open Go.ChangeShapes Go.WideShapes Go.ChangeAt Go.RowKit

set_option maxHeartbeats 400000 in
theorem inOrderQ_any (v : Value) (l : List Ml) (w : World) (h : MlR w v l) (hl : l.length ≤ 5000) : Calls Try.prog 57 #[v] w fun e w' => e = .returned (.bool (srtMb l)) ∧ Below w.heap.size w w' := by
  have hcon := least_any v l w h
  obtain ⟨a, cap, rfl⟩ := h.shape
  have hel : errL l = if srtMb l then 0 else 3 := if_neg (by omega)
  rw [hel] at hcon
  generalize lowM l = lm at hcon
  cases hs : srtMb l
  · rw [hs, if_neg (by decide)] at hcon
    clear h hs hel
    go_enter Try.func57, Try.ntmps57
    go_wp2_with fail
    refine hcon.mono ?_
    rintro e w1 ⟨v1, rfl, _, hb⟩
    have HB : Hid (Below w.heap.size w w1) := hb
    clear hb
    go_wp2_with fail
    go_ret
    exact ⟨rfl, HB.out⟩
  · rw [hs, if_pos rfl] at hcon
    clear h hs hel
    go_enter Try.func57, Try.ntmps57
    go_wp2_with fail
    refine hcon.mono ?_
    rintro e w1 ⟨v1, rfl, _, hb⟩
    have HB : Hid (Below w.heap.size w w1) := hb
    clear hb
    go_wp2_with fail
    go_ret
    exact ⟨rfl, HB.out⟩

theorem madeM_zero (m : Nat) : (madeCells (Value.agg #[.int .i64 0, .int .i64 0]).cells (m * 2)).toList = (List.replicate m ((0, 0) : Ml)).flatMap encM := by
  refine List.ext_getElem? fun v => ?_
  rcases Nat.lt_or_ge v (m * 2) with hv | hv
  · have h2 : ((List.replicate m ((0, 0) : Ml)).flatMap encM)[v]? = some (.int .i64 0) := by
      have hd : v = v / 2 * 2 + v % 2 := by omega
      rw [hd]
      refine flat_at encM_len (x := (0, 0)) (by rw [List.getElem?_replicate, if_pos (by omega)]) ?_
      rcases (by omega : v % 2 = 0 ∨ v % 2 = 1) with h | h <;> rw [h] <;> rfl
    rw [h2]
    simp [madeCells, Value.cells, hv]
    rcases (by omega : v % 2 = 0 ∨ v % 2 = 1) with h | h <;> simp [h]
  · rw [List.getElem?_eq_none (by simpa [madeCells] using hv), List.getElem?_eq_none (by rw [flat_len encM_len]; simpa using hv)]
/-- make([]api.Mail, m). -/
theorem make_mails (w : World) (m : Nat) (hm : m ≤ 1000000) :
    ∃ w', (Instr.makeSlice 22 (.int .i64 (m : Int)) (.int .i64 (m : Int))).run Try.prog w = .ok (.slice (some ⟨w.heap.size, 0, none⟩) m m) w' ∧
      w'.ownsRow w.heap.size 27 2 (.slice (some ⟨w.heap.size, 0, none⟩) m m) m ((List.replicate m ((0, 0) : Ml)).flatMap encM) ∧ Below w.heap.size w w' := by
  obtain ⟨i0, hi, hz0, hz1, hz2⟩ := info_parts Try.infoM
  obtain ⟨w', h1, h2, h3⟩ := run_makeSlice_full (P := Try.prog) w w.heap.size 22 27 i0 _ 2 Try.underlying22 hi hz0 hz1 .i64 .i64 m (by omega) (by rw [hz2]; omega) (by unfold maxLen; omega) (Nat.le_refl _)
  rw [madeM_zero] at h2
  exact ⟨w', h1, h2, (Below.refl _ _).grown h3 (Nat.le_refl _) (fun k hk => by cases hk)⟩

/-- The error of a run. -/
def errR {α : Type} : Option α → Int
  | none => 3
  | some _ => 0
/-- So far: the mail l is read, the bytes r are left. -/
def RunTo (ts r0 : List Int) (k : Nat) (l : List Ml) (r : List Int) : Prop := l.length = k ∧ (∀ y ∈ r, 0 ≤ y ∧ y ≤ 255) ∧ valsC ts r0 = (valsC (ts.drop k) r).map fun p => (l ++ p.1, p.2)
theorem RunTo.zero {ts r0 : List Int} (h : ∀ y ∈ r0, 0 ≤ y ∧ y ≤ 255) : RunTo ts r0 0 [] r0 := ⟨rfl, h, by
  rw [List.drop_zero]
  cases valsC ts r0 with
  | none => rfl
  | some p => rfl⟩
theorem RunTo.bad {ts r0 r : List Int} {k : Nat} {l : List Ml} {t e : Int} (h : RunTo ts r0 k l r) (ht : ts[k]? = some t) (hg : get r = (0, 0, e)) (he : e ≠ 0) : valsC ts r0 = none := by
  obtain ⟨hk, rfl⟩ := List.getElem?_eq_some_iff.1 ht
  rw [h.2.2, List.drop_eq_getElem_cons hk, valsC_no hg he]
  rfl
theorem RunTo.step {ts r0 r : List Int} {k u : Nat} {l : List Ml} {t n : Int} (h : RunTo ts r0 k l r) (ht : ts[k]? = some t) (hg : get r = (n, u, 0)) : RunTo ts r0 (k + 1) (l ++ [(t, IntKind.i64.wrap n)]) (r.drop u) := by
  obtain ⟨hk, rfl⟩ := List.getElem?_eq_some_iff.1 ht
  refine ⟨by simp [h.1], fun y hy => h.2.1 y (List.mem_of_mem_drop hy), ?_⟩
  rw [h.2.2, List.drop_eq_getElem_cons hk, valsC_yes hg]
  cases valsC (ts.drop (k + 1)) (r.drop u) with
  | none => rfl
  | some p => simp
theorem RunTo.done {ts r0 r : List Int} {k : Nat} {l : List Ml} (h : RunTo ts r0 k l r) (hk : ts.length ≤ k) : valsC ts r0 = some (l, r) := by
  rw [h.2.2, List.drop_eq_nil_of_le hk]
  simp [valsC]
theorem runF_err {b : List Int} {e : Int} (h : ungap b = ([], 0, e)) : runF b = none := by
  unfold runF
  rw [h]
  exact if_neg fun h => by have := h.2.1; simp at this
theorem runF_len {b ts : List Int} {u : Nat} (h : ungap b = (ts, u, 0)) (hl : ¬ (1 ≤ ts.length ∧ ts.length ≤ 1000)) : runF b = none := by
  unfold runF
  rw [h]
  exact if_neg fun h => hl h.2
theorem runF_ok {b ts : List Int} {u : Nat} (h : ungap b = (ts, u, 0)) (hl : 1 ≤ ts.length ∧ ts.length ≤ 1000) : runF b = endC (valsC ts (b.drop u)) := by
  unfold runF
  rw [h]
  exact if_pos ⟨rfl, hl⟩

set_option maxHeartbeats 2000000 in
set_option maxRecDepth 100000 in
theorem unpack_any (v : Value) (b : List Int) (w : World) (h : Reads .u8 w v b) (hb : ∀ x ∈ b, 0 ≤ x ∧ x ≤ 255) : Calls Try.prog 39 #[v] w (RefP w (errR (runF b)) ((runF b).getD [])) := by
  have HU : Hid (∀ X, Reads .u8 X v b → Calls Try.prog 55 #[v] X fun e w' => ∃ v', e = .returned (.tuple #[v', .int .i64 (ungap b).2.1, .int .i64 (ungap b).2.2]) ∧ w'.ownsRow X.heap.size 3 1 v' (ungap b).1.length ((ungap b).1.map (Value.int .i64)) ∧ Below X.heap.size X w') := fun X hX => ungap_any v b X hX hb
  have HNo : Hid (runF b = none → ∀ w', Below w.heap.size w w' → RefP w (errR (runF b)) ((runF b).getD []) (.returned (.tuple #[.slice none 0 0, .int .i64 3])) w') := fun e w' hw => by rw [e]; exact RefP.no (by decide) hw
  have HYes : Hid (∀ l, runF b = some l → ∀ v w', w'.ownsRow w.heap.size 27 2 v l.length (l.flatMap encM) → Below w.heap.size w w' → RefP w (errR (runF b)) ((runF b).getD []) (.returned (.tuple #[v, .int .i64 0])) w') := fun l e v w' ho hw => by rw [e]; exact RefP.yes ho hw
  have HR : Hid (Reads .u8 w v b) := h
  obtain ⟨a, cap, rfl, _⟩ := id h
  rcases ungap_inv hb with ⟨e, he, hne⟩ | ⟨ts, u, he, _, hu, _⟩
  · have HX : Hid _ := HNo.out (runF_err he)
    generalize RefP w (errR (runF b)) ((runF b).getD []) = P at *
    rw [he] at HU
    have hne' : (e != 0) = true := by simpa using hne
    clear he hne HNo HYes h hb
    go_enter Try.func39, Try.ntmps39
    go_wp2_with fail
    refine (HU.out _ HR.out).mono ?_
    rintro e1 w1 ⟨v1, rfl, _, hb1⟩
    have HE : Hid (P (.returned (.tuple #[.slice none 0 0, .int .i64 3])) w1) := HX.out _ hb1
    clear hb1 HX
    go_wp2_with fail
    exact HE.out
  · by_cases hlen : 1 ≤ ts.length ∧ ts.length ≤ 1000
    · have HV : Hid (runF b = endC (valsC ts (b.drop u))) := runF_ok he hlen
      have HNo2 : Hid (∀ w', endC (valsC ts (b.drop u)) = none → Below w.heap.size w w' → RefP w (errR (runF b)) ((runF b).getD []) (.returned (.tuple #[.slice none 0 0, .int .i64 3])) w') := fun w' hn hw => HNo.out (HV.out.trans hn) w' hw
      have HYes2 : Hid (∀ l v w', endC (valsC ts (b.drop u)) = some l → w'.ownsRow w.heap.size 27 2 v l.length (l.flatMap encM) → Below w.heap.size w w' → RefP w (errR (runF b)) ((runF b).getD []) (.returned (.tuple #[v, .int .i64 0])) w') := fun l v w' hn ho hw => HYes.out l (HV.out.trans hn) v w' ho hw
      have hcut := run_cutV a b.length cap u hu
      have HR0 : Hid (Reads .u8 w (cutV a b.length cap u) (b.drop u)) := reads_cutV h hu
      have HZ : Hid (∀ y ∈ b.drop u, 0 ≤ y ∧ y ≤ 255) := fun y hy => hb y (List.mem_of_mem_drop hy)
      obtain ⟨hl1, hl2⟩ := hlen
      generalize RefP w (errR (runF b)) ((runF b).getD []) = P at *
      rw [he] at HU
      clear he HNo HYes h hb HV hu
      generalize b.drop u = r0 at *
      generalize cutV a b.length cap u = v0 at *
      have i1 : ¬ (ts.length : Int) < 1 := by omega
      have i2 : ¬ (1000 : Int) < (ts.length : Int) := by omega
      go_enter Try.func39, Try.ntmps39
      go_wp2_with fail
      refine (HU.out _ HR.out).mono ?_
      rintro e1 w1 ⟨v1, rfl, ho1, hb1⟩
      have OT : Hid (Reads .i64 w1 v1 ts) := reads_own ho1
      obtain ⟨a1, c1, rfl⟩ := own_slice ho1
      have hs1 := hb1.size
      have HB1 : Hid (Below w.heap.size w w1) := hb1
      have HR1 : Hid (Reads .u8 w1 v0 r0) := HR0.out.below hb1 (Nat.le_refl _)
      obtain ⟨w2, hmk, hown, hb2⟩ := make_mails w1 ts.length (by omega)
      have O2 : Hid (w2.ownsRow w1.heap.size 27 2 (.slice (some ⟨w1.heap.size, 0, none⟩) ts.length ts.length) ts.length ((List.replicate ts.length ((0, 0) : Ml)).flatMap encM)) := hown
      have HB2 : Hid (Below w1.heap.size w1 w2) := hb2
      clear hb1 ho1 HR HR0 HU hown hb2
      go_wp2_with fail
      go_loopw [7, 40] (fun x i wr => ∃ (k : Nat) (l : List Ml) (r : List Int), k ≤ ts.length ∧ i = .int .i64 k ∧ RunTo ts r0 k l r ∧ Reads .u8 w1 x r ∧ wr.ownsRow w1.heap.size 27 2 (.slice (some ⟨w1.heap.size, 0, none⟩) ts.length ts.length) ts.length ((l ++ List.replicate (ts.length - k) ((0, 0) : Ml)).flatMap encM) ∧ Below w1.heap.size w1 wr) (fun _ i _ => ts.length - (intOf i).toNat)
      case atStart => exact ⟨0, [], r0, by omega, rfl, RunTo.zero HZ.out, HR1.out, by simpa using O2.out, HB2.out⟩
      case round =>
        obtain ⟨k, l, r, hk, rfl, hto, hrx, hown, hbel⟩ := hrel
        have TO : Hid (RunTo ts r0 k l r) := hto
        have RX : Hid (Reads .u8 wr u7 r) := hrx.below hbel (Nat.le_refl _)
        have RX1 : Hid (Reads .u8 w1 u7 r) := hrx
        have OW : Hid (wr.ownsRow w1.heap.size 27 2 (.slice (some ⟨w1.heap.size, 0, none⟩) ts.length ts.length) ts.length ((l ++ List.replicate (ts.length - k) ((0, 0) : Ml)).flatMap encM)) := hown
        have HB : Hid (Below w1.heap.size w1 wr) := hbel
        have hsr := hbel.size
        have hll := hto.1
        clear hto hrx hown hbel O2 HB2 hmk HR1
        obtain ⟨xa, xc, rfl, _⟩ := id RX.out
        by_cases hlt : k < ts.length
        · obtain ⟨tb, tq, tc, e1, _, _, tlt, hv⟩ := (OT.out.below HB.out (Nat.le_refl _)).plain (by omega)
          injection e1 with e1 e2 e3
          subst e1 e3
          clear e2
          have hck := hv k hlt
          have HT : Hid (ts[k]? = some (ts.getD k 0)) := by show _ = _; rw [List.getD_eq_getElem?_getD, List.getElem?_eq_getElem hlt]; rfl
          generalize ts.getD k 0 = t at *
          have p0 : (0 : Int) ≤ (k : Int) := by omega
          have p1 : (k : Int) < (ts.length : Int) := by omega
          have hfz := frozenK OW.out
          have HG : Hid (∀ X, Reads .u8 X (.slice xa r.length xc) r → Calls Try.prog 56 #[.slice xa r.length xc] X fun e w' => e = .returned (.tuple #[.int .u64 (get r).1, .int .i64 (get r).2.1, .int .i64 (get r).2.2]) ∧ w' = X) := fun X hX => get_any _ _ X hX TO.out.2.1
          clear hv
          rcases get_inv TO.out.2.1 with ⟨e, he, hne⟩ | ⟨n, rr, he, hl, h0, h1⟩
          · have HE : Hid (P (.returned (.tuple #[.slice none 0 0, .int .i64 3])) wr) := HNo2.out wr (by rw [TO.out.bad HT.out he hne]; rfl) (HB1.out.trans (HB.out.mono hs1))
            have hne' : (e != 0) = true := by simpa using hne
            rw [he] at HG
            clear he hne
            go_wp2_with fail
            refine (HG.out _ RX.out).mono ?_
            rintro e w' ⟨rfl, rfl⟩
            go_wp2_with fail
            exact HE.out
          · have hp := put_len n
            have hpl : (put n).length ≤ r.length := by rw [hl]; simp
            have TO2 : Hid (RunTo ts r0 (k + 1) (l ++ [(t, IntKind.i64.wrap n)]) (r.drop (put n).length)) := TO.out.step HT.out he
            have hcut := run_cutV xa r.length xc _ hpl
            have RX2 : Hid (Reads .u8 w1 (cutV xa r.length xc (put n).length) (r.drop (put n).length)) := reads_cutV RX1.out hpl
            have O2 : Hid ((putM wr w1.heap.size (k * 2) (t, IntKind.i64.wrap n)).ownsRow w1.heap.size 27 2 (.slice (some ⟨w1.heap.size, 0, none⟩) ts.length ts.length) ts.length (((l ++ [(t, IntKind.i64.wrap n)]) ++ List.replicate (ts.length - (k + 1)) ((0, 0) : Ml)).flatMap encM) ∧ Below w1.heap.size w1 (putM wr w1.heap.size (k * 2) (t, IntKind.i64.wrap n))) := by
              refine ⟨?_, below_putM HB.out (Nat.le_refl _) _⟩
              have hh := ownM_put OW.out (p := k) (by simp; omega) (t, IntKind.i64.wrap n)
              have e1 : (l ++ List.replicate (ts.length - k) ((0, 0) : Ml)).set k (t, IntKind.i64.wrap n) = (l ++ [(t, IntKind.i64.wrap n)]) ++ List.replicate (ts.length - (k + 1)) ((0, 0) : Ml) := by
                rw [show ts.length - k = (ts.length - (k + 1)) + 1 by omega, List.replicate_succ, ← hll, setM_mid, List.append_assoc]
                rfl
              rw [e1] at hh
              exact hh
            obtain ⟨d1, d2⟩ := ownM_at OW.out (i := k) (x := (0, 0)) (by rw [List.getElem?_append_right (by omega), hll, Nat.sub_self, List.getElem?_replicate, if_pos (by omega)])
            have d3 : (wr.setCell ⟨w1.heap.size, k * 2, none⟩ (.int .i64 t)).cell? ⟨w1.heap.size, k * 2 + 1, none⟩ = some (.int .i64 0) := (cellM_far (by omega)).trans d2
            unfold putM at O2
            simp only at O2
            rw [he] at HG
            clear he hl hll OW TO
            generalize (put n).length = pu at *
            generalize hz : IntKind.i64.wrap n = z at *
            go_wp2_with fail
            refine (HG.out _ RX.out).mono ?_
            rintro e w' ⟨rfl, rfl⟩
            generalize cutV xa r.length xc pu = v2 at *
            go_wp2_with fail
            go_roundw
            case rel => exact ⟨k + 1, _, _, by omega, by go_num, TO2.out, RX2.out, O2.out.1, O2.out.2⟩
            case measure => simp [intOf]; omega
        · have ek : k = ts.length := by omega
          have HD : Hid (valsC ts r0 = some (l, r)) := TO.out.done (by omega)
          have O2 : Hid (wr.ownsRow w.heap.size 27 2 (.slice (some ⟨w1.heap.size, 0, none⟩) ts.length ts.length) l.length (l.flatMap encM)) := by
            have h := own_lower OW.out hs1
            rw [ek, Nat.sub_self, List.replicate_zero, List.append_nil] at h
            show World.ownsRow _ _ _ _ _ _ _
            rw [show l.length = ts.length by omega]
            exact h
          have ML : Hid (MlR wr (.slice (some ⟨w1.heap.size, 0, none⟩) ts.length ts.length) l) := MlR.ownd O2.out
          have hl5 : l.length ≤ 5000 := by omega
          have HBW : Hid (Below w.heap.size w wr) := HB1.out.trans (HB.out.mono hs1)
          have hsw := HBW.out.size
          clear ek hll OW TO OT RX1 HB
          by_cases hr : r = []
          · subst hr
            have HA : Hid (∀ X, MlR X (.slice (some ⟨w1.heap.size, 0, none⟩) ts.length ts.length) l → Calls Try.prog 26 #[.slice (some ⟨w1.heap.size, 0, none⟩) ts.length ts.length] X fun e w' => e = .returned (.bool (!mayA l)) ∧ Below X.heap.size X w') := fun X hX => anyBarred_any _ l X hX
            cases hma : mayA l
            · have HN : Hid (∀ w', Below w.heap.size w w' → P (.returned (.tuple #[.slice none 0 0, .int .i64 3])) w') := fun w' hw => HNo2.out w' (by rw [HD.out]; exact endC_may hma) hw
              rw [hma] at HA
              clear hma HD
              go_wp2_with fail
              refine (HA.out _ ML.out).mono ?_
              rintro e w3 ⟨rfl, hb3⟩
              have HE : Hid (P (.returned (.tuple #[.slice none 0 0, .int .i64 3])) w3) := HN.out w3 (HBW.out.trans (hb3.mono hsw))
              clear hb3
              go_wp2_with fail
              exact HE.out
            · have HI : Hid (∀ X, MlR X (.slice (some ⟨w1.heap.size, 0, none⟩) ts.length ts.length) l → Calls Try.prog 57 #[.slice (some ⟨w1.heap.size, 0, none⟩) ts.length ts.length] X fun e w' => e = .returned (.bool (srtMb l)) ∧ Below X.heap.size X w') := fun X hX => inOrderQ_any _ l X hX hl5
              rw [hma] at HA
              cases hso : srtMb l
              · have HN : Hid (∀ w', Below w.heap.size w w' → P (.returned (.tuple #[.slice none 0 0, .int .i64 3])) w') := fun w' hw => HNo2.out w' (by rw [HD.out]; exact endC_srt hso) hw
                rw [hso] at HI
                clear hma hso HD
                go_wp2_with fail
                refine (HA.out _ ML.out).mono ?_
                rintro e w3 ⟨rfl, hb3⟩
                have B3 : Hid (Below w.heap.size w w3) := HBW.out.trans (hb3.mono hsw)
                have M3 : Hid (MlR w3 (.slice (some ⟨w1.heap.size, 0, none⟩) ts.length ts.length) l) := ML.out.below hb3 (Nat.le_refl _)
                clear hb3
                go_wp2_with fail
                refine (HI.out _ M3.out).mono ?_
                rintro e w4 ⟨rfl, hb4⟩
                have HE : Hid (P (.returned (.tuple #[.slice none 0 0, .int .i64 3])) w4) := HN.out w4 (B3.out.trans (hb4.mono B3.out.size))
                clear hb4
                go_wp2_with fail
                exact HE.out
              · have HN : Hid (∀ w', w'.ownsRow w.heap.size 27 2 (.slice (some ⟨w1.heap.size, 0, none⟩) ts.length ts.length) l.length (l.flatMap encM) → Below w.heap.size w w' → P (.returned (.tuple #[.slice (some ⟨w1.heap.size, 0, none⟩) ts.length ts.length, .int .i64 0])) w') := fun w' ho hw => HYes2.out l _ w' (by rw [HD.out]; exact endC_yes hma hso) ho hw
                rw [hso] at HI
                clear hma hso HD
                go_wp2_with fail
                refine (HA.out _ ML.out).mono ?_
                rintro e w3 ⟨rfl, hb3⟩
                have B3 : Hid (Below w.heap.size w w3) := HBW.out.trans (hb3.mono hsw)
                have M3 : Hid (MlR w3 (.slice (some ⟨w1.heap.size, 0, none⟩) ts.length ts.length) l) := ML.out.below hb3 (Nat.le_refl _)
                have O3 : Hid (w3.ownsRow w.heap.size 27 2 (.slice (some ⟨w1.heap.size, 0, none⟩) ts.length ts.length) l.length (l.flatMap encM)) := own_below O2.out hb3 (Nat.le_refl _)
                clear hb3
                go_wp2_with fail
                refine (HI.out _ M3.out).mono ?_
                rintro e w4 ⟨rfl, hb4⟩
                have HE : Hid (P (.returned (.tuple #[.slice (some ⟨w1.heap.size, 0, none⟩) ts.length ts.length, .int .i64 0])) w4) := HN.out w4 (own_below O3.out hb4 (Nat.le_refl _)) (B3.out.trans (hb4.mono B3.out.size))
                clear hb4
                go_wp2_with fail
                exact HE.out
          · have HE : Hid (P (.returned (.tuple #[.slice none 0 0, .int .i64 3])) wr) := HNo2.out wr (by rw [HD.out]; exact endC_more hr) HBW.out
            have hrl : (0 : Int) < (r.length : Int) := by
              cases r with
              | nil => exact absurd rfl hr
              | cons x r => simp
            clear hr HD RX
            generalize r.length = rl at *
            go_wp2_with fail
            exact HE.out
    · have HX : Hid _ := HNo.out (runF_len he hlen)
      generalize RefP w (errR (runF b)) ((runF b).getD []) = P at *
      rw [he] at HU
      clear he HNo HYes h hb
      go_enter Try.func39, Try.ntmps39
      go_wp2_with fail
      refine (HU.out _ HR.out).mono ?_
      rintro e1 w1 ⟨v1, rfl, ho1, hb1⟩
      obtain ⟨a1, c1, rfl⟩ := own_slice ho1
      have HE : Hid (P (.returned (.tuple #[.slice none 0 0, .int .i64 3])) w1) := HX.out _ hb1
      clear hb1 HX ho1
      by_cases h1 : (ts.length : Int) < 1
      · go_wp2_with fail
        exact HE.out
      · have h2 : (1000 : Int) < ts.length := by omega
        go_wp2_with fail
        exact HE.out
end Go.Proofs.Ytihghhmhgakkaaa

namespace Go.Proofs.Ytihghhmhgakkaaa
set_option maxRecDepth 100000
open Go.ChangeShapes Go.WideShapes Go.ChangeAt Go.RowKit

theorem boxQ_set {w : World} {q i : Nat} {cs : Array Value} {u : Value} {t : TypeId} (h : w.heap[q]? = some (.cells cs t (0, 0))) : (w.setCell ⟨q, i, none⟩ u).heap[q]? = some (.cells (cs.setIfInBounds i u) t (0, 0)) := by
  simp only [World.setCell, Array.getElem?_modify, if_true]
  rw [h]
  rfl
theorem boxQ_cells {w : World} {q : Nat} {cs : Array Value} {t : TypeId} (h : w.heap[q]? = some (.cells cs t (0, 0))) (i : Nat) : w.cell? ⟨q, i, none⟩ = cs[i]? := cell_of_row _ _ _ _ _ _ h
/-- The block q holds a queue. -/
def QX (w : World) (q : Nat) (a b c : Value) : Prop := w.heap[q]? = some (.cells #[a, b, c] 25 (0, 0))
theorem QX.cells {w : World} {q : Nat} {a b c : Value} (h : QX w q a b c) : w.cell? ⟨q, 0, none⟩ = some a ∧ w.cell? ⟨q, 1, none⟩ = some b ∧ w.cell? ⟨q, 2, none⟩ = some c := ⟨boxQ_cells h 0, boxQ_cells h 1, boxQ_cells h 2⟩
theorem QX.frozen {w : World} {q : Nat} {a b c : Value} (h : QX w q a b c) (i : Nat) : w.frozen? ⟨q, i, none⟩ = false := box_frozen h i
theorem QX.lt {w : World} {q : Nat} {a b c : Value} (h : QX w q a b c) : q < w.heap.size := (Array.getElem?_eq_some_iff.1 h).1
theorem QX.kept {S : Nat → Prop} {w w' : World} {q : Nat} {a b c : Value} (h : QX w q a b c) (hk : Kept S w w') (hs : ¬ S q) : QX w' q a b c := (hk.block q h.lt hs).trans h
theorem QX.below {w w' : World} {q B : Nat} {a b c : Value} (h : QX w q a b c) (hb : Below B w w') (hq : q < B) : QX w' q a b c := (hb.block q hq).trans h
theorem QX.new (w : World) (a b c : Value) : QX (w.alloc (.cells #[a, b, c] 25)) w.heap.size a b c := heap_alloc_new w _
theorem QX.set0 {w : World} {q : Nat} {a b c : Value} (h : QX w q a b c) (u : Value) : QX (w.setCell ⟨q, 0, none⟩ u) q u b c := boxQ_set h
theorem QX.set1 {w : World} {q : Nat} {a b c : Value} (h : QX w q a b c) (u : Value) : QX (w.setCell ⟨q, 1, none⟩ u) q a u c := boxQ_set h
theorem QX.set2 {w : World} {q : Nat} {a b c : Value} (h : QX w q a b c) (u : Value) : QX (w.setCell ⟨q, 2, none⟩ u) q a b u := boxQ_set h
theorem QX.other {w : World} {q p i : Nat} {a b c u : Value} (h : QX w q a b c) (hne : q ≠ p) : QX (w.setCell ⟨p, i, none⟩ u) q a b c := h.kept (Kept.box w p i u) (fun e => hne e)
theorem QX.drew {w : World} {q : Nat} {a b c : Value} (h : QX w q a b c) : QX w.drew q a b c := h
/-- Rows stay where a queue's box is written. -/
theorem QX.own {w : World} {q i base n size : Nat} {e : TypeId} {a b c v u : Value} {xs : List Value} (h : QX w q a b c) (ho : w.ownsRow base e size v n xs) (hne : e ≠ 25) : (w.setCell ⟨q, i, none⟩ u).ownsRow base e size v n xs :=
  (Kept.box w q i u).own ho fun _ hg => own_block ho hg h hne
theorem OwnBs.boxQ {w : World} {q i base : Nat} {a b c v u : Value} {f : List (List Int)} (hq : QX w q a b c) (h : OwnBs w base v f) : OwnBs (w.setCell ⟨q, i, none⟩ u) base v f := h.box hq (by decide) (by decide)
/-- Whole stores. -/
def putQ (w : World) (q : Nat) (a b c : Value) : World := ((w.setCell ⟨q, 0, none⟩ a).setCell ⟨q, 1, none⟩ b).setCell ⟨q, 2, none⟩ c
theorem QX.put {w : World} {q : Nat} {a b c : Value} (h : QX w q a b c) (x y z : Value) : QX (putQ w q x y z) q x y z := ((h.set0 x).set1 y).set2 z
theorem QX.putOther {w : World} {q p : Nat} {a b c x y z : Value} (h : QX w q a b c) (hne : q ≠ p) : QX (putQ w p x y z) q a b c := ((h.other hne).other hne).other hne
theorem QX.ownPut {w : World} {q base n size : Nat} {e : TypeId} {a b c v x y z : Value} {xs : List Value} (h : QX w q a b c) (ho : w.ownsRow base e size v n xs) (hne : e ≠ 25) : (putQ w q x y z).ownsRow base e size v n xs :=
  ((h.set0 x).set1 y).own ((h.set0 x).own (h.own ho hne) hne) hne
theorem OwnBs.putQ {w : World} {q base : Nat} {a b c v x y z : Value} {f : List (List Int)} (hq : QX w q a b c) (h : OwnBs w base v f) : OwnBs (putQ w q x y z) base v f := (((h.boxQ hq).boxQ (hq.set0 x)).boxQ ((hq.set0 x).set1 y))
theorem below_putQ {B : Nat} {w0 w : World} {q : Nat} (h : Below B w0 w) (hq : B ≤ q) (x y z : Value) : Below B w0 (putQ w q x y z) := ((h.setCell (p := ⟨q, 0, none⟩) hq x).setCell (p := ⟨q, 1, none⟩) hq y).setCell (p := ⟨q, 2, none⟩) hq z
/-- A box made ahead of a call, behind it. -/
theorem newQ {W V : World} (h : Below (W.drew.alloc (.cells #[.int .i64 0, .slice none 0 0, .slice none 0 0] 25)).heap.size (W.drew.alloc (.cells #[.int .i64 0, .slice none 0 0, .slice none 0 0] 25)) V) : QX V W.heap.size (.int .i64 0) (.slice none 0 0) (.slice none 0 0) := (QX.new W.drew (.int .i64 0) (.slice none 0 0) (.slice none 0 0)).below h (by simp)
theorem QX.all {w : World} {q : Nat} {a b c : Value} (h : QX w q a b c) : w.cell? ⟨q, 0, none⟩ = some a ∧ w.cell? ⟨q, 1, none⟩ = some b ∧ w.cell? ⟨q, 2, none⟩ = some c ∧ (w.frozen? ⟨q, 0, none⟩ = false ∧ w.frozen? ⟨q, 1, none⟩ = false ∧ w.frozen? ⟨q, 2, none⟩ = false) := ⟨h.cells.1, h.cells.2.1, h.cells.2.2, h.frozen 0, h.frozen 1, h.frozen 2⟩
end Go.Proofs.Ytihghhmhgakkaaa

namespace Go.Proofs.Ytihghhmhgakkaaa
set_option maxRecDepth 100000
open Go.ChangeShapes Go.WideShapes Go.ChangeAt Go.RowKit

/-- P9.3, of the budget and what is loose. -/
def looB (n : Int) (lo : List Ml) : Bool := decide (1 ≤ n ∧ n ≤ 1000 ∧ (lo.length : Int) < n) && mayA lo
theorem looB_no {n : Int} {lo : List Ml} (h : ¬ (1 ≤ n ∧ n ≤ 1000 ∧ (lo.length : Int) < n)) : looB n lo = false := by unfold looB; rw [decide_eq_false h]; rfl
theorem looB_yes {n : Int} {lo : List Ml} (h : 1 ≤ n ∧ n ≤ 1000 ∧ (lo.length : Int) < n) : looB n lo = mayA lo := by unfold looB; rw [decide_eq_true h]; rfl
theorem okQ_loo (n : Int) (lo : List Ml) (m : Nat) : okQ n lo m = (looB n lo && decide (m ≤ 5000)) := by
  rw [Bool.eq_iff_iff, okQ_iff, Bool.and_eq_true]
  unfold looB
  rw [Bool.and_eq_true, decide_eq_true_iff, decide_eq_true_iff]
  exact ⟨fun ⟨⟨a, b, c, d⟩, e⟩ => ⟨⟨⟨a, b, c⟩, e⟩, d⟩, fun ⟨⟨⟨a, b, c⟩, e⟩, d⟩ => ⟨⟨a, b, c, d⟩, e⟩⟩

set_option maxHeartbeats 1000000 in
theorem looseMayBe_any (n : Int) (vl vr : Value) (lo : List Ml) (w : World) (h : MlR w vl lo) :
    Calls Try.prog 38 #[.agg #[.int .i64 n, vl, vr]] w fun e w' => e = .returned (.bool (looB n lo)) ∧ Below w.heap.size w w' := by
  have HR : Hid (MlR w vl lo) := h
  obtain ⟨a, cap, rfl, hc, hm, _, _⟩ := h
  unfold maxLen at hm
  have hb : ∀ o, Below w.heap.size w (w.alloc o) := fun o => below_alloc w o
  by_cases h0 : 1 ≤ n
  · by_cases h1 : n ≤ 1000
    · by_cases h2 : (lo.length : Int) < n
      · rw [looB_yes ⟨h0, h1, h2⟩]
        have HA : Hid (∀ X, MlR X (.slice a lo.length cap) lo → Calls Try.prog 26 #[.slice a lo.length cap] X fun e w' => e = .returned (.bool (!mayA lo)) ∧ Below X.heap.size X w') := fun X hX => anyBarred_any _ lo X hX
        have e0 : decide (1 ≤ n) = true := decide_eq_true h0
        have e1 : decide (n ≤ 1000) = true := decide_eq_true h1
        have e2 : decide ((lo.length : Int) < n) = true := decide_eq_true h2
        generalize mayA lo = r at HA ⊢
        clear h0 h1 h2
        go_enter Try.func38, Try.ntmps38
        go_wp2_with fail
        refine (HA.out _ (HR.out.below (hb _) (Nat.le_refl _))).mono ?_
        rintro e w1 ⟨rfl, hb1⟩
        have HB : Hid (Below w.heap.size w w1) := (hb _).trans (hb1.mono (by simp))
        clear hb1
        cases r
        · go_wp2_with fail
          go_ret
          exact ⟨rfl, HB.out⟩
        · go_wp2_with fail
          go_ret
          exact ⟨rfl, HB.out⟩
      · rw [looB_no (by omega)]
        have e2 : decide ((lo.length : Int) < n) = false := decide_eq_false h2
        go_enter Try.func38, Try.ntmps38
        go_wp2_with fail
        go_ret
        exact ⟨rfl, hb _⟩
    · rw [looB_no (by omega)]
      have e1 : decide (n ≤ 1000) = false := decide_eq_false h1
      go_enter Try.func38, Try.ntmps38
      go_wp2_with fail
      go_ret
      exact ⟨rfl, hb _⟩
  · rw [looB_no (by omega)]
    have e1 : decide (1 ≤ n) = false := decide_eq_false h0
    go_enter Try.func38, Try.ntmps38
    go_wp2_with fail
    go_ret
    exact ⟨rfl, hb _⟩

/-- What unpackAll answers. -/
def UnpP (w : World) (o : Option (List (List Ml))) (e : Ending) (w' : World) : Prop := ∃ v', e = .returned (.tuple #[v', .int .i64 (errQ o)]) ∧ OwnLm w' w.heap.size v' (o.getD []) ∧ Below w.heap.size w w'

set_option maxHeartbeats 2000000 in
set_option maxRecDepth 100000 in
theorem unpackAll_any (n : Int) (vl vr : Value) (lo : List Ml) (rs : List (List Int)) (w : World) (h : QuR w vl vr lo rs) (hB : QuB lo rs) :
    Calls Try.prog 25 #[.agg #[.int .i64 n, vl, vr]] w (UnpP w (quF n lo rs)) := by
  have HR : Hid (MlR w vl lo) := h.1
  have HS : Hid (BsR w vr rs) := h.2
  have HBY : Hid (∀ b ∈ rs, ∀ x ∈ b, 0 ≤ x ∧ x ≤ 255) := fun b hb => (hB.2.1 b hb).1
  obtain ⟨a, cap, rfl⟩ := h.1.shape
  obtain ⟨c, cap2, rfl, hc2, hm2, _⟩ := id h.2
  have hlr : rs.length * 24 ≤ 140737488351232 := hB.2.2
  unfold maxLen at hm2
  clear h hB
  have HLo : Hid (∀ X, MlR X (.slice a lo.length cap) lo → Calls Try.prog 38 #[.agg #[.int .i64 n, .slice a lo.length cap, .slice c rs.length cap2]] X fun e w' => e = .returned (.bool (looB n lo)) ∧ Below X.heap.size X w') := fun X hX => looseMayBe_any n _ _ lo X hX
  have HNo : Hid (quF n lo rs = none → ∀ w', Below w.heap.size w w' → UnpP w (quF n lo rs) (.returned (.tuple #[.slice none 0 0, .int .i64 9])) w') := fun e w' hw => by rw [e]; exact ⟨_, rfl, OwnLm.nil _ _, hw⟩
  have HYes : Hid (∀ f, quF n lo rs = some f → ∀ v w', OwnLm w' w.heap.size v f → Below w.heap.size w w' → UnpP w (quF n lo rs) (.returned (.tuple #[v, .int .i64 0])) w') := fun f e v w' ho hw => by rw [e]; exact ⟨_, rfl, ho, hw⟩
  cases hlo : looB n lo
  · have HX : Hid _ := HNo.out (quF_no (by rw [okQ_loo, hlo]; rfl))
    generalize UnpP w (quF n lo rs) = P at *
    rw [hlo] at HLo
    clear HNo HYes hlo
    go_enter Try.func25, Try.ntmps25
    go_wp2_with fail
    refine (HLo.out _ (HR.out.below (below_alloc _ _) (Nat.le_refl _))).mono ?_
    rintro e w1 ⟨rfl, hb1⟩
    have HE : Hid (P (.returned (.tuple #[.slice none 0 0, .int .i64 9])) w1) := HX.out _ ((below_alloc _ _).trans (hb1.mono (by simp)))
    clear hb1 HX
    go_wp2_with fail
    exact HE.out
  · by_cases hrl : rs.length ≤ 5000
    · have hok : okQ n lo rs.length = true := by rw [okQ_loo, hlo]; exact decide_eq_true hrl
      have HQ : Hid (quF n lo rs = unpF (5000 - lo.length) rs) := quF_yes hok
      have hle : lo.length < 1000 := by obtain ⟨⟨_, h2, h3, _⟩, _⟩ := okQ_iff.1 hok; omega
      have HNo2 : Hid (unpF (5000 - lo.length) rs = none → ∀ w', Below w.heap.size w w' → UnpP w (quF n lo rs) (.returned (.tuple #[.slice none 0 0, .int .i64 9])) w') := fun e => HNo.out (HQ.out.trans e)
      have HYes2 : Hid (∀ f, unpF (5000 - lo.length) rs = some f → ∀ v w', OwnLm w' w.heap.size v f → Below w.heap.size w w' → UnpP w (quF n lo rs) (.returned (.tuple #[v, .int .i64 0])) w') := fun f e => HYes.out f (HQ.out.trans e)
      generalize UnpP w (quF n lo rs) = P at *
      rw [hlo] at HLo
      clear HNo HYes hlo HQ hok
      have e5 : ¬ (5000 : Int) < (rs.length : Int) := by omega
      obtain ⟨R0, hR0, hR1⟩ : ∃ R0 : Nat, 5000 - lo.length = R0 ∧ IntKind.i64.wrap (5000 - (lo.length : Int)) = (R0 : Int) := ⟨_, rfl, by rw [IntKind.wrap_i64]; omega⟩
      rw [hR0] at HNo2 HYes2
      have hR2 : R0 ≤ 5000 := by omega
      clear hR0
      go_enter Try.func25, Try.ntmps25
      go_wp2_with fail
      refine (HLo.out _ (HR.out.below (below_alloc _ _) (Nat.le_refl _))).mono ?_
      rintro e w1 ⟨rfl, hb1⟩
      have hb1' : Below (w.heap.size + 1) (w.alloc (.cells #[.int .i64 n, .slice a lo.length cap, .slice c rs.length cap2] 25)) w1 := by simpa using hb1
      have B1 : Hid (Below w.heap.size w w1) := box_below hb1'
      obtain ⟨q0, q1, q2⟩ := ((QX.new w (.int .i64 n) (.slice a lo.length cap) (.slice c rs.length cap2)).below hb1' (Nat.lt_succ_self _)).cells
      clear hb1 hb1' HLo
      go_wp2_with fail
      go_loopw [4, 5, 26] (fun m x i wr => ∃ (k R : Nat) (f : List (List Ml)), k ≤ rs.length ∧ i = .int .i64 k ∧ m = .int .i64 R ∧ UpTo R0 rs k f ∧ R0 ≤ R + sumM f ∧ R + sumM f ≤ R0 ∧ OwnLm wr w.heap.size x f ∧ Below w.heap.size w wr) (fun _ _ i _ => rs.length - (intOf i).toNat)
      case atStart => exact ⟨0, R0, [], by omega, rfl, rfl, UpTo.zero _ _, by simp [sumM], by simp [sumM], OwnLm.nil _ _, B1.out⟩
      case round =>
        obtain ⟨k, R, f, hk, rfl, rfl, hto, hr1, hr2, hown, hbel⟩ := hrel
        have TO : Hid (UpTo R0 rs k f) := hto
        have OW : Hid (OwnLm wr w.heap.size u5 f) := hown
        have HB : Hid (Below w.heap.size w wr) := hbel
        have hsr := hbel.size
        have hfl : f.length ≤ k := Nat.le_of_eq hto.1
        obtain ⟨va, vc, rfl⟩ : ∃ a c, u5 = .slice a f.length c := by obtain ⟨a, c, e, _⟩ := hown.reads; exact ⟨a, c, e⟩
        clear hto hown hbel
        by_cases hlt : k < rs.length
        · obtain ⟨b, off, cap', e1, lt, _, _, hv⟩ := (HS.out.below HB.out (Nat.le_refl _)).at (by omega)
          injection e1 with e1 e2 e3
          subst e1 e3
          clear e2
          obtain ⟨l, hl⟩ := getX hlt
          obtain ⟨u, hu, hpr⟩ := hv k l hl
          have HK : Hid (rs[k]? = some l) := hl
          have HU : Hid (∀ X, Reads .u8 X u l → Calls Try.prog 39 #[u] X (RefP X (errR (runF l)) ((runF l).getD []))) := fun X hX => unpack_any u l X hX (HBY.out l (List.mem_of_getElem? hl))
          have HP : Hid (Reads .u8 wr u l) := hpr
          obtain ⟨ua, uc, rfl, _⟩ := id hpr
          clear hl hv hpr
          cases hrf : runF l with
          | none =>
            have HE : Hid (∀ w', Below w.heap.size w w' → P (.returned (.tuple #[.slice none 0 0, .int .i64 9])) w') := HNo2.out (TO.out.bad HK.out hrf)
            rw [hrf] at HU
            clear hrf
            go_wp2_with fail
            refine (HU.out _ HP.out).mono ?_
            rintro e w2 ⟨v2, rfl, _, hb2⟩
            have HX : Hid (P (.returned (.tuple #[.slice none 0 0, .int .i64 9])) w2) := HE.out _ (HB.out.trans (hb2.mono hsr))
            clear hb2
            unfold errR
            go_wp2_with fail
            exact HX.out
          | some x =>
            rw [hrf] at HU
            by_cases hx : x.length ≤ R
            · have TO2 : Hid (UpTo R0 rs (k + 1) (f ++ [x])) := TO.out.step HK.out hrf (by omega)
              have HS2 : Hid (sumM (f ++ [x]) = sumM f + x.length) := sumM_snoc f x
              have hx2 : ¬ (R : Int) < (x.length : Int) := by omega
              have hsub : IntKind.i64.wrap ((R : Int) - (x.length : Int)) = ((R - x.length : Nat) : Int) := by rw [IntKind.wrap_i64]; omega
              obtain ⟨R2, hR3⟩ : ∃ R2, R - x.length = R2 := ⟨_, rfl⟩
              rw [hR3] at hsub
              have hR4 : R2 + x.length ≤ R := by omega
              have hR5 : R ≤ R2 + x.length := by omega
              clear hrf hR3
              go_wp2_with fail
              refine (HU.out _ HP.out).mono ?_
              rintro e w2 ⟨v2, rfl, ho2, hb2⟩
              have O2 : Hid (w2.ownsRow w.heap.size 27 2 v2 x.length (x.flatMap encM)) := own_lower ho2 hsr
              have OL : Hid (OwnLm w2 w.heap.size (.slice va f.length vc) f) := OW.out.kept (Kept.of (S := fun _ => False) hb2) (fun _ _ h => h)
              have B2 : Hid (Below w.heap.size w w2) := HB.out.trans (hb2.mono hsr)
              have hs2 := B2.out.size
              obtain ⟨xa, xc, rfl⟩ := (MlR.ownd O2.out).shape
              clear ho2 hb2
              unfold errR
              go_wp2_with (at_builtin; refine wpList_append_lm rfl _ _ rfl w.heap.size _ f rfl (OL.out.kept (Kept.of (S := fun _ => False) (below_alloc w2 _)) (fun _ _ h => h)) w2.heap.size (.slice xa x.length xc) x rfl (0, 0) (heap_alloc_new _ _) (O2.out.alloc _) ?d1 ?d2 ?_)
              case d1 => omega
              case d2 => simp; omega
              intro g c3 w3 hown3 hg3 _
              have O3 : Hid (OwnLm w3 w.heap.size (.slice (some ⟨g, 0, none⟩) (f.length + 1) c3) (f ++ [x])) := hown3
              have B3 : Hid (Below w.heap.size w w3) := (B2.out.alloc hs2 _).grown hg3 (by simp; omega) (fun j hj => by
                obtain ⟨vs, hrow⟩ := OL.out.row
                exact (own_geM hrow hj).1)
              clear hown3 hg3
              go_wp2_with fail
              go_roundw
              case rel => exact ⟨k + 1, R2, f ++ [x], by omega, by go_num, rfl, TO2.out, by rw [HS2.out]; omega, by rw [HS2.out]; omega, O3.out, B3.out⟩
              case measure => simp [intOf]; omega
            · have HE : Hid (∀ w', Below w.heap.size w w' → P (.returned (.tuple #[.slice none 0 0, .int .i64 9])) w') := HNo2.out (TO.out.much HK.out hrf (by omega))
              have hx2 : (R : Int) < (x.length : Int) := by omega
              clear hrf
              go_wp2_with fail
              refine (HU.out _ HP.out).mono ?_
              rintro e w2 ⟨v2, rfl, ho2, hb2⟩
              have HX : Hid (P (.returned (.tuple #[.slice none 0 0, .int .i64 9])) w2) := HE.out _ (HB.out.trans (hb2.mono hsr))
              obtain ⟨xa, xc, rfl⟩ := (MlR.ownd (show w2.ownsRow wr.heap.size 27 2 v2 x.length (x.flatMap encM) from ho2)).shape
              clear hb2 ho2
              unfold errR
              go_wp2_with fail
              exact HX.out
        · have HX : Hid (P (.returned (.tuple #[.slice va f.length vc, .int .i64 0])) wr) := HYes2.out f (TO.out.done (by omega)) _ _ OW.out HB.out
          clear TO OW
          go_wp2_with fail
          exact HX.out
    · have HX : Hid _ := HNo.out (quF_no (by rw [okQ_loo, hlo]; exact decide_eq_false hrl))
      generalize UnpP w (quF n lo rs) = P at *
      rw [hlo] at HLo
      clear HNo HYes hlo
      have e5 : (5000 : Int) < (rs.length : Int) := by omega
      go_enter Try.func25, Try.ntmps25
      go_wp2_with fail
      refine (HLo.out _ (HR.out.below (below_alloc _ _) (Nat.le_refl _))).mono ?_
      rintro e w1 ⟨rfl, hb1⟩
      have HE : Hid (P (.returned (.tuple #[.slice none 0 0, .int .i64 9])) w1) := HX.out _ ((below_alloc _ _).trans (hb1.mono (by simp)))
      have hb1' : Below (w.heap.size + 1) (w.alloc (.cells #[.int .i64 n, .slice a lo.length cap, .slice c rs.length cap2] 25)) w1 := by simpa using hb1
      obtain ⟨q0, q1, q2⟩ := ((QX.new w (.int .i64 n) (.slice a lo.length cap) (.slice c rs.length cap2)).below hb1' (Nat.lt_succ_self _)).cells
      clear hb1 hb1' HX
      go_wp2_with fail
      exact HE.out
set_option maxHeartbeats 1000000 in
set_option maxRecDepth 100000 in
theorem countQ_any (v : Value) (f : List (List Ml)) (w : World) (h : LmR w v f) (hs : sumM f ≤ 4611686018427387904) :
    Calls Try.prog 27 #[v] w fun e w' => e = .returned (.int .i64 (sumM f : Nat)) ∧ w' = w := by
  have HR : Hid (LmR w v f) := h
  obtain ⟨a, cap, rfl, hc, hm, _⟩ := h
  unfold maxLen at hm
  go_enter Try.func27, Try.ntmps27
  go_wp2_with fail
  go_loopw [3, 8] (fun s i wr => ∃ k : Nat, k ≤ f.length ∧ i = .int .i64 k ∧ s = .int .i64 (sumM (f.take k) : Nat) ∧ wr = w) (fun _ i _ => f.length - (intOf i).toNat)
  case atStart => exact ⟨0, by omega, rfl, rfl, rfl⟩
  case round =>
    obtain ⟨k, hk, rfl, rfl, rfl⟩ := hrel
    by_cases hlt : k < f.length
    · obtain ⟨b, off, cap', e1, lt, _, _, hv⟩ := HR.out.at (by omega)
      injection e1 with e1 _ e3
      subst e1 e3
      obtain ⟨l, hl⟩ := getX hlt
      obtain ⟨u, hu, hpr⟩ := hv k l hl
      obtain ⟨ua, uc, rfl⟩ := hpr.shape
      have HT : Hid (sumM (f.take (k + 1)) = sumM (f.take k) + l.length) := sumM_take hl
      have hs1 := sumM_le f (k + 1)
      have hs2 := HT.out
      have hs3 : sumM (f.take k) + l.length ≤ 4611686018427387904 := by omega
      clear hs1 hs2 hl hv hpr
      generalize sumM (f.take k) = s at *
      go_wp2_with fail
      go_roundw
      case rel => exact ⟨k + 1, by omega, by go_num, by rw [HT.out]; go_num, trivial⟩
      case measure => simp [intOf]; omega
    · have ek : f.take k = f := List.take_of_length_le (by omega)
      have HT : Hid (sumM (f.take k) = sumM f) := by show _ = _; rw [ek]
      clear ek
      generalize sumM (f.take k) = s at *
      go_wp2_with fail
      go_ret
      exact ⟨by rw [HT.out]; rfl, rfl⟩
end Go.Proofs.Ytihghhmhgakkaaa

namespace Go.Proofs.Ytihghhmhgakkaaa
set_option maxRecDepth 100000
open Go.RowKit

section
variable {P : Program} {Q : Exit → Act → World → Prop}
/-- A call, its result and its world taken up. -/
theorem call_gets {oi : Oper} {a : Act} {w : World} {K : Act → World → Prop} {d : Tmp} {f : FuncId} {xs : Array Operand} {ats : Array TypeId} (hd : oi.dst = some d) (hop : oi.op = Op.call { callee := Callee.value (.func f), args := xs, argTypes := ats })
    (he : ∀ args w, (callFunc f args).run P w = .ok (.enter f args) w) {vs : Array Value} (hxs : xs.map a.eval = vs) {R : Value → World → Prop} (hc : Calls P f vs w fun e w' => ∃ v, e = .returned v ∧ R v w') (hK : ∀ v w', R v w' → K (a.put (some d) v) w') : oi.wp P a w K Q := by
  unfold Oper.wp
  have hr : (execOp a.eval oi).run P w = .ok (.enter f vs) w := by
    have h2 : xs.map a.eval = vs := hxs
    simp [execOp, hop, resolve, invoke, Act.eval, Deferred.ofValue]
    have h3 := he (xs.map a.eval) w
    rw [h2] at h3
    rw [← h2] at h3 ⊢
    exact h3
  rw [hr, Oper.upon_enter]
  exact hc.mono (by rintro e w' ⟨v, rfl, h⟩; rw [hd]; exact hK _ _ h)
/-- A call that gives up. -/
theorem call_up {oi : Oper} {a : Act} {w : World} {K : Act → World → Prop} {f : FuncId} {xs : Array Operand} {ats : Array TypeId} (hop : oi.op = Op.call { callee := Callee.value (.func f), args := xs, argTypes := ats })
    (he : ∀ args w, (callFunc f args).run P w = .ok (.enter f args) w) {vs : Array Value} (hxs : xs.map a.eval = vs) {R : World → Prop} {c : List PanicEntry} (hc : Calls P f vs w fun e w' => e = .panicked c ∧ R w') (hQ : ∀ w', R w' → Q (.panic c) a w') : oi.wp P a w K Q := by
  unfold Oper.wp
  have hr : (execOp a.eval oi).run P w = .ok (.enter f vs) w := by
    have h2 : xs.map a.eval = vs := hxs
    simp [execOp, hop, resolve, invoke, Act.eval, Deferred.ofValue]
    have h3 := he (xs.map a.eval) w
    rw [h2] at h3
    rw [← h2] at h3 ⊢
    exact h3
  rw [hr, Oper.upon_enter]
  exact hc.mono (by rintro e w' ⟨rfl, h⟩; exact hQ _ h)
/-- A store whose run is known. -/
theorem op_skip {oi : Oper} {a : Act} {w w' : World} {K : Act → World → Prop} (hd : oi.dst = none) (hrun : (execOp a.eval oi).run P w = .ok .skip w') (hK : K a w') : oi.wp P a w K Q := by
  unfold Oper.wp
  rw [hrun, Oper.upon_skip, hd]
  exact hK
/-- Just two operations may come up. -/
theorem twoH {ops : Array Oper} {md : Region.Mode} {S : World → Prop} {i j : Nat} {oi oj : Oper} {fuel : Nat} {listed : Array Bool} {a : Act} {w : World} (hi : ops[i]? = some oi) (hj : ops[j]? = some oj) (hr : Region.ready md ops listed = [i, j]) (gi : oi.guard = none) (gj : oj.guard = none)
    (h1 : oi.wp P a w (fun a' w' => S w' ∧ wpAnyH P md ops Q S fuel (listed.setIfInBounds i true) a' w') Q) (h2 : oj.wp P a w (fun a' w' => S w' ∧ wpAnyH P md ops Q S fuel (listed.setIfInBounds j true) a' w') Q) : wpAnyH P md ops Q S (fuel + 1) listed a w := by
  refine wpAnyH_all hr (by simp) fun k hk => ?_
  rcases (by simpa using hk : k = i ∨ k = j) with rfl | rfl
  · unfold wpOp
    simp only [hi]
    rw [if_pos (by simp [Region.wanted, gi])]
    exact .inl h1
  · unfold wpOp
    simp only [hj]
    rw [if_pos (by simp [Region.wanted, gj])]
    exact .inl h2
end
end Go.Proofs.Ytihghhmhgakkaaa

namespace Go.Proofs.Ytihghhmhgakkaaa
set_option maxRecDepth 100000
open Go.ChangeShapes Go.WideShapes Go.ChangeAt Go.RowKit

/-- What an append of bytes that read comes to. -/
theorem run_append_byt {w : World} (ty : TypeId) (base : Nat) (v : Value) (xs : List Int) (hown : w.ownsRow base 5 1 v xs.length (xs.map (Value.int .u8)))
    (v2 : Value) (ys : List Int) (hr : Reads .u8 w v2 ys) (hlen : xs.length + ys.length ≤ 140737488355328) (hbase : base ≤ w.heap.size) :
    ∃ v' w', (Builtin.append_ #[50, 50] ty #[v, v2]).run Try.prog w = .ok v' w' ∧ w'.ownsRow base 5 1 v' (xs ++ ys).length ((xs ++ ys).map (Value.int .u8)) ∧ w.grownBy w' v.ownBlock := by
  obtain ⟨i0, hi, hz0, hz1, hz2⟩ := info_parts Try.info5
  obtain ⟨ad, cap, rfl, hc, hm, ha, hcell⟩ := hr
  cases ad with
  | none =>
    have hcap := ha rfl
    have : ys = [] := List.eq_nil_of_length_eq_zero (by omega)
    subst this
    subst hcap
    have h := run_append_owned_none (P := Try.prog) (w := w) base 50 ty 5 i0 1 Try.underlying50 hi v _ _ hown
    exact ⟨v, w, h, by simpa using hown, World.grownBy.refl _ _⟩
  | some p =>
    obtain ⟨v', w', h1, h2, h3, _⟩ := run_append_own w base 50 ty 5 i0 (.int .u8 0) 1 1 Try.underlying50 hi hz0 hz1 hz2 rfl (by decide) v _ _ hown p ys.length cap (ys.map (Value.int .u8)) (by simp)
      (fun j u hj => by
        obtain ⟨hj1, rfl⟩ := getD_map hj
        exact hcell p rfl j hj1) (bytes_oneCell _) (by unfold maxLen; omega) (by omega) hbase
    exact ⟨v', w', h1, by simpa using h2, h3⟩

/-- What clone answers. -/
def ClnP (w : World) (n : Int) (lo : List Ml) (rs : List (List Int)) (e : Ending) (w' : World) : Prop :=
  ∃ xl xr, e = .returned (.agg #[.int .i64 n, xl, xr]) ∧ w'.ownsRow w.heap.size 27 2 xl lo.length (lo.flatMap encM) ∧ OwnBs w' w.heap.size xr rs ∧ Below w.heap.size w w'

set_option maxHeartbeats 2000000 in
set_option maxRecDepth 100000 in
theorem clone_any (n : Int) (vl vr : Value) (lo : List Ml) (rs : List (List Int)) (w : World) (h : QuR w vl vr lo rs) (hB : QuB lo rs) :
    Calls Try.prog 28 #[.agg #[.int .i64 n, vl, vr]] w (ClnP w n lo rs) := by
  have HR : Hid (QuR w vl vr lo rs) := h
  obtain ⟨a, cap, rfl⟩ := h.1.shape
  obtain ⟨c, cap2, rfl, hc2, hm2, _⟩ := id h.2
  have hl1 : lo.length * 16 ≤ 140737488351232 := hB.1.2
  have hl2 : rs.length * 24 ≤ 140737488351232 := hB.2.2
  have HL : Hid (∀ l ∈ rs, l.length ≤ 140737488351232) := fun l hl => (hB.2.1 l hl).2
  have HE : Hid (∀ xl xr w', w'.ownsRow w.heap.size 27 2 xl lo.length (lo.flatMap encM) → OwnBs w' w.heap.size xr rs → Below w.heap.size w w' → ClnP w n lo rs (.returned (.agg #[.int .i64 n, xl, xr])) w') := fun xl xr w' h1 h2 h3 => ⟨_, _, rfl, h1, h2, h3⟩
  generalize ClnP w n lo rs = P at *
  clear h hB
  go_enter Try.func28, Try.ntmps28
  go_upto_region 1 with fail
  have Q0 : QX ((w.alloc (.cells #[.int .i64 n, .slice a lo.length cap, .slice c rs.length cap2] 25)).alloc (.cells #[.int .i64 0, .slice none 0 0, .slice none 0 0] 25)) w.heap.size (.int .i64 n) (.slice a lo.length cap) (.slice c rs.length cap2) := (QX.new w (.int .i64 n) (.slice a lo.length cap) (.slice c rs.length cap2)).below (below_alloc _ _) (by simp)
  have P0 : QX ((w.alloc (.cells #[.int .i64 n, .slice a lo.length cap, .slice c rs.length cap2] 25)).alloc (.cells #[.int .i64 0, .slice none 0 0, .slice none 0 0] 25)) (w.heap.size + 1) (.int .i64 0) (.slice none 0 0) (.slice none 0 0) := by
    have h := QX.new (w.alloc (.cells #[.int .i64 n, .slice a lo.length cap, .slice c rs.length cap2] 25)) (.int .i64 0) (.slice none 0 0) (.slice none 0 0)
    rwa [show (w.alloc (.cells #[.int .i64 n, .slice a lo.length cap, .slice c rs.length cap2] 25)).heap.size = w.heap.size + 1 by simp] at h
  have B0 : Hid (Below w.heap.size w ((w.alloc (.cells #[.int .i64 n, .slice a lo.length cap, .slice c rs.length cap2] 25)).alloc (.cells #[.int .i64 0, .slice none 0 0, .slice none 0 0] 25))) := (below_alloc _ _).alloc (by simp) _
  generalize (w.alloc (.cells #[.int .i64 n, .slice a lo.length cap, .slice c rs.length cap2] 25)).alloc (.cells #[.int .i64 0, .slice none 0 0, .slice none 0 0] 25) = W0 at *
  have hs0 := P0.lt
  have R0 : Hid (QuR W0 (.slice a lo.length cap) (.slice c rs.length cap2) lo rs) := HR.out.below B0.out (Nat.le_refl _)
  have QQ : Hid (QX W0 w.heap.size (.int .i64 n) (.slice a lo.length cap) (.slice c rs.length cap2)) := Q0
  have PP : Hid (QX W0 (w.heap.size + 1) (.int .i64 0) (.slice none 0 0) (.slice none 0 0)) := P0
  obtain ⟨q0, q1, q2⟩ := Q0.cells
  clear Q0 P0 HR
  go_upto_region 2 with fail
  have N1 : QX (W0.alloc (.cells #[.int .i64 n, .slice none 0 0, .slice none 0 0] 25)) W0.heap.size (.int .i64 n) (.slice none 0 0) (.slice none 0 0) := QX.new _ _ _ _
  have b1 : Below W0.heap.size W0 (W0.alloc (.cells #[.int .i64 n, .slice none 0 0, .slice none 0 0] 25)) := below_alloc _ _
  have hs1 : W0.heap.size < (W0.alloc (.cells #[.int .i64 n, .slice none 0 0, .slice none 0 0] 25)).heap.size := by simp
  generalize W0.alloc (.cells #[.int .i64 n, .slice none 0 0, .slice none 0 0] 25) = W1 at *
  obtain ⟨n0, n1, n2, n3, n4, n5⟩ := N1.all
  obtain ⟨q0, q1, q2⟩ := (QQ.out.below b1 (by omega)).cells
  have NX : Hid (QX W1 W0.heap.size (.int .i64 n) (.slice none 0 0) (.slice none 0 0)) := N1
  have B1 : Hid (Below W0.heap.size W0 W1) := b1
  clear N1 b1
  go_wp2_with (at_builtin; refine wpList_append_rowK kM rfl _ _ rfl W1.heap.size _ ([] : List Ml) rfl (World.ownsRow_nil _ _ _ _) _ lo rfl (R0.out.1.below B1.out (Nat.le_refl _)) ?d1 ?d2 (Nat.le_refl _) ?_)
  case d1 => simp [kM]; omega
  case d2 => unfold maxLen; simp; omega
  intro v2 w2 ho2 hb2 _
  have M2 : Hid (w2.ownsRow W0.heap.size 27 2 v2 lo.length (lo.flatMap encM)) := by
    have h := own_lower ho2 (B' := W0.heap.size) (by omega)
    show World.ownsRow _ _ _ _ _ _ _
    simpa [kM] using h
  have X2 : Hid (QX w2 W0.heap.size (.int .i64 n) (.slice none 0 0) (.slice none 0 0)) := NX.out.below hb2 (by omega)
  have B2 : Hid (Below W0.heap.size W0 w2) := B1.out.trans (hb2.mono (by omega))
  obtain ⟨ya, yc, rfl⟩ := (MlR.ownd M2.out).shape
  obtain ⟨m0, m1, m2, m3, m4, m5⟩ := X2.out.all
  have A2 : Hid (QX (w2.setCell ⟨W0.heap.size, 1, none⟩ (.slice ya lo.length yc)) W0.heap.size (.int .i64 n) (.slice ya lo.length yc) (.slice none 0 0)) := X2.out.set1 _
  have D2 : Hid ((w2.setCell ⟨W0.heap.size, 1, none⟩ (.slice ya lo.length yc)).ownsRow W0.heap.size 27 2 (.slice ya lo.length yc) lo.length (lo.flatMap encM)) := X2.out.own M2.out (by decide)
  have E2 : Hid (Below W0.heap.size W0 (w2.setCell ⟨W0.heap.size, 1, none⟩ (.slice ya lo.length yc))) := B2.out.setCell (Nat.le_refl _) _
  obtain ⟨q0, q1, q2⟩ := (QQ.out.below E2.out (by omega)).cells
  clear ho2 hb2 X2 B2 M2 NX n0 n1 n2 n3 n4 n5
  go_upto_region 3 with fail
  clear m0 m1 m2 m3 m4 m5
  generalize w2.setCell ⟨W0.heap.size, 1, none⟩ (.slice ya lo.length yc) = V at *
  go_wp2_with fail
  go_loopw [18] (fun i wr => ∃ (k : Nat) (u : Value), k ≤ rs.length ∧ i = .int .i64 k ∧ QX wr W0.heap.size (.int .i64 n) (.slice ya lo.length yc) u ∧ OwnBs wr W0.heap.size u (rs.take k) ∧ wr.ownsRow W0.heap.size 27 2 (.slice ya lo.length yc) lo.length (lo.flatMap encM) ∧ Below W0.heap.size W0 wr) (fun i _ => rs.length - (intOf i).toNat)
  case atStart => exact ⟨0, _, by omega, rfl, A2.out, OwnBs.nil _ _, D2.out, E2.out⟩
  case round =>
      obtain ⟨k, u, hk, rfl, hqx, hob, hom, hbel⟩ := hrel
      have QR : Hid (QX wr W0.heap.size (.int .i64 n) (.slice ya lo.length yc) u) := hqx
      have OB : Hid (OwnBs wr W0.heap.size u (rs.take k)) := hob
      have OM : Hid (wr.ownsRow W0.heap.size 27 2 (.slice ya lo.length yc) lo.length (lo.flatMap encM)) := hom
      have HB : Hid (Below W0.heap.size W0 wr) := hbel
      have hsr := hbel.size
      have P1 : Hid (QX wr (w.heap.size + 1) (.int .i64 0) (.slice none 0 0) (.slice none 0 0)) := PP.out.below hbel (by omega)
      obtain ⟨z0, z1, z2⟩ := hqx.cells
      obtain ⟨ua, uc, hue⟩ : ∃ a c, u = .slice a (rs.take k).length c := by obtain ⟨a, c, e, _⟩ := hob.reads; exact ⟨a, c, e⟩
      clear hqx hob hom hbel q0 q1 q2
      by_cases hlt : k < rs.length
      · obtain ⟨rb, ro, cap', e1, lt, _, _, hv⟩ := (R0.out.2.below HB.out (Nat.le_refl _)).at (by omega)
        injection e1 with e1 e9 e3
        subst e1 e3
        clear e9
        obtain ⟨l, hl⟩ := getX hlt
        obtain ⟨t, ht, htr⟩ := hv k l hl
        have HP : Hid (Reads .u8 wr t l) := htr
        obtain ⟨la, lc, rfl, _⟩ := id htr
        have hll : l.length ≤ 140737488355328 := by have := HL.out l (List.mem_of_getElem? hl); omega
        have HT : Hid (rs.take (k + 1) = rs.take k ++ [l]) := take_snoc hl
        have KEEP : Hid (∀ V, Below wr.heap.size wr V → V.cell? ⟨W0.heap.size, 2, none⟩ = some u) := fun V hV => (hV.cell (p := ⟨W0.heap.size, 2, none⟩) QR.out.lt).trans z2
        have HSD : Hid (wr.drew.cell? ⟨W0.heap.size, 2, none⟩ = some u) := KEEP.out wr.drew (Below.refl _ _).drew
        clear hv hl htr hue
        go_upto_region 6 with fail
        refine region_lastF (S := fun V => V.cell? ⟨W0.heap.size, 2, none⟩ = some u) (by kernel_rfl) rfl (by kernel_rfl) (by kernel_rfl) ?_
        clear z0 z1 z2
        simp only [List.pop_toArray, List.dropLast_cons_cons, List.dropLast_singleton, List.size_toArray, List.length_cons, List.length_nil, Nat.reduceAdd]
        refine takeH (i := 0) (v := .pointer (some ⟨W0.heap.size, 2, none⟩)) (d := 22) rfl rfl (by kernel_rfl) (by kernel_rfl) (by kernel_rfl) (fun _ _ _ h => h) (by rfl) (fun V hV => by have v1 := hV; go_simp) HSD.out ?_
        simp only [Act.put, List.setIfInBounds_toArray, List.set_cons_zero, List.set_cons_succ]
        refine takeH (i := 1) (v := u) (d := 23) rfl rfl (by kernel_rfl) (by kernel_rfl) (by kernel_rfl) (fun _ _ _ h => h) (by rfl) (fun V hV => by have v1 := hV; go_simp) HSD.out ?_
        simp only [Act.put, List.setIfInBounds_toArray, List.set_cons_zero, List.set_cons_succ]
        refine takeH (i := 2) (v := .slice la l.length lc) (d := 24) rfl rfl (by kernel_rfl) (by kernel_rfl) (by kernel_rfl) (fun _ _ _ h => h) (by rfl) (fun V hV => by have v1 := hV; go_simp) HSD.out ?_
        simp only [Act.put, List.setIfInBounds_toArray, List.set_cons_zero, List.set_cons_succ]
        obtain ⟨v2, w2, hrun2, ho2, hg2⟩ := run_append_byt (w := wr.drew) 50 wr.heap.size (.slice none 0 0) [] (World.ownsRow_nil _ _ _ _) (.slice la l.length lc) l (HP.out.below (Below.refl _ _).drew (Nat.le_refl _)) (by simp; omega) (by simp)
        have C2 : Below wr.heap.size wr w2 := below_undrew ((Below.refl _ _).grown hg2 (by simp) (fun k hk => by cases hk))
        have HS2 := KEEP.out w2 C2
        refine oneH (i := 3) rfl (by kernel_rfl) rfl (call_append (d := 25) (s := .const (.slice none 0 0)) (x := .tmp 24) (t := 50) rfl rfl (v := .slice none 0 0) (v2 := .slice la l.length lc) (by simp [Act.eval]) (by simp [Act.eval]) hrun2 ⟨HS2, ?_⟩)
        simp only [Act.put, List.setIfInBounds_toArray, List.set_cons_zero, List.set_cons_succ]
        have ho2' : w2.ownsRow wr.heap.size 5 1 v2 l.length (l.map (Value.int .u8)) := by simpa using ho2
        have A2 : Below wr.heap.size wr (w2.alloc (.cells #[v2] 50)) := C2.alloc C2.size _
        have HS3 := KEEP.out (w2.alloc (.cells #[v2] 50)) A2
        obtain ⟨ya2, yc2, rfl⟩ : ∃ ya2 yc2, v2 = .slice ya2 l.length yc2 := by obtain ⟨x, y, e, _⟩ := reads_own ho2'; exact ⟨x, y, e⟩
        refine oneH (i := 4) rfl (by kernel_rfl) rfl (op_run (d := 26) (v' := .slice (some ⟨w2.heap.size, 0, none⟩) 1 1) (w' := w2.alloc (.cells #[.slice ya2 l.length yc2] 50)) rfl (by go_simp) ⟨HS3, ?_⟩)
        simp only [Act.put, List.setIfInBounds_toArray, List.set_cons_zero, List.set_cons_succ]
        have OB2 : OwnBs (w2.alloc (.cells #[.slice ya2 l.length yc2] 50)) W0.heap.size u (rs.take k) := OB.out.kept (Kept.of (S := fun _ => False) A2) (fun _ _ h => h)
        obtain ⟨g, gc, w3, hrun, hob3, hg3, _⟩ := run_append_bs 23 W0.heap.size u (rs.take k) OB2 w2.heap.size (.slice ya2 l.length yc2) l (0, 0) (heap_alloc_new _ _) ((own_lower ho2' hsr).alloc _) (by simp; omega) (by have := A2.size; omega)
        obtain ⟨us, hus⟩ := OB2.row
        have K3 : Kept (fun q => u.ownBlock = some q) wr w3 := (Kept.of (S := fun q => u.ownBlock = some q) A2).grown hg3 (fun q hq => .inl hq)
        have hub : ¬ (u.ownBlock = some W0.heap.size) := fun h => own_block hus h ((QX.below QR.out A2 (by have := QR.out.lt; omega))) (by decide) rfl
        have Q3 : Hid (QX w3 W0.heap.size (.int .i64 n) (.slice ya lo.length yc) u) := QR.out.kept K3 hub
        refine oneH (i := 5) rfl (by kernel_rfl) rfl (call_append (d := 27) (s := .tmp 23) (x := .tmp 26) (t := 23) rfl rfl (v := u) (v2 := .slice (some ⟨w2.heap.size, 0, none⟩) 1 1) (by simp [Act.eval]) (by simp [Act.eval]) hrun ⟨Q3.out.cells.2.2, ?_⟩)
        simp only [Act.put, List.setIfInBounds_toArray, List.set_cons_zero, List.set_cons_succ]
        refine takeH (i := 6) (v := .pointer (some ⟨W0.heap.size, 2, none⟩)) (d := 28) rfl rfl (by kernel_rfl) (by kernel_rfl) (by kernel_rfl) (fun _ _ _ h => h) (by rfl) (fun V hV => by have v1 := hV; go_simp) Q3.out.cells.2.2 ?_
        simp only [Act.put, List.setIfInBounds_toArray, List.set_cons_zero, List.set_cons_succ]
        refine wpAnyH_done (by kernel_rfl) ?_ _
        have B3 : Hid (Below W0.heap.size W0 w3) := HB.out.trans (K3.below hsr (fun q hq => (own_geB hus hq).1))
        have M3 : Hid (w3.ownsRow W0.heap.size 27 2 (.slice ya lo.length yc) lo.length (lo.flatMap encM)) := K3.own OM.out (fun q hq h => by have h1 := own_apart hus (own_below OM.out A2 (Nat.le_refl _)) (by decide); rcases h1 with h1 | h1; (rw [h1] at h; cases h); exact h1 (h.trans hq.symm))
        have O3 : Hid (OwnBs w3 W0.heap.size (.slice (some ⟨g, 0, none⟩) ((rs.take k).length + 1) gc) (rs.take (k + 1))) := by show OwnBs _ _ _ _; rw [HT.out]; exact hob3
        clear hob3 hg3 hrun hus hub K3 OB2 HS2 HS3 ho2 ho2' hrun2 hg2 C2 A2 OB OM HB QR KEEP HSD
        generalize (rs.take k).length + 1 = tl at *
        obtain ⟨z0, z1, z2, z3, z4, z5⟩ := Q3.out.all
        show Oper.wp _ _ _ _ _ _
        go_wp2_with fail
        go_roundw
        case rel => exact ⟨k + 1, _, by omega, by go_num, Q3.out.set2 _, O3.out.boxQ Q3.out, Q3.out.own M3.out (by decide), B3.out.setCell (Nat.le_refl _) _⟩
        case measure => simp [intOf]; omega
      · have ek : rs.take k = rs := List.take_of_length_le (by omega)
        rw [ek] at hue OB
        subst hue
        obtain ⟨y0, y1, y2, y3, y4, y5⟩ := P1.out.all
        have HX : Hid (P (.returned (.agg #[.int .i64 n, .slice ya lo.length yc, .slice ua rs.length uc])) (putQ wr (w.heap.size + 1) (.int .i64 n) (.slice ya lo.length yc) (.slice ua rs.length uc))) := HE.out _ _ _ (own_lower (P1.out.ownPut OM.out (by decide)) B0.out.size) ((OwnBs.putQ P1.out OB.out).lower B0.out.size) (below_putQ (B0.out.trans (HB.out.mono (by omega))) (Nat.le_succ _) _ _ _)
        clear ek
        go_wp2_with fail
        have r := (P1.out.put (.int .i64 n) (.slice ya lo.length yc) (.slice ua rs.length uc)).cells
        unfold putQ at r
        obtain ⟨r0, r1, r2⟩ := r
        exact bodyPost_ret (v := .agg #[.int .i64 n, .slice ya lo.length yc, .slice ua rs.length uc]) (by simp [results, Try.results28, go_sem, r0, r1, r2]) rfl HX.out
end Go.Proofs.Ytihghhmhgakkaaa
