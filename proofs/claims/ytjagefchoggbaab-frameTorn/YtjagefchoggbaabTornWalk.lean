/-
  What the walk of FrameTorn stands on: lists of slices that came in, appends of ints, frames of the first payloads and where they end.
-/
import Derived.Test.YtjagefchoggbaabTornMath
import Derived.Test.YtjagefchoggbaabSameKeep
import Derived.Test.YtjagefchoggbaabSome
namespace Go.Proofs.Ytjagefchoggbaab
open Go.ChangeShapes Go.WideShapes Go.ChangeAt Go.RowKit

/-- A list of slices of bytes that came in. -/
def InLists (w : World) (v : Value) (ls : List (List Int)) : Prop :=
  ∃ (a : Option Addr) (cap : Nat) (vs : Nat → Value), v = .slice a ls.length cap ∧ ls.length ≤ cap ∧ cap ≤ maxLen ∧ ∀ i, i < ls.length → (∃ x, a = some x ∧ w.cell? (x.add i) = some (vs i)) ∧ Reads .u8 w (vs i) (ls.getD i []) ∧ ∀ y ∈ ls.getD i [], 0 ≤ y ∧ y ≤ 255
theorem InLists.plain {w : World} {v : Value} {ls : List (List Int)} (h : InLists w v ls) (hn : 0 < ls.length) :
    ∃ (b off cap : Nat) (vs : Nat → Value), v = .slice (some ⟨b, off, none⟩) ls.length cap ∧ ls.length ≤ cap ∧ cap ≤ maxLen ∧ b < w.heap.size ∧ ∀ i, i < ls.length → w.cell? ⟨b, off + i, none⟩ = some (vs i) ∧ Reads .u8 w (vs i) (ls.getD i []) ∧ ∀ y ∈ ls.getD i [], 0 ≤ y ∧ y ≤ 255 := by
  obtain ⟨a, cap, vs, rfl, hc, hm, hel⟩ := h
  obtain ⟨⟨x, rfl, h0⟩, _⟩ := hel 0 hn
  obtain ⟨b, off, spot⟩ := x
  have hs : spot = none := by simpa [Addr.add] using World.cell?_spot h0
  subst hs
  refine ⟨b, off, cap, vs, rfl, hc, hm, World.block_lt_of_cell? w _ h0, fun i hi => ?_⟩
  obtain ⟨⟨x, hx, h1⟩, h2, h3⟩ := hel i hi
  injection hx with hx
  subst hx
  have hadd : (⟨b, off, none⟩ : Addr).add i = ⟨b, off + i, none⟩ := by unfold Addr.add; split <;> simp_all
  rw [hadd] at h1
  exact ⟨h1, h2, h3⟩

theorem Try.infoI : (Try.prog.info? 3).map (fun i => (i.zero, i.size, i.bytes)) = some (some (.int .i64 0), 1, 8) := by kernel_rfl
theorem own_apart3 {w : World} {b b' n n' : Nat} {v v' : Value} {xs xs' : List Value} (h : w.ownsRow b 5 1 v n xs) (h' : w.ownsRow b' 3 1 v' n' xs') : (v.ownBlock = none ∨ v.ownBlock ≠ v'.ownBlock) ∧ (v'.ownBlock = none ∨ v'.ownBlock ≠ v.ownBlock) := by
  rcases h.2 with ⟨hv, _⟩ | ⟨g, cap, cur, hv, _, hgg, _⟩
  · subst hv
    refine ⟨.inl rfl, ?_⟩
    rcases h'.2 with ⟨hv', _⟩ | ⟨g', cap', cur', hv', _, hgg', _⟩
    · subst hv'; exact .inl rfl
    · subst hv'; exact .inr (by simp [Value.ownBlock])
  · subst hv
    rcases h'.2 with ⟨hv', _⟩ | ⟨g', cap', cur', hv', _, hgg', _⟩
    · subst hv'; exact ⟨.inr (by simp [Value.ownBlock]), .inl rfl⟩
    · subst hv'
      have hne : g ≠ g' := fun e => by
        subst e
        rw [hgg] at hgg'
        injection hgg' with hgg'
        injection hgg' with _ ht _
        exact absurd ht (by decide)
      exact ⟨.inr (by simp [Value.ownBlock, hne]), .inr (by simp [Value.ownBlock, Ne.symm hne])⟩
theorem wpList_append_ints {w : World} {ops : Array Oper} {rest : List Oper} {o : Oper} {a : Act} {Q : Exit → Act → World → Prop} (hgd : o.guard = none) (s x : Operand)
    (ho : o.op = .call { callee := .builtin .append, args := #[s, x], argTypes := #[24, 24] })
    (base : Nat) (v : Value) (xs : List Int) (hs : a.eval s = v) (hown : w.ownsRow base 3 1 v xs.length (xs.map (Value.int .i64)))
    (g : Nat) (n : Int) (hx : a.eval x = .slice (some ⟨g, 0, none⟩) 1 1) (hcell : w.cell? ⟨g, 0, none⟩ = some (.int .i64 n))
    (hlen : (xs.length + 1) * 8 ≤ 140737488355328) (hbase : base ≤ w.heap.size)
    (h : ∀ v' w', w'.ownsRow base 3 1 v' (xs ++ [n]).length ((xs ++ [n]).map (Value.int .i64)) → Below base w w' → w.grownBy w' v.ownBlock → wpList Try.prog ops Q rest (a.put o.dst v') w') : wpList Try.prog ops Q (o :: rest) a w := by
  obtain ⟨i0, hi, hz0, hz1, hz2⟩ := info_parts Try.infoI
  refine wpList_append_own w hgd s x 24 ho base 3 i0 (.int .i64 0) 1 8 Try.underlying24 hi hz0 hz1 hz2 rfl (by decide) v xs.length _ hs hown ⟨g, 0, none⟩ 1 1 [.int .i64 n] hx rfl ?_ ?_ (by unfold maxLen; omega) hlen hbase ?_
  · intro j u hj
    cases j with
    | zero =>
      simp at hj
      subst hj
      have hadd : (⟨g, 0, none⟩ : Addr).add 0 = ⟨g, 0, none⟩ := by unfold Addr.add; split <;> simp_all
      rw [hadd]; exact hcell
    | succ j => simp at hj
  · intro u hu
    simp at hu
    subst hu
    rfl
  · intro v' w' h2 h3 _
    exact h v' w' (by simpa using h2) ((Below.refl _ _).grown h3 hbase (fun k hk => (hown.lt k hk).1)) h3

/-- The first k payloads, sixty bytes of each at the most. -/
def pay (ls : List (List Int)) (k : Nat) : List (List Int) := (List.range k).map fun i => (ls.getD i []).take 60
/-- Where the first k frames end. -/
def endsOf (ls : List (List Int)) (k : Nat) : List Int := (List.range k).map fun i => ((cat (pay ls (i + 1))).length : Int)
theorem pay_succ (ls : List (List Int)) (k : Nat) : pay ls (k + 1) = pay ls k ++ [(ls.getD k []).take 60] := by simp [pay, List.range_succ]
theorem ends_succ (ls : List (List Int)) (k : Nat) : endsOf ls (k + 1) = endsOf ls k ++ [((cat (pay ls (k + 1))).length : Int)] := by simp [endsOf, List.range_succ]
theorem pay_len (ls : List (List Int)) (k : Nat) : (pay ls k).length = k := by simp [pay]
theorem ends_len (ls : List (List Int)) (k : Nat) : (endsOf ls k).length = k := by simp [endsOf]
theorem cat_pay_succ (ls : List (List Int)) (k : Nat) : cat (pay ls (k + 1)) = cat (pay ls k) ++ wrap ((ls.getD k []).take 60) := by
  rw [pay_succ, cat_append]; simp [cat]
theorem pay_take {ls : List (List Int)} {j k : Nat} (h : j ≤ k) : (pay ls k).take j = pay ls j := by
  unfold pay
  rw [← List.map_take, List.take_range, Nat.min_eq_left h]
theorem pay_getD {ls : List (List Int)} {i k : Nat} (h : i < k) : (pay ls k).getD i [] = (ls.getD i []).take 60 := by
  rw [List.getD_eq_getElem?_getD, pay, List.getElem?_map, List.getElem?_range h]; rfl
theorem ends_getD {ls : List (List Int)} {i k : Nat} (h : i < k) : (endsOf ls k).getD i 0 = ((cat (pay ls (i + 1))).length : Int) := by
  rw [List.getD_eq_getElem?_getD, endsOf, List.getElem?_map, List.getElem?_range h]; rfl
theorem pay_small {ls : List (List Int)} {k : Nat} : ∀ p ∈ pay ls k, p.length ≤ 60 := by
  intro p hp
  obtain ⟨i, _, rfl⟩ := List.mem_map.1 hp
  rw [List.length_take]; omega
theorem cat_step (ls : List (List Int)) (k : Nat) : (cat (pay ls k)).length + 5 ≤ (cat (pay ls (k + 1))).length ∧ (cat (pay ls (k + 1))).length ≤ (cat (pay ls k)).length + 74 := by
  have h1 := wrap_len ((ls.getD k []).take 60)
  have h2 := put_len (((ls.getD k []).take 60).length : Int)
  have h3 : ((ls.getD k []).take 60).length ≤ 60 := by rw [List.length_take]; omega
  rw [cat_pay_succ, List.length_append]
  omega
theorem cat_mono {ls : List (List Int)} {a b : Nat} (h : a ≤ b) : (cat (pay ls a)).length ≤ (cat (pay ls b)).length := by
  induction b with
  | zero => have : a = 0 := by omega
            subst this; exact Nat.le_refl _
  | succ b ih =>
    rcases Nat.lt_or_ge a (b + 1) with h1 | h1
    · have := ih (by omega); have := cat_step ls b; omega
    · have : a = b + 1 := by omega
      subst this; exact Nat.le_refl _
theorem cat_bound (ls : List (List Int)) : ∀ k, (cat (pay ls k)).length ≤ 74 * k
  | 0 => by simp [pay, cat]
  | k + 1 => by have := cat_bound ls k; have := cat_step ls k; omega
theorem cat_pay_bytes {ls : List (List Int)} {k : Nat} (h : ∀ i, i < k → ∀ y ∈ ls.getD i [], 0 ≤ y ∧ y ≤ 255) : ∀ x ∈ cat (pay ls k), 0 ≤ x ∧ x ≤ 255 := by
  refine cat_bytes _ fun p hp => ?_
  have hs := pay_small p hp
  obtain ⟨i, hi, rfl⟩ := List.mem_map.1 hp
  exact ⟨fun x hx => h i (List.mem_range.1 hi) x (List.mem_of_mem_take hx), by omega⟩
/-- Of the first c bytes of t frames just the first j are had. -/
theorem torn_at (ls : List (List Int)) (t c : Nat) (hc : c ≤ (cat (pay ls t)).length) : ∃ j, j ≤ t ∧ allF ((cat (pay ls t)).take c) = (pay ls j, (cat (pay ls j)).length) ∧ (∀ i, i < j → (cat (pay ls (i + 1))).length ≤ c) ∧ ∀ i, j ≤ i → i < t → c < (cat (pay ls (i + 1))).length := by
  obtain ⟨j, h1, h2, h3⟩ := cut_at (pay ls t) c
  rw [pay_len] at h1
  rw [pay_take h1] at h2
  refine ⟨j, h1, ?_, fun i hi => Nat.le_trans (cat_mono (by omega)) h2, fun i hi hit => ?_⟩
  · have := allF_cat (ps := pay ls t) (k := c) (j := j) (fun p hp => by have := pay_small p hp; omega) hc (by rw [pay_len]; exact h1) (by rw [pay_take h1]; exact h2) h3
    rwa [pay_take h1] at this
  · have hjt : j < t := by omega
    have hd : (pay ls t).drop j = (ls.getD j []).take 60 :: (pay ls t).drop (j + 1) := by
      rw [List.drop_eq_getElem_cons (by rw [pay_len]; exact hjt)]
      congr 1
      simp [pay]
    have h4 := h3 _ _ hd
    rw [pay_take h1] at h4
    have h5 : (cat (pay ls (j + 1))).length = (cat (pay ls j)).length + (wrap ((ls.getD j []).take 60)).length := by rw [cat_pay_succ, List.length_append]
    have h6 : (cat (pay ls (j + 1))).length ≤ (cat (pay ls (i + 1))).length := cat_mono (by omega)
    omega
theorem reads_full {k : IntKind} {w : World} {b off cap n : Nat} {xs : List Int} (hc : xs.length ≤ cap) (hm : cap ≤ maxLen) (hn : n ≤ xs.length) (h : ∀ i, i < xs.length → w.cell? ⟨b, off + i, none⟩ = some (.int k (xs.getD i 0))) :
    Reads k w (.slice (some ⟨b, off, none⟩) n n) (xs.take n) := by
  obtain ⟨a, cap', hv, h1, h2, h3, h4⟩ := reads_upto hc hm hn h
  injection hv with h5 h6 h7
  subst h5
  have hl : (xs.take n).length = n := List.length_take_of_le hn
  refine ⟨_, n, by rw [hl], by omega, by omega, fun hx => (by cases hx), h4⟩
/-- The less of two numbers (a name of its own, which the walk does not take apart). -/
def low (i j : Nat) : Nat := if i < j then i else j
theorem low_lt {i j : Nat} (h : i < j) : low i j = i := if_pos h
theorem low_ge {i j : Nat} (h : j ≤ i) : low i j = j := if_neg (by omega)
theorem low_succ {i j : Nat} (h : i < j) : low (i + 1) j = i + 1 := by
  unfold low; split <;> omega
theorem reads_own_take {w : World} {base g n cap c : Nat} {xs : List Int} (h : w.ownsRow base 5 1 (.slice (some ⟨g, 0, none⟩) n cap) xs.length (xs.map (Value.int .u8))) (hc : c ≤ xs.length) : Reads .u8 w (.slice (some ⟨g, 0, none⟩) c c) (xs.take c) := by
  have hl : (xs.take c).length = c := List.length_take_of_le hc
  have hm : xs.length ≤ maxLen := by
    rcases own_cases h with ⟨h1, _, _⟩ | ⟨g', cap', h1, _, _, h2, h3, _⟩
    · cases h1
    · omega
  refine ⟨some ⟨g, 0, none⟩, c, by rw [hl], by omega, by omega, fun hx => (by cases hx), ?_⟩
  intro x hx i hi
  injection hx with hx
  subst hx
  rw [hl] at hi
  have := h.cells rfl i (.int .u8 (xs.getD i 0)) (by rw [List.getElem?_map, List.getElem?_eq_getElem (show i < xs.length by omega)]; simp [List.getD_eq_getElem?_getD, List.getElem?_eq_getElem (show i < xs.length by omega)])
  rw [this, List.getD_eq_getElem?_getD, List.getD_eq_getElem?_getD, List.getElem?_take_of_lt hi]
theorem own_cell64 {w : World} {base g n cap i : Nat} {xs : List Int} (h : w.ownsRow base 3 1 (.slice (some ⟨g, 0, none⟩) n cap) xs.length (xs.map (Value.int .i64))) (hi : i < xs.length) : w.cell? ⟨g, i, none⟩ = some (.int .i64 (xs.getD i 0)) := by
  have hadd : (⟨g, 0, none⟩ : Addr).add i = ⟨g, i, none⟩ := by unfold Addr.add; split <;> simp_all
  have := h.cells rfl i (.int .i64 (xs.getD i 0)) (by rw [List.getElem?_map, List.getElem?_eq_getElem hi]; simp [List.getD_eq_getElem?_getD, List.getElem?_eq_getElem hi])
  rwa [hadd] at this
/-- A list of slices of the call's own: its shape, its elements. -/
theorem Lists.shape {w : World} {base : Nat} {v : Value} {out : List (List Int)} (h : Lists w base v out) :
    ∃ (ga : Option Addr) (gc : Nat) (vs : List Value), v = .slice ga out.length gc ∧ out.length ≤ gc ∧ gc ≤ maxLen ∧ ∀ i, i < out.length → ∃ g, ga = some ⟨g, 0, none⟩ ∧ g < w.heap.size ∧ w.cell? ⟨g, i, none⟩ = some (vs.getD i undef) ∧ Reads .u8 w (vs.getD i undef) (out.getD i []) := by
  obtain ⟨vs, hl, o, hel⟩ := h
  rcases own_cases o with ⟨h1, h2, h3⟩ | ⟨g, cap, h1, _, hg, hc, hm, hcell⟩
  · exact ⟨none, 0, vs, by rw [h1, h2], by omega, by simp [maxLen], fun i hi => by omega⟩
  · refine ⟨some ⟨g, 0, none⟩, cap, vs, h1, hc, hm, fun i hi => ⟨g, rfl, hg, ?_, reads_own (hel i hi)⟩⟩
    have hadd : (⟨g, 0, none⟩ : Addr).add i = ⟨g, i, none⟩ := by unfold Addr.add; split <;> simp_all
    have := hcell i (vs.getD i undef) (by rw [List.getElem?_eq_getElem (by omega), List.getD_eq_getElem?_getD, List.getElem?_eq_getElem (show i < vs.length by omega)]; rfl)
    rwa [hadd] at this
end Go.Proofs.Ytjagefchoggbaab
