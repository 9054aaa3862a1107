/-
  P17 as functions: a move's line, what Show tells, what Read tells; and that what is shown is read and what is read is shown.
-/
import Derived.Test.YtdeghndcglgfkaaDoorDigMath
namespace Go.Proofs.YtdeghndcglgfkaaDoor
set_option maxRecDepth 100000

/-- A move: its kind, At, Keep. -/
abbrev Mv := Int × Int × Int
/-- P17.1: a kind, its word, and how many numbers follow it. -/
abbrev Fm := Int × List UInt8 × Nat
def formsL : List Fm := [(1, [119, 111, 114, 107], 1), (2, [99, 97, 114, 114, 121], 1), (3, [108, 111, 115, 101], 1), (4, [100, 111, 117, 98, 108, 101], 1), (5, [97, 108, 108], 0), (6, [99, 114, 97, 115, 104], 2), (7, [115, 116, 97, 114, 116], 1), (8, [108, 101, 97, 100], 0)]
def findK (k : Int) : Option Fm := formsL.find? fun f => f.1 == k
def findW (w : List UInt8) : Int := match formsL.find? fun f => f.2.1 == w with
  | some f => f.1
  | none => 0
/-- A number that must not stand there: of a kind that has j numbers, the i-th. -/
def plB (j i : Nat) (n : Int) : Bool := decide (n < 0) || decide (1152921504606846976 < n) || (decide (j ≤ i) && n != 0)
/-- What the i-th number of a kind that has j of them adds to the line. -/
def plP (j i : Nat) (n : Int) : List UInt8 := if i < j then 32 :: Lib.itoa n else []
/-- P17.2: why a move has no line. -/
def plE (m : Mv) : Int := match findK m.1 with
  | none => 3
  | some f => if plB f.2.2 0 m.2.1 || plB f.2.2 1 m.2.2 then 2 else 0
/-- P17.2: its line. -/
def plW (m : Mv) : List UInt8 := match findK m.1 with
  | none => []
  | some f => f.2.1 ++ plP f.2.2 0 m.2.1 ++ plP f.2.2 1 m.2.2 ++ [10]
/-- Why the first move without a line has none. -/
def firE : List Mv → Int
  | [] => 0
  | m :: r => if plE m = 0 then firE r else plE m
/-- P17.3. -/
def shwE (l : List Mv) : Int := if 100000 < l.length then 1 else firE l
def shwW (l : List Mv) : List UInt8 := if shwE l = 0 then l.flatMap plW else []

theorem fir_take : ∀ (l : List Mv) (k : Nat), (∀ m ∈ l.take k, plE m = 0) → firE l = firE (l.drop k)
  | [], k, _ => by simp
  | m :: r, 0, _ => by simp
  | m :: r, k + 1, h => by
    have h1 := h m (by simp)
    simp only [firE, List.drop_succ_cons]
    rw [if_pos h1]
    exact fir_take r k fun x hx => h x (by simp [hx])
theorem fir_all {l : List Mv} (h : ∀ m ∈ l, plE m = 0) : firE l = 0 := by
  induction l with
  | nil => rfl
  | cons m r ih => rw [firE, if_pos (h m (by simp))]; exact ih fun x hx => h x (by simp [hx])
theorem fir_ok : ∀ {l : List Mv}, firE l = 0 → ∀ m ∈ l, plE m = 0
  | [], _, m, hm => by simp at hm
  | x :: r, h, m, hm => by
    unfold firE at h
    by_cases hx : plE x = 0
    · rw [if_pos hx] at h
      rcases List.mem_cons.1 hm with rfl | hm
      · exact hx
      · exact fir_ok h m hm
    · rw [if_neg hx] at h
      exact absurd h hx
theorem fir_at {l : List Mv} {k : Nat} {m : Mv} (h : ∀ x ∈ l.take k, plE x = 0) (hk : l[k]? = some m) (hm : plE m ≠ 0) : firE l = plE m := by
  have hl : k < l.length := (List.getElem?_eq_some_iff.1 hk).1
  rw [fir_take l k h, List.drop_eq_getElem_cons hl]
  have : l[k] = m := by rw [List.getElem?_eq_getElem hl] at hk; exact Option.some.inj hk
  rw [this, firE, if_neg hm]

/-! What is shown is guessed. -/
theorem forms_all : ∀ f ∈ formsL, (32 : UInt8) ∉ f.2.1 ∧ (10 : UInt8) ∉ f.2.1 ∧ findW f.2.1 = f.1 ∧ findK f.1 = some f ∧ f.2.2 ≤ 2 ∧ f.2.1.length ≤ 6 ∧ f.1 ≠ 0 := by decide
theorem findK_mem {k : Int} {f : Fm} (h : findK k = some f) : f ∈ formsL ∧ f.1 = k := by
  unfold findK at h
  exact ⟨List.mem_of_find?_eq_some h, by simpa using List.find?_some h⟩
/-- A move that has a line. -/
theorem plE_ok {m : Mv} (h : plE m = 0) : ∃ f, findK m.1 = some f ∧ f ∈ formsL ∧ f.1 = m.1 ∧ (0 ≤ m.2.1 ∧ m.2.1 ≤ 1152921504606846976 ∧ (f.2.2 = 0 → m.2.1 = 0)) ∧ (0 ≤ m.2.2 ∧ m.2.2 ≤ 1152921504606846976 ∧ (f.2.2 ≤ 1 → m.2.2 = 0)) := by
  unfold plE at h
  cases hf : findK m.1 with
  | none => rw [hf] at h; simp at h
  | some f =>
    obtain ⟨h1, h2⟩ := findK_mem hf
    rw [hf] at h
    simp only at h
    split at h
    · exact absurd h (by decide)
    · rename_i hb
      simp only [Bool.or_eq_true, not_or, plB, decide_eq_true_eq, Bool.and_eq_true, bne_iff_ne, ne_eq, not_and, Decidable.not_not] at hb
      obtain ⟨⟨⟨a1, a2⟩, a3⟩, ⟨b1, b2⟩, b3⟩ := hb
      exact ⟨f, rfl, h1, h2, ⟨by omega, by omega, fun e => a3 (by omega)⟩, ⟨by omega, by omega, fun e => b3 (by omega)⟩⟩
theorem plE_yes {m : Mv} {f : Fm} (hf : findK m.1 = some f) (h1 : 0 ≤ m.2.1 ∧ m.2.1 ≤ 1152921504606846976 ∧ (f.2.2 = 0 → m.2.1 = 0)) (h2 : 0 ≤ m.2.2 ∧ m.2.2 ≤ 1152921504606846976 ∧ (f.2.2 ≤ 1 → m.2.2 = 0)) : plE m = 0 := by
  unfold plE
  rw [hf]
  simp only
  rw [if_neg]
  simp only [Bool.or_eq_true, not_or, plB, decide_eq_true_eq, Bool.and_eq_true, bne_iff_ne, ne_eq, not_and, Decidable.not_not]
  exact ⟨⟨⟨by omega, by omega⟩, fun e => h1.2.2 (by omega)⟩, ⟨by omega, by omega⟩, fun e => h2.2.2 (by omega)⟩
/-- A line without its line feed. -/
def plS (m : Mv) : List UInt8 := match findK m.1 with
  | none => []
  | some f => f.2.1 ++ plP f.2.2 0 m.2.1 ++ plP f.2.2 1 m.2.2
theorem plW_eq {m : Mv} (h : plE m = 0) : plW m = plS m ++ [10] := by
  obtain ⟨f, hf, _⟩ := plE_ok h
  unfold plW plS
  rw [hf]
theorem itoa_no {n : Int} (h : 0 ≤ n) {c : UInt8} (hc : c.toNat < 48) : c ∉ Lib.itoa n := by rw [itoa_nat n h]; exact dec_not _ _ hc
theorem plP_no10 {j i : Nat} {n : Int} (h : 0 ≤ n) : (10 : UInt8) ∉ plP j i n := by
  unfold plP
  split
  · simp only [List.mem_cons, not_or]
    exact ⟨by decide, itoa_no h (by decide)⟩
  · simp
theorem plS_no10 {m : Mv} (h : plE m = 0) : (10 : UInt8) ∉ plS m := by
  obtain ⟨f, hf, hm, _, h1, h2⟩ := plE_ok h
  unfold plS
  rw [hf]
  simp only [List.mem_append, not_or]
  exact ⟨⟨(forms_all f hm).2.1, plP_no10 h1.1⟩, plP_no10 h2.1⟩
theorem cut_space (l r : List UInt8) (h : 32 ∉ l) : Lib.cut (l ++ 32 :: r) [32] = (l, r, true) := by
  unfold Lib.cut
  rw [index_hit 32 r l h, if_pos (by omega)]
  simp
theorem cut_none (l : List UInt8) (h : 32 ∉ l) : Lib.cut l [32] = (l, [], false) := by
  unfold Lib.cut
  rw [index_miss 32 l h, if_neg (by omega)]
theorem trim_lf (l : List UInt8) : Lib.trimSuffix (l ++ [10]) [10] = l := by
  unfold Lib.trimSuffix Lib.hasSuffix
  have : ([10] : List UInt8).isSuffixOf (l ++ [10]) = true := by
    rw [List.isSuffixOf_iff_suffix]
    exact List.suffix_append _ _
  rw [if_pos this]
  simp
/-- The move that a line tells. -/
def guessM (p : List UInt8) : Mv :=
  (findW (Lib.cut (Lib.trimSuffix p [10]) [32]).1, atoiV (Lib.cut (Lib.cut (Lib.trimSuffix p [10]) [32]).2.1 [32]).1, atoiV (Lib.cut (Lib.cut (Lib.trimSuffix p [10]) [32]).2.1 [32]).2.1)
theorem atoi_nil : atoiV [] = 0 := by decide
theorem guess_line {m : Mv} (h : plE m = 0) : guessM (plW m) = m := by
  obtain ⟨f, hf, hm, hk, h1, h2⟩ := plE_ok h
  obtain ⟨w32, w10, hw, _, hj, _⟩ := forms_all f hm
  obtain ⟨k, a, b⟩ := m
  simp only at hf hk h1 h2
  unfold guessM
  rw [plW_eq h, trim_lf]
  unfold plS
  rw [hf]
  simp only
  have n1 : (32 : UInt8) ∉ Lib.itoa a := itoa_no h1.1 (by decide)
  have n2 : (32 : UInt8) ∉ Lib.itoa b := itoa_no h2.1 (by decide)
  have e1 := atoi_itoa a h1.1 (by omega)
  have e2 := atoi_itoa b h2.1 (by omega)
  obtain j0 | j1 | j2 : f.2.2 = 0 ∨ f.2.2 = 1 ∨ f.2.2 = 2 := by omega
  · rw [j0]
    simp only [plP, Nat.lt_irrefl, if_false, List.append_nil, Nat.not_lt_zero]
    rw [cut_none _ w32]
    simp only
    rw [cut_none [] (by simp)]
    simp only [atoi_nil]
    rw [hw, hk, h1.2.2 j0, h2.2.2 (by omega)]
  · rw [j1]
    simp only [plP, Nat.lt_irrefl, if_false, List.append_nil, Nat.zero_lt_one, if_true]
    rw [cut_space _ _ w32]
    simp only
    rw [cut_none _ n1]
    simp only [atoi_nil]
    rw [hw, hk, e1, h2.2.2 (by omega)]
  · rw [j2]
    simp only [plP, Nat.one_lt_two, Nat.zero_lt_two, if_true, List.append_assoc, List.cons_append]
    rw [cut_space _ _ w32]
    simp only
    rw [cut_space _ _ n1]
    simp only
    rw [hw, hk, e1, e2]

/-! The lines of a text, with their line feeds. -/
/-- How long the next line is. -/
def nxtL (l : List UInt8) : Nat := if Lib.indexByte l 10 + 1 = 0 then l.length else (Lib.indexByte l 10 + 1).toNat
def pcs : Nat → List UInt8 → List (List UInt8)
  | 0, _ => []
  | k + 1, l => if l = [] then [] else l.take (nxtL l) :: pcs k (l.drop (nxtL l))
theorem ixb_lt (c : UInt8) : ∀ l : List UInt8, Lib.indexByte l c < l.length
  | [] => by simp [Lib.indexByte]
  | b :: l => by
    have := ixb_lt c l
    simp only [Lib.indexByte, List.length_cons]
    split
    · omega
    · split
      · omega
      · omega
theorem nxt_bound {l : List UInt8} (h : l ≠ []) : 0 < nxtL l ∧ nxtL l ≤ l.length := by
  have h1 : 0 < l.length := List.length_pos_iff.2 h
  have h2 := ixb_lt 10 l
  have h3 := Lib.indexByte_ge l 10
  unfold nxtL
  split <;> omega
theorem ixb_hit (c : UInt8) (r : List UInt8) : ∀ l : List UInt8, c ∉ l → Lib.indexByte (l ++ c :: r) c = l.length
  | [], _ => by simp [Lib.indexByte]
  | b :: l, h => by
    have hb : (b == c) = false := by rw [beq_eq_false_iff_ne]; intro e; exact h (by simp [e])
    have ih := ixb_hit c r l (fun hc => h (by simp [hc]))
    simp only [List.cons_append, Lib.indexByte, ih, hb]
    rw [if_neg (by simp), if_neg (by simp)]
    simp
theorem nxt_hit (l r : List UInt8) (h : 10 ∉ l) : nxtL (l ++ [10] ++ r) = (l ++ [10]).length := by
  unfold nxtL
  rw [List.append_assoc, List.singleton_append, ixb_hit 10 r l h, if_neg (by omega)]
  simp
theorem pcs_join : ∀ (k : Nat) (l : List UInt8), l.length ≤ k → (pcs k l).flatten = l
  | 0, l, h => by rw [List.eq_nil_of_length_eq_zero (by omega : l.length = 0)]; rfl
  | k + 1, l, h => by
    unfold pcs
    split
    · rename_i e; rw [e]; rfl
    · rename_i hne
      have := nxt_bound hne
      rw [List.flatten_cons, pcs_join k _ (by simp; omega), List.take_append_drop]
theorem pcs_flat : ∀ (l : List Mv) (k : Nat), (l.flatMap plW).length ≤ k → (∀ m ∈ l, plE m = 0) → pcs k (l.flatMap plW) = l.map plW
  | [], k, _, _ => by cases k <;> simp [pcs]
  | m :: r, k, hk, h => by
    have hm := h m (by simp)
    have e : (m :: r).flatMap plW = plS m ++ [10] ++ r.flatMap plW := by rw [List.flatMap_cons, plW_eq hm]
    rw [e] at hk ⊢
    obtain ⟨k, rfl⟩ : ∃ j, k = j + 1 := ⟨k - 1, by simp at hk; omega⟩
    unfold pcs
    rw [if_neg (by simp), nxt_hit _ _ (plS_no10 hm)]
    rw [List.take_left, List.drop_left, pcs_flat r k (by simp only [List.length_append, List.length_cons, List.length_nil] at hk; omega) (fun x hx => h x (by simp [hx])), List.map_cons, plW_eq hm]
/-- A piece that is a move's line. -/
def okP (p : List UInt8) : Prop := plE (guessM p) = 0 ∧ plW (guessM p) = p
theorem okP_line {m : Mv} (h : plE m = 0) : okP (plW m) := by
  unfold okP
  rw [guess_line h]
  exact ⟨h, rfl⟩
/-- P17.4: what Read tells of a text. -/
def RdS (L : List UInt8) (l : List Mv) (e : Int) : Prop :=
  (5000000 < L.length ∧ l = [] ∧ e = 1) ∨ (L.length ≤ 5000000 ∧
    ((∃ q : List Mv, (∀ m ∈ q, plE m = 0) ∧ q.flatMap plW = L ∧ ((100000 < q.length ∧ l = [] ∧ e = 1) ∨ (q.length ≤ 100000 ∧ l = q ∧ e = 0))) ∨
     ((∀ q : List Mv, (∀ m ∈ q, plE m = 0) → q.flatMap plW ≠ L) ∧ l = [] ∧ e = 3)))
theorem flat_uniq {q r : List Mv} (hq : ∀ m ∈ q, plE m = 0) (hr : ∀ m ∈ r, plE m = 0) (h : q.flatMap plW = r.flatMap plW) : q = r := by
  have h1 := pcs_flat q _ (Nat.le_refl _) hq
  have h2 := pcs_flat r (q.flatMap plW).length (by rw [h]; exact Nat.le_refl _) hr
  rw [h] at h1
  rw [h] at h2
  have e : q.map plW = r.map plW := h1.symm.trans h2
  have g : ∀ s : List Mv, (∀ m ∈ s, plE m = 0) → (s.map plW).map guessM = s := by
    intro s hs
    rw [List.map_map]
    conv => rhs; rw [← List.map_id s]
    exact List.map_congr_left fun m hm => guess_line (hs m hm)
  rw [← g q hq, ← g r hr, e]
theorem RdS.uniq {L : List UInt8} {l l' : List Mv} {e e' : Int} (h : RdS L l e) (h' : RdS L l' e') : l = l' ∧ e = e' := by
  rcases h with ⟨b, rfl, rfl⟩ | ⟨b, h⟩
  · rcases h' with ⟨_, rfl, rfl⟩ | ⟨b', _⟩
    · exact ⟨rfl, rfl⟩
    · omega
  · rcases h' with ⟨b', _⟩ | ⟨_, h'⟩
    · omega
    · rcases h with ⟨q, hq, hL, h⟩ | ⟨hn, rfl, rfl⟩
      · rcases h' with ⟨r, hr, hL', h'⟩ | ⟨hn, _⟩
        · have := flat_uniq hq hr (hL.trans hL'.symm)
          subst this
          rcases h with ⟨c, rfl, rfl⟩ | ⟨c, rfl, rfl⟩ <;> rcases h' with ⟨c', rfl, rfl⟩ | ⟨c', rfl, rfl⟩
          · exact ⟨rfl, rfl⟩
          · omega
          · omega
          · exact ⟨rfl, rfl⟩
        · exact absurd hL (hn q hq)
      · rcases h' with ⟨r, hr, hL', h'⟩ | ⟨_, rfl, rfl⟩
        · exact absurd hL' (hn r hr)
        · exact ⟨rfl, rfl⟩
/-- All pieces are lines. -/
theorem pcs_all {L : List UInt8} {P : List (List UInt8)} (hP : P = pcs L.length L) (h : ∀ p ∈ P, okP p) : (∀ m ∈ P.map guessM, plE m = 0) ∧ (P.map guessM).flatMap plW = L := by
  refine ⟨fun m hm => ?_, ?_⟩
  · obtain ⟨p, hp, rfl⟩ := List.mem_map.1 hm
    exact (h p hp).1
  · have e : (P.map guessM).flatMap plW = P.flatten := by
      rw [List.flatMap_map]
      show P.flatMap (fun x => plW (guessM x)) = P.flatten
      have : ∀ Q : List (List UInt8), (∀ p ∈ Q, okP p) → Q.flatMap (fun x => plW (guessM x)) = Q.flatten := by
        intro Q
        induction Q with
        | nil => intro _; rfl
        | cons p Q ih =>
          intro hQ
          rw [List.flatMap_cons, List.flatten_cons, (hQ p (by simp)).2, ih fun x hx => hQ x (by simp [hx])]
      exact this P h
    rw [e, hP, pcs_join _ _ (Nat.le_refl _)]
/-- One is none. -/
theorem pcs_bad {L : List UInt8} {p : List UInt8} (hp : p ∈ pcs L.length L) (h : ¬ okP p) : ∀ q : List Mv, (∀ m ∈ q, plE m = 0) → q.flatMap plW ≠ L := by
  intro q hq e
  rw [← e, pcs_flat q _ (Nat.le_refl _) hq] at hp
  obtain ⟨m, hm, rfl⟩ := List.mem_map.1 hp
  exact h (okP_line (hq m hm))
theorem pcs_len : ∀ (k : Nat) (l : List UInt8), (pcs k l).length ≤ l.length
  | 0, l => by simp [pcs]
  | k + 1, l => by
    unfold pcs
    split
    · simp
    · rename_i hne
      have := nxt_bound hne
      have := pcs_len k (l.drop (nxtL l))
      simp at this ⊢
      omega

/-! How long a line is. -/
theorem plP_len {j i : Nat} {n : Int} (h : 0 ≤ n) (h1 : n ≤ 1152921504606846976) : (plP j i n).length ≤ 20 := by
  unfold plP
  split
  · have := itoa_short 18 n h (by omega)
    simp; omega
  · simp
theorem plW_len {m : Mv} (h : plE m = 0) : (plW m).length ≤ 47 := by
  obtain ⟨f, hf, hm, _, h1, h2⟩ := plE_ok h
  have h3 := (forms_all f hm).2.2.2.2.2.1
  have h4 := plP_len (j := f.2.2) (i := 0) h1.1 h1.2.1
  have h5 := plP_len (j := f.2.2) (i := 1) h2.1 h2.2.1
  unfold plW
  rw [hf]
  simp
  omega
theorem plL_len : ∀ l : List Mv, (∀ m ∈ l, plE m = 0) → (l.flatMap plW).length ≤ 47 * l.length
  | [], _ => by simp
  | m :: r, h => by
    have h1 := plW_len (h m (by simp))
    have h2 := plL_len r fun x hx => h x (by simp [hx])
    rw [List.flatMap_cons, List.length_append, List.length_cons]
    omega
end Go.Proofs.YtdeghndcglgfkaaDoor
