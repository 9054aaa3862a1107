/-
  A queue that is filled piece by piece, in plain mathematics.
-/
import Derived.Test.YtihghhmhgakkaaaRunPut
import Derived.Test.YtihghhmhgakkaaaQueueOpen
namespace Go.Proofs.Ytihghhmhgakkaaa
set_option maxRecDepth 100000

/-- What is read hangs on the sum alone. -/
theorem unpF_room : ∀ {rs : List (List Int)} {r r' : Nat} {f : List (List Ml)}, unpF r rs = some f → sumM f ≤ r' → unpF r' rs = some f
  | [], r, r', f, h, _ => by
    injection h with h
    subst h
    rfl
  | b :: bs, r, r', f, h, hs => by
    rw [unpF] at h ⊢
    cases hr : runF b with
    | none => rw [hr] at h; cases h
    | some l =>
      rw [hr] at h
      simp only at h ⊢
      by_cases hl : l.length ≤ r
      · rw [if_pos hl] at h
        cases hu : unpF (r - l.length) bs with
        | none => rw [hu] at h; cases h
        | some g =>
          rw [hu] at h
          injection h with h
          have h : l :: g = f := h
          subst h
          have hsum : sumM (l :: g) = l.length + sumM g := by unfold sumM; simp
          rw [if_pos (by omega), unpF_room hu (r' := r' - l.length) (by omega)]
          rfl
      · rw [if_neg hl] at h; cases h
theorem unpF_snoc : ∀ {rs : List (List Int)} {r : Nat} {f : List (List Ml)} {b : List Int} {l : List Ml}, unpF r rs = some f → runF b = some l → sumM f + l.length ≤ r → unpF r (rs ++ [b]) = some (f ++ [l])
  | [], r, f, b, l, h, hb, hs => by
    injection h with h
    subst h
    rw [List.nil_append, unpF, hb]
    simp only
    have h0 : sumM ([] : List (List Ml)) = 0 := rfl
    rw [if_pos (by omega)]
    rfl
  | c :: bs, r, f, b, l, h, hb, hs => by
    rw [List.cons_append, unpF]
    rw [unpF] at h
    cases hr : runF c with
    | none => rw [hr] at h; cases h
    | some k =>
      rw [hr] at h
      simp only at h ⊢
      by_cases hl : k.length ≤ r
      · rw [if_pos hl] at h ⊢
        cases hu : unpF (r - k.length) bs with
        | none => rw [hu] at h; cases h
        | some g =>
          rw [hu] at h
          injection h with h
          have h : k :: g = f := h
          subst h
          have hsum : sumM (k :: g) = k.length + sumM g := by unfold sumM; simp
          rw [unpF_snoc hu hb (by omega)]
          rfl
      · rw [if_neg hl] at h; cases h
theorem valsC_put : ∀ (l : List Ml) (t : List Int), mayA l = true → valsC (l.map Prod.fst) (valsB l ++ t) = some (l, t)
  | [], t, _ => rfl
  | x :: l, t, h => by
    have hx : mayM x = true := mayA_iff.1 h x (by simp)
    have hl : mayA l = true := mayA_iff.2 fun m hm => mayA_iff.1 h m (by simp [hm])
    obtain ⟨_, _, h3, h4⟩ := mayM_iff.1 hx
    have e : valsB (x :: l) ++ t = put x.2 ++ (valsB l ++ t) := by unfold valsB; rw [List.flatMap_cons, List.append_assoc]
    rw [List.map_cons, e, valsC_yes (get_put _ h3 (by omega)), List.drop_left, valsC_put l t hl, wrap_lowId h3 h4]
    rfl
/-- A run's bytes are read as that run. -/
theorem runF_runB {l : List Ml} (h1 : mayA l = true) (h2 : srtMb l = true) (h3 : l.length ≤ 1000) (h4 : 1 ≤ l.length) : runF (runB l) = some l := by
  have hu : ungap (runB l) = (l.map Prod.fst, (gapsF (l.map Prod.fst) 0).length, 0) := by rw [runB_eq]; exact ungap_gaps _ (named_run h1 h2 h3)
  unfold runF
  rw [hu]
  rw [if_pos ⟨rfl, by simpa using h4, by simpa using h3⟩]
  simp only
  have e : (runB l).drop (gapsF (l.map Prod.fst) 0).length = valsB l := by rw [runB_eq, List.drop_left]
  rw [e]
  have := valsC_put l [] h1
  rw [List.append_nil] at this
  rw [this, endC_yes h1 h2]
theorem put_lowB {m : Ml} (h : mayM m = true) : ∀ x ∈ put m.2, 0 ≤ x ∧ x ≤ 255 := by
  have := mayM_iff.1 h
  exact put_bytes (by omega) (by omega)
theorem runB_lowB {l : List Ml} (h1 : mayA l = true) (h2 : srtMb l = true) (h3 : l.length ≤ 1000) : ∀ x ∈ runB l, 0 ≤ x ∧ x ≤ 255 := by
  intro x hx
  rw [runB_eq] at hx
  rcases List.mem_append.1 hx with hx | hx
  · exact gapsF_bytes (named_run h1 h2 h3) x hx
  · unfold valsB at hx
    obtain ⟨y, hy, hx⟩ := List.mem_flatMap.1 hx
    exact put_lowB (mayA_iff.1 h1 y hy) x hx
theorem runB_len {l : List Ml} (h3 : l.length ≤ 1000) : (runB l).length ≤ 30000 := by
  rw [runB_eq, List.length_append]
  have q1 := gapsF_len (l.map Prod.fst)
  have q2 := valsB_len l
  rw [List.length_map] at q1
  omega
theorem div_step {p B q r : Nat} (hB : 0 < B) (h1 : q + B * r = p) (h2 : q < B) : p / B = r ∧ p % B = q := (Nat.div_mod_unique hB).2 ⟨h1, h2⟩

/-- The mail p has been pushed. -/
structure Fil (B : Nat) (p lo : List Ml) (rs : List (List Int)) (f : List (List Ml)) : Prop where
  qu : quF (B : Int) lo rs = some f
  perm : (lo ++ f.flatten).Perm p
  runs : rs.length = p.length / B
  loose : lo.length = p.length % B
  bound : QuB lo rs
theorem mlB_may {m : Ml} (h : mayM m = true) : mlB m := by
  obtain ⟨h1, h2, h3, h4⟩ := mayM_iff.1 h
  unfold mlB i64B
  omega
theorem Fil.nil {B : Nat} (h1 : 1 ≤ B) (h2 : B ≤ 1000) : Fil B [] [] [] [] where
  qu := by
    have ho : okQ (B : Int) [] ([] : List (List Int)).length = true := okQ_iff.2 ⟨⟨by omega, by omega, by simp; omega, by simp⟩, rfl⟩
    rw [quF_yes ho]
    rfl
  perm := List.Perm.refl _
  runs := by simp
  loose := by simp
  bound := ⟨⟨by simp, by simp⟩, by simp, by simp⟩
theorem Fil.err {B : Nat} {p lo : List Ml} {rs : List (List Int)} {f : List (List Ml)} {x : Ml} (h : Fil B p lo rs f) (hp : p.length < 5000) (hx : mayM x = true) : pushE lo x (quF (B : Int) lo rs) = 0 := by
  rw [h.qu]
  unfold pushE
  rw [hx]
  have := h.perm.length_eq
  rw [List.length_append, sumM_flat] at this
  show (if lo.length + sumM f = 5000 then (10 : Int) else 0) = 0
  exact if_neg (by omega)
theorem Fil.step {B : Nat} {p lo : List Ml} {rs : List (List Int)} {f : List (List Ml)} {x : Ml} (h : Fil B p lo rs f) (hB1 : 1 ≤ B) (hB2 : B ≤ 1000) (hp : p.length < 4000) (hx : mayM x = true) :
    ∃ f', Fil B (p ++ [x]) (looF (B : Int) lo x) (rnsF (B : Int) lo rs x) f' := by
  obtain ⟨k1, k2, k3, k4, k5, k6, k7, k8⟩ := quF_inv h.qu
  have hl := h.perm.length_eq
  rw [List.length_append, sumM_flat] at hl
  have hma : mayA (lo ++ [x]) = true := by rw [mayA_app, k5]; show (true && (mayM x && true)) = true; rw [hx]; rfl
  have hq : quF (B : Int) lo rs = unpF (5000 - lo.length) rs := quF_yes (okQ_iff.2 ⟨⟨k1, k2, k3, k4⟩, k5⟩)
  have hu : unpF (5000 - lo.length) rs = some f := by rw [← hq]; exact h.qu
  have hd := Nat.div_add_mod p.length B
  have hrl : rs.length ≤ p.length := by rw [h.runs]; exact Nat.div_le_self _ _
  by_cases hb : (lo.length : Int) + 1 = (B : Int)
  · have e1 : looF (B : Int) lo x = [] := if_pos hb
    have e2 : rnsF (B : Int) lo rs x = rs ++ [runB (sortM (lo ++ [x]))] := if_pos hb
    have s1 : mayA (sortM (lo ++ [x])) = true := by rw [mayA_perm (sortM_perm _)]; exact hma
    have s2 : srtMb (sortM (lo ++ [x])) = true := (srtMb_iff _).2 (in_srtM (sortM_sorted _))
    have s3 : (sortM (lo ++ [x])).length = B := by rw [sortM_len, List.length_append, List.length_singleton]; omega
    rw [e1, e2]
    have hsB : p.length + 1 = 0 + B * (p.length / B + 1) := by
      rw [Nat.mul_add, Nat.mul_one]
      have := h.loose
      omega
    have hds := div_step (p := p.length + 1) (B := B) (q := 0) (r := p.length / B + 1) (by omega) hsB.symm (by omega)
    refine ⟨f ++ [sortM (lo ++ [x])], ?_, ?_, ?_, ?_, ?_⟩
    · have ho : okQ (B : Int) [] (rs ++ [runB (sortM (lo ++ [x]))]).length = true := okQ_iff.2 ⟨⟨k1, k2, by simp; omega, by simp; omega⟩, rfl⟩
      rw [quF_yes ho]
      exact unpF_snoc (unpF_room hu (by simp; omega)) (runF_runB s1 s2 (by omega) (by omega)) (by simp only [List.length_nil]; omega)
    · rw [List.nil_append, List.flatten_append, List.flatten_singleton]
      refine (List.perm_append_comm.trans (List.Perm.append_right _ (sortM_perm _))).trans ?_
      rw [List.append_assoc]
      refine (List.Perm.append_left lo List.perm_append_comm).trans ?_
      rw [← List.append_assoc]
      exact List.Perm.append_right _ h.perm
    · rw [List.length_append, List.length_append, List.length_singleton, List.length_singleton, hds.1, h.runs]
    · rw [List.length_append, List.length_singleton, hds.2]; rfl
    · refine ⟨⟨by simp, by simp⟩, fun l hl => ?_, by simp; omega⟩
      rcases List.mem_append.1 hl with hl | hl
      · exact h.bound.2.1 l hl
      · rw [List.mem_singleton.1 hl]
        exact ⟨runB_lowB s1 s2 (by omega), by have := runB_len (l := sortM (lo ++ [x])) (by omega); omega⟩
  · have e1 : looF (B : Int) lo x = lo ++ [x] := if_neg hb
    have e2 : rnsF (B : Int) lo rs x = rs := if_neg hb
    rw [e1, e2]
    have hsB : p.length + 1 = (lo.length + 1) + B * (p.length / B) := by
      have := h.loose
      omega
    have hds := div_step (p := p.length + 1) (B := B) (q := lo.length + 1) (r := p.length / B) (by omega) hsB.symm (by omega)
    refine ⟨f, ?_, ?_, ?_, ?_, ?_⟩
    · have ho : okQ (B : Int) (lo ++ [x]) rs.length = true := okQ_iff.2 ⟨⟨k1, k2, by simp; omega, k4⟩, hma⟩
      rw [quF_yes ho]
      exact unpF_room hu (by simp; omega)
    · rw [List.append_assoc]
      refine (List.Perm.append_left lo List.perm_append_comm).trans ?_
      rw [← List.append_assoc]
      exact List.Perm.append_right _ h.perm
    · rw [List.length_append, List.length_singleton, hds.1, h.runs]
    · rw [List.length_append, List.length_append, List.length_singleton, hds.2]
    · refine ⟨⟨fun y hy => mlB_may (mayA_iff.1 hma y hy), by simp; omega⟩, h.bound.2⟩
end Go.Proofs.Ytihghhmhgakkaaa
