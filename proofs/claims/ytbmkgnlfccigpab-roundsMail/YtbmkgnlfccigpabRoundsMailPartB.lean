/-
  How many pieces of mail a round sends, counted vertex by vertex and edge by edge.
  What a vertex does, what comes behind a round, rows of other types: small laws that both sides use.
-/
import Derived.Test.YtbmkgnlfccigpabRoundsMailPartA
import Derived.Test.YtbmkgnlfccigpabRndSaid
import Derived.Test.YtbmkgnlfccigpabKeptMem

namespace Go.Proofs.Ytbmkgnlfccigpab
set_option maxRecDepth 100000

theorem manyL_le (l : List (List Int)) (k : Nat) : manyL (l.take k) ≤ manyL l := by
  unfold manyL
  conv => rhs; rw [← List.take_append_drop k l, List.map_append, List.sum_append]
  omega
/-- How many of these edges a vertex speaks along. -/
def inN (wo wi : Bool) (v : Int) (es : List Ed) : Nat := (if wo then es.countP (fun e => e.1 == v) else 0) + (if wi then es.countP (fun e => e.2.1 == v) else 0)
theorem inN_nil (wo wi : Bool) (v : Int) : inN wo wi v [] = 0 := by cases wo <;> cases wi <;> rfl
theorem inN_snoc (wo wi : Bool) (v : Int) (es : List Ed) (e : Ed) : inN wo wi v (es ++ [e]) = (inN wo wi v es + (if wo && (e.1 == v) then 1 else 0)) + (if wi && (e.2.1 == v) then 1 else 0) := by
  unfold inN
  rw [List.countP_append, List.countP_append]
  simp only [List.countP_cons, List.countP_nil, Nat.zero_add]
  cases wo <;> cases wi <;> simp <;> omega
theorem inN_le (wo wi : Bool) (v : Int) (es : List Ed) : inN wo wi v es ≤ 2 * es.length := by
  unfold inN
  have h1 := List.countP_le_length (p := fun e : Ed => e.1 == v) (l := es)
  have h2 := List.countP_le_length (p := fun e : Ed => e.2.1 == v) (l := es)
  cases wo <;> cases wi <;> simp <;> omega
theorem cntV_said {j : Jb} {r : Int → Ml × Bool} {es : List Ed} {v : Int} (h : (r v).2 = true) : cntV j r es v = inN (wayJ j).1 (wayJ j).2 v es := by unfold cntV inN; rw [if_pos h]
theorem cntV_not {j : Jb} {r : Int → Ml × Bool} {es : List Ed} {v : Int} (h : (r v).2 = false) : cntV j r es v = 0 := by unfold cntV; rw [if_neg (by rw [h]; simp)]
/-- All that the first v vertices say. -/
def wantN (j : Jb) (r : Int → Ml × Bool) (es : List Ed) (v : Nat) : Nat := ((List.range v).map fun u : Nat => cntV j r es (u : Int)).sum
theorem wantN_zero (j : Jb) (r : Int → Ml × Bool) (es : List Ed) : wantN j r es 0 = 0 := rfl
theorem wantN_succ (j : Jb) (r : Int → Ml × Bool) (es : List Ed) (v : Nat) : wantN j r es (v + 1) = wantN j r es v + cntV j r es (v : Int) := by
  unfold wantN
  rw [List.range_succ, List.map_append, List.sum_append]
  simp
theorem wantN_le (j : Jb) (r : Int → Ml × Bool) (es : List Ed) : ∀ v, wantN j r es v ≤ v * (2 * es.length)
  | 0 => by rw [wantN_zero]; omega
  | v + 1 => by
    have h1 := wantN_le j r es v
    rw [wantN_succ, Nat.succ_mul]
    have h2 : cntV j r es (v : Int) ≤ 2 * es.length := by
      rcases Bool.eq_false_or_eq_true (r (v : Int)).2 with h | h
      · rw [cntV_said h]; exact inN_le _ _ _ _
      · rw [cntV_not h]; omega
    omega
theorem wantN_all {m : Nat} {es : List Ed} (hg : InG m es) (j : Jb) (r : Int → Ml × Bool) : manyL (mailR m j r es) = wantN j r es m := by
  rw [many_mail hg j r, ← cnt_turn hg j r]; rfl
/-- What comes behind a state of a run: its kind of job, its end or its next one. -/
theorem StI.mail {m i q : Nat} {es : List Ed} {k s : Int} {T t : StS} (hn : m ≤ 200) (hg : InG m es) (hl : es.length ≤ 600) (hi : i ≤ 100000) (hT : T.done = true) (h : StI m es k s i T q t) :
    ∃ j t', jobF k t.phase = some j ∧ nextE m es k s t = (0, t') ∧ (∃ q', StI m es k s i T q' t') ∧ t'.mail.length = m ∧ t.vals.length = m ∧ t.mail.length = m ∧ manyL t'.mail ≤ 5000 ∧ (∀ x ∈ t.vals, valB j x = true) ∧ (∀ l ∈ t.mail, mailB j l = true) ∧ (t.done = true → manyL t'.mail = 0) ∧ (t.done = false → manyL t'.mail = wantN j (rndV j s t) es m) ∧ (0 < manyL t'.mail → t'.fresh = false ∧ t'.done = false) := by
  obtain ⟨j, hj, hM⟩ := mayR_iff.1 h.2.1
  rcases Bool.eq_false_or_eq_true t.done with hd | hd
  · have h1 := h.end' hd
    have h0 : manyL t.mail = 0 := by
      rcases Nat.eq_zero_or_pos (manyL t.mail) with h0 | h0
      · exact h0
      · have := (hM.no h0).2; rw [hd] at this; cases this
    exact ⟨j, t, hj, h1, ⟨q, h⟩, hM.lm, hM.lv, hM.lm, by omega, hM.val, fun l hl => (hM.mls l hl).1, fun _ => h0, (fun h => by rw [hd] at h; cases h), fun h => by omega⟩
  · obtain ⟨_, t', hn', hS⟩ := h.go hn hg hl hi hT hd
    have hm' := mayR_size hS.2.1
    have e : nextS m es j s t = t' := by
      obtain ⟨hG, _⟩ := id h
      rcases Nat.eq_zero_or_pos (i - q) with h0 | h0
      · rw [h0] at hG
        have e : t = T := hG
        rw [e, hT] at hd; cases hd
      · obtain ⟨p, hp⟩ : ∃ p, i - q = p + 1 := ⟨i - q - 1, by omega⟩
        rw [hp] at hG
        obtain ⟨_, j1, hj1, ho, _⟩ := hG
        rw [hj] at hj1
        injection hj1 with hj1
        subst hj1
        have := nextE_go (es := es) (s := s) hM hj hd (by have := h.2.2.1; have := h.2.2.2; omega) ho
        rw [hn'] at this
        injection this with _ this
        exact this.symm
    have em : t'.mail = mailR m j (rndV j s t) es := by rw [← e]; exact (behR_step j t.step t.phase _ _).2.2
    refine ⟨j, t', hj, hn', ⟨_, hS⟩, hm'.2.1, hM.lv, hM.lm, hm'.2.2, hM.val, fun l hl => (hM.mls l hl).1, (fun h => by rw [hd] at h; cases h), fun _ => by rw [em]; exact wantN_all hg j _, fun h0 => ?_⟩
    rw [← e]
    rw [em] at h0
    exact (behR_flags j t.step t.phase _ _).2 h0
end Go.Proofs.Ytbmkgnlfccigpab

namespace Go.Proofs.Ytbmkgnlfccigpab
set_option maxRecDepth 100000
open Go.ChangeShapes Go.WideShapes Go.ChangeAt Go.RowKit

theorem rnd_yesF {j : Jb} {s : Int} {T : StS} {c : Nat} {x : Ml} {l : List Int} (hx : T.vals[c]? = some x) (hl : T.mail[c]? = some l) (h : T.fresh = true ∨ 0 < l.length) : rndV j s T (c : Int) = wakeV j (c : Int) s x T.fresh l := by
  have e1 : vlA T.vals (c : Int) = x := by unfold vlA; rw [List.getD_eq_getElem?_getD, Int.toNat_natCast, hx]; rfl
  have e2 : mlA T.mail (c : Int) = l := by unfold mlA; rw [List.getD_eq_getElem?_getD, Int.toNat_natCast, hl]; rfl
  unfold rndV
  rw [e1, e2, if_pos]
  rcases h with h | h
  · rw [h]; rfl
  · cases l with
    | nil => simp at h
    | cons a l => simp
theorem rnd_noF {j : Jb} {s : Int} {T : StS} {c : Nat} {x : Ml} {l : List Int} (hx : T.vals[c]? = some x) (hl : T.mail[c]? = some l) (h : T.fresh = false) (h2 : ¬ 0 < l.length) : rndV j s T (c : Int) = (x, false) := by
  have e1 : vlA T.vals (c : Int) = x := by unfold vlA; rw [List.getD_eq_getElem?_getD, Int.toNat_natCast, hx]; rfl
  have e2 : mlA T.mail (c : Int) = l := by unfold mlA; rw [List.getD_eq_getElem?_getD, Int.toNat_natCast, hl]; rfl
  have e3 : l = [] := List.eq_nil_of_length_eq_zero (by omega)
  unfold rndV
  rw [e1, e2, if_neg (by rw [h, e3]; simp)]
theorem own_curF {w : World} {base g n cap size : Nat} {e : TypeId} {xs : List Value} (h : w.ownsRow base e size (.slice (some ⟨g, 0, none⟩) n cap) n xs) : ∃ cur, w.heap[g]? = some (.cells cur e (0, 0)) := by
  rcases h.2 with ⟨hv, _⟩ | ⟨g3, c3, cur, hv, _, hgg, _⟩
  · cases hv
  · injection hv with hv
    injection hv with hv
    injection hv with hv
    subst hv
    exact ⟨cur, hgg⟩
/-- Stores into a row leave a row of another type. -/
theorem own_elseF {w w' : World} {base b g n m size size' cap : Nat} {e e' : TypeId} {v : Value} {xs ys : List Value} (h : w.ownsRow base e size v n xs) (h2 : w.ownsRow b e' size' (.slice (some ⟨g, 0, none⟩) m cap) m ys) (hne : e ≠ e') (hk : Kept (fun k => k = g) w w') : w'.ownsRow base e size v n xs := by
  obtain ⟨cur, hc⟩ := own_curF h2
  exact hk.own h fun q hq e => own_block h hq hc hne e

theorem beh_mailF {j : Jb} {a p : Int} {vs : List Ml} {ms : List (List Int)} (h : 0 < manyL ms) : behR j a p vs ms = ⟨a + 1, p, false, false, vs, ms⟩ := by unfold behR; rw [if_pos h]
theorem beh_doneF {j : Jb} {a p : Int} {vs : List Ml} {ms : List (List Int)} (h : ¬ 0 < manyL ms) (h2 : (!j.1 || (j.2 && !openV vs)) = true) : behR j a p vs ms = ⟨a + 1, p, false, true, vs, ms⟩ := by unfold behR; rw [if_neg h, if_pos h2]
theorem beh_turnF {j : Jb} {a p : Int} {vs : List Ml} {ms : List (List Int)} (h : ¬ 0 < manyL ms) (h2 : (!j.1 || (j.2 && !openV vs)) = false) : behR j a p vs ms = ⟨a + 1, 1 - p, true, false, vs, ms⟩ := by unfold behR; rw [if_neg h, if_neg (by rw [h2]; simp)]

theorem jobs_of {k p : Int} {j : Jb} (h : jobF k p = some j) : k = Jb.k j ∧ p = Jb.p j := by
  rcases jobF_cases k p with hn | ⟨j', h1, h2⟩
  · rw [hn.1] at h; cases h
  · have h3 := jobF_of j'
    rw [← h1, ← h2, h] at h3
    injection h3 with h3
    subst h3
    exact ⟨h1, h2⟩

end Go.Proofs.Ytbmkgnlfccigpab
