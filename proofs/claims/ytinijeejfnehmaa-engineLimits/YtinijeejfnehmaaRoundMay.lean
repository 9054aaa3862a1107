/-
  Behind a round a state may be, if it could be ahead of it; how much mail there is; rounds one by one make a run.
-/
import Derived.Test.YtinijeejfnehmaaRoundMath
import Derived.Test.YtinijeejfnehmaaLowMath
namespace Go.Proofs.Ytinijeejfnehmaa
set_option maxRecDepth 100000

theorem valB_iff {j : Jb} {x : Ml} : valB j x = true ↔ (-1 ≤ x.1 ∧ x.1 ≤ Jb.top j) ∧ (-1 ≤ x.2 ∧ x.2 ≤ 199) := by simp [valB, inB]
theorem top_nn : ∀ j : Jb, 199 ≤ Jb.top j := jb_cases (by decide) (by decide) (by decide) (by decide)
/-- Who hears mail of which the least counts. -/
theorem low_ok {j : Jb} {x : Ml} {m : List Int} (hx : valB j x = true) (hm : mailB j m = true) : valB j (lowV x m).1 = true ∧ ((lowV x m).2 = true → 0 ≤ (lowV x m).1.1) := by
  have hx' := valB_iff.1 hx
  have hm' := mailB_iff.1 hm
  obtain ⟨h1, _, _⟩ := lowF_spec (a := x.1) (m := m) hx'.1.1 (fun y hy => (hm' y hy).1)
  unfold lowV
  rcases h1 with h1 | ⟨h1, h2, _⟩
  · rw [h1]
    exact ⟨hx, fun h => by cases h⟩
  · have h3 := hm' _ h2
    exact ⟨valB_iff.2 ⟨⟨by simp only; omega, h3.2⟩, hx'.2⟩, fun _ => h3.1⟩
theorem lab_ok {x : Ml} {b : Bool} (hx : valB (true, true) x = true) (hb : b = true → 0 ≤ x.1) : valB (true, true) (labF x b).1 = true ∧ ((labF x b).2 = true → 0 ≤ (labF x b).1.1) := by
  cases b with
  | false => exact ⟨hx, fun h => by cases h⟩
  | true =>
    have hx' := valB_iff.1 hx
    have h0 := hb rfl
    have : x.1 ≤ 199 := hx'.1.2
    exact ⟨valB_iff.2 ⟨hx'.1, ⟨by simp only [labF, if_true]; omega, this⟩⟩, fun _ => h0⟩
theorem wake_ok : ∀ (j : Jb) {v s : Int} {x : Ml} {b : Bool} {m : List Int}, (0 ≤ v ∧ v ≤ 199) → valB j x = true → mailB j m = true → valB j (wakeV j v s x b m).1 = true ∧ ((wakeV j v s x b m).2 = true → 0 ≤ (wakeV j v s x b m).1.1) := by
  refine jb_cases ?_ ?_ ?_ ?_
  · intro v s x b m hv hx hm
    cases b with
    | false => exact low_ok hx hm
    | true =>
      show valB (false, false) (if v = s then ((0, -1), true) else ((-1, -1), false)).1 = true ∧ ((if v = s then (((0, -1) : Ml), true) else ((-1, -1), false)).2 = true → 0 ≤ (if v = s then (((0, -1) : Ml), true) else ((-1, -1), false)).1.1)
      split
      · exact ⟨by decide, fun _ => Int.le_refl _⟩
      · exact ⟨by decide, fun h => by cases h⟩
  · intro v s x b m hv hx hm
    cases b with
    | false => exact low_ok hx hm
    | true => exact ⟨valB_iff.2 ⟨⟨by show -1 ≤ v; omega, hv.2⟩, by show -1 ≤ (-1 : Int); omega, by show (-1 : Int) ≤ 199; omega⟩, fun _ => hv.1⟩
  · intro v s x b m hv hx hm
    cases b with
    | false =>
      show valB (true, false) (if x.2 = -1 then lowV x m else (x, false)).1 = true ∧ ((if x.2 = -1 then lowV x m else (x, false)).2 = true → 0 ≤ (if x.2 = -1 then lowV x m else (x, false)).1.1)
      split
      · exact low_ok hx hm
      · exact ⟨hx, fun h => by cases h⟩
    | true =>
      show valB (true, false) (if x.2 = -1 then ((v, -1), true) else (x, false)).1 = true ∧ ((if x.2 = -1 then (((v, -1) : Ml), true) else (x, false)).2 = true → 0 ≤ (if x.2 = -1 then (((v, -1) : Ml), true) else (x, false)).1.1)
      split
      · exact ⟨valB_iff.2 ⟨⟨by show -1 ≤ v; omega, hv.2⟩, by show -1 ≤ (-1 : Int); omega, by show (-1 : Int) ≤ 199; omega⟩, fun _ => hv.1⟩
      · exact ⟨hx, fun h => by cases h⟩
  · intro v s x b m hv hx hm
    cases b with
    | false =>
      show valB (true, true) (if x.2 = -1 then labF x (hasB m x.1) else (x, false)).1 = true ∧ ((if x.2 = -1 then labF x (hasB m x.1) else (x, false)).2 = true → 0 ≤ (if x.2 = -1 then labF x (hasB m x.1) else (x, false)).1.1)
      split
      · exact lab_ok hx fun h => (mailB_iff.1 hm _ (hasB_iff.1 h)).1
      · exact ⟨hx, fun h => by cases h⟩
    | true =>
      show valB (true, true) (if x.2 = -1 then labF x (x.1 == v) else (x, false)).1 = true ∧ ((if x.2 = -1 then labF x (x.1 == v) else (x, false)).2 = true → 0 ≤ (if x.2 = -1 then labF x (x.1 == v) else (x, false)).1.1)
      split
      · exact lab_ok hx fun h => by have : x.1 = v := by simpa using h
                                    omega
      · exact ⟨hx, fun h => by cases h⟩

/-- P13.3, of a job in a phase. -/
structure MayI (n : Nat) (j : Jb) (t : StS) : Prop where
  stp : 0 ≤ t.step ∧ t.step ≤ 100000
  lv : t.vals.length = n
  lm : t.mail.length = n
  val : ∀ x ∈ t.vals, valB j x = true
  mls : ∀ l ∈ t.mail, mailB j l = true ∧ l.Pairwise fun a b => a ≤ b
  fd : ¬ (t.fresh = true ∧ t.done = true)
  no : 0 < manyL t.mail → t.fresh = false ∧ t.done = false
  few : manyL t.mail ≤ 5000
theorem mayR_iff {n : Nat} {k : Int} {t : StS} : mayR n k t = true ↔ ∃ j, jobF k t.phase = some j ∧ MayI n j t := by
  unfold mayR
  cases hj : jobF k t.phase with
  | none => simp
  | some j =>
    simp only [Bool.and_eq_true, decide_eq_true_eq, List.all_eq_true, Bool.not_eq_true', Bool.and_eq_false_iff, decide_eq_false_iff_not, Bool.or_eq_false_iff, inB_iff, risB, Option.some.injEq, exists_eq_left']
    constructor
    · rintro ⟨⟨⟨⟨⟨⟨⟨h1, h2⟩, h3⟩, h4⟩, h5⟩, h6⟩, h7⟩, h8⟩
      refine ⟨h1, h2, h3, h4, h5, fun ⟨a, b⟩ => ?_, fun h => ?_, h8⟩
      · rcases h6 with h6 | h6
        · rw [a] at h6; cases h6
        · rw [b] at h6; cases h6
      · rcases h7 with h7 | h7
        · exact absurd h h7
        · exact h7
    · intro h
      refine ⟨⟨⟨⟨⟨⟨⟨h.stp, h.lv⟩, h.lm⟩, h.val⟩, h.mls⟩, ?_⟩, ?_⟩, h.few⟩
      · cases hf : t.fresh with
        | false => exact .inl rfl
        | true =>
          cases hd : t.done with
          | false => exact .inr rfl
          | true => exact absurd ⟨hf, hd⟩ h.fd
      · by_cases h0 : 0 < manyL t.mail
        · exact .inr (h.no h0)
        · exact .inl h0

/-- So many pieces of mail come of an edge. -/
def cntE (j : Jb) (r : Int → Ml × Bool) (e : Ed) : Nat := (if (wayJ j).1 && (r e.1).2 then 1 else 0) + (if (wayJ j).2 && (r e.2.1).2 then 1 else 0)
theorem sum_none {α : Type} {f : α → Nat} : ∀ {l : List α}, (∀ x ∈ l, f x = 0) → (l.map f).sum = 0
  | [], _ => rfl
  | x :: l, h => by
    rw [List.map_cons, List.sum_cons, h x (by simp), sum_none (l := l) fun y hy => h y (by simp [hy])]
theorem sum_one {n : Nat} {c : Int} {x : Nat} (hc : 0 ≤ c ∧ c < (n : Int)) : ((List.range n).map fun u : Nat => if c = (u : Int) then x else 0).sum = x := by
  induction n with
  | zero => omega
  | succ n ih =>
    rw [List.range_succ, List.map_append, List.sum_append]
    simp only [List.map_cons, List.map_nil, List.sum_cons, List.sum_nil, Nat.add_zero]
    by_cases e : c = (n : Int)
    · rw [if_pos e]
      have : ((List.range n).map fun u : Nat => if c = (u : Int) then x else 0).sum = 0 := sum_none fun u hu => by
        have := List.mem_range.1 hu
        rw [if_neg (by omega)]
      omega
    · rw [if_neg e, ih (by omega)]; rfl
theorem sum_add {α : Type} (f g : α → Nat) (l : List α) : (l.map fun x => f x + g x).sum = (l.map f).sum + (l.map g).sum := by
  induction l with
  | nil => rfl
  | cons x l ih => simp only [List.map_cons, List.sum_cons, ih]; omega
theorem msgE_len (j : Jb) (r : Int → Ml × Bool) (e : Ed) (u : Int) : (msgE j r u e).length = (if e.2.1 = u then (if (wayJ j).1 && (r e.1).2 then 1 else 0) else 0) + (if e.1 = u then (if (wayJ j).2 && (r e.2.1).2 then 1 else 0) else 0) := by
  unfold msgE
  rw [List.length_append]
  congr 1
  · by_cases h : e.2.1 = u
    · rw [if_pos h]
      cases (wayJ j).1 <;> cases (r e.1).2 <;> simp [h]
    · rw [if_neg h]
      simp [h]
  · by_cases h : e.1 = u
    · rw [if_pos h]
      cases (wayJ j).2 <;> cases (r e.2.1).2 <;> simp [h]
    · rw [if_neg h]
      simp [h]
/-- Just as many pieces of mail as edges that are spoken along. -/
theorem many_mail {n : Nat} {es : List Ed} (hg : InG n es) (j : Jb) (r : Int → Ml × Bool) : manyL (mailR n j r es) = (es.map (cntE j r)).sum := by
  have e1 : manyL (mailR n j r es) = ((List.range n).map fun u : Nat => (msgs j r es (u : Int)).length).sum := by
    unfold manyL mailR
    rw [List.map_map]
    congr 1
    refine List.map_congr_left fun u _ => ?_
    show (sortN (msgs j r es (u : Int))).length = _
    rw [sortN_len]
  rw [e1]
  clear e1
  induction es with
  | nil =>
    rw [sum_none (f := fun u : Nat => (msgs j r [] (u : Int)).length) fun u _ => rfl]
    rfl
  | cons e es ih =>
    obtain ⟨f0, f1, t0, t1, _⟩ := hg e (by simp)
    have e2 : (fun u : Nat => (msgs j r (e :: es) (u : Int)).length) = fun u : Nat => ((if e.2.1 = (u : Int) then (if (wayJ j).1 && (r e.1).2 then 1 else 0) else 0) + (if e.1 = (u : Int) then (if (wayJ j).2 && (r e.2.1).2 then 1 else 0) else 0)) + (msgs j r es (u : Int)).length := by
      funext u
      show ((e :: es).flatMap (msgE j r (u : Int))).length = _
      rw [List.flatMap_cons, List.length_append, msgE_len]
      rfl
    rw [e2, sum_add, sum_add, sum_one ⟨t0, t1⟩, sum_one ⟨f0, f1⟩, ih fun d hd => hg d (by simp [hd]), List.map_cons, List.sum_cons]
    rfl
theorem cnt_most (j : Jb) (r : Int → Ml × Bool) (es : List Ed) : (es.map (cntE j r)).sum ≤ 2 * es.length := by
  induction es with
  | nil => simp
  | cons e es ih =>
    have : cntE j r e ≤ 2 := by unfold cntE; split <;> split <;> omega
    simp only [List.map_cons, List.sum_cons, List.length_cons]
    omega
section
variable {n : Nat} {es : List Ed} {j : Jb} {k s : Int} {t : StS}
theorem vlA_in {l : List Ml} {v : Int} (hl : l.length = n) (hv : 0 ≤ v ∧ v < (n : Int)) : vlA l v ∈ l := by
  have h : v.toNat < l.length := by omega
  unfold vlA
  rw [List.getD_eq_getElem?_getD, List.getElem?_eq_getElem h]
  exact List.getElem_mem h
theorem mlA_in {l : List (List Int)} {v : Int} (hl : l.length = n) (hv : 0 ≤ v ∧ v < (n : Int)) : mlA l v ∈ l := by
  have h : v.toNat < l.length := by omega
  unfold mlA
  rw [List.getD_eq_getElem?_getD, List.getElem?_eq_getElem h]
  exact List.getElem_mem h
theorem MayI.rnd (h : MayI n j t) (hn : n ≤ 200) {v : Int} (hv : 0 ≤ v ∧ v < (n : Int)) : valB j (rndV j s t v).1 = true ∧ ((rndV j s t v).2 = true → 0 ≤ (rndV j s t v).1.1) := by
  unfold rndV
  split
  · exact wake_ok j (by omega) (h.val _ (vlA_in h.lv hv)) (h.mls _ (mlA_in h.lm hv)).1
  · exact ⟨h.val _ (vlA_in h.lv hv), fun h => by cases h⟩
theorem say_nn : ∀ (j : Jb) {a w : Int}, 0 ≤ a → 0 ≤ w → 0 ≤ sayJ j a w := jb_cases (fun h1 h2 => by show 0 ≤ _ + _; omega) (fun h1 _ => h1) (fun h1 _ => h1) (fun h1 _ => h1)
theorem way_say : ∀ (j : Jb), (wayJ j).2 = true → ∀ a w, sayJ j a w = a := jb_cases (fun h => by cases h) (fun _ _ _ => rfl) (fun h => by cases h) (fun _ _ _ => rfl)
/-- What comes as mail may come. -/
theorem MayI.msg (h : MayI n j t) (hn : n ≤ 200) (hg : InG n es) (ho : overR j (rndV j s t) es = false) {u x : Int} (hx : x ∈ msgs j (rndV j s t) es u) : 0 ≤ x ∧ x ≤ Jb.top j := by
  rcases msgs_mem.1 hx with ⟨e, he, h1, _, h3, rfl⟩ | ⟨e, he, h1, _, h3, rfl⟩
  · obtain ⟨f0, f1, _, _, w0⟩ := hg e he
    have h4 := (h.rnd (s := s) hn ⟨f0, f1⟩).2 h3
    refine ⟨say_nn j h4 w0, ?_⟩
    have := List.any_eq_false.1 ho e he
    simp only [h1, h3, Bool.and_self, Bool.true_and, decide_eq_true_eq] at this
    omega
  · obtain ⟨_, _, t0, t1, w0⟩ := hg e he
    have h4 := h.rnd (s := s) hn ⟨t0, t1⟩
    rw [way_say j h1]
    exact ⟨h4.2 h3, (valB_iff.1 h4.1).1.2⟩
theorem behR_step (j : Jb) (a p : Int) (vs : List Ml) (ms : List (List Int)) : (behR j a p vs ms).step = a + 1 ∧ (behR j a p vs ms).vals = vs ∧ (behR j a p vs ms).mail = ms := by
  unfold behR
  split
  · exact ⟨rfl, rfl, rfl⟩
  · split <;> exact ⟨rfl, rfl, rfl⟩
theorem behR_flags (j : Jb) (a p : Int) (vs : List Ml) (ms : List (List Int)) : (¬ ((behR j a p vs ms).fresh = true ∧ (behR j a p vs ms).done = true)) ∧ (0 < manyL ms → (behR j a p vs ms).fresh = false ∧ (behR j a p vs ms).done = false) := by
  unfold behR
  split
  · exact ⟨fun h => (by cases h.1), fun _ => ⟨rfl, rfl⟩⟩
  · next h0 =>
    split
    · exact ⟨fun h => (by cases h.1), fun h => absurd h h0⟩
    · exact ⟨fun h => (by cases h.2), fun h => absurd h h0⟩
/-- The phase behind a round: a kind has it, with the same bounds. -/
theorem behR_phase {p : Int} (hj : jobF k p = some j) (a : Int) (vs : List Ml) (ms : List (List Int)) : ∃ j', jobF k (behR j a p vs ms).phase = some j' ∧ Jb.top j' = Jb.top j := by
  have hkp : k = Jb.k j ∧ p = Jb.p j := by
    rcases jobF_cases k p with ⟨h, _⟩ | ⟨j', h1, h2⟩
    · rw [h] at hj; cases hj
    · rw [h1, h2, jobF_of] at hj
      injection hj with hj
      subst hj
      exact ⟨h1, h2⟩
  obtain ⟨rfl, rfl⟩ := hkp
  unfold behR
  split
  · exact ⟨j, jobF_of j, rfl⟩
  · split
    · exact ⟨j, jobF_of j, rfl⟩
    · next hc =>
      obtain ⟨b, c⟩ := j
      cases b
      · simp at hc
      · cases c
        · exact ⟨(true, true), rfl, rfl⟩
        · exact ⟨(true, false), rfl, rfl⟩
theorem valB_top {j j' : Jb} (h : Jb.top j' = Jb.top j) (x : Ml) : valB j' x = valB j x := by unfold valB; rw [h]
theorem mailB_top {j j' : Jb} (h : Jb.top j' = Jb.top j) (l : List Int) : mailB j' l = mailB j l := by unfold mailB; rw [h]
/-- Behind a round a state may be. -/
theorem MayI.next (h : MayI n j t) (hj : jobF k t.phase = some j) (hn : n ≤ 200) (hg : InG n es) (hl : es.length ≤ 600) (hs : t.step < 100000) (ho : overR j (rndV j s t) es = false) :
    ∃ j', jobF k (nextS n es j s t).phase = some j' ∧ MayI n j' (nextS n es j s t) := by
  obtain ⟨j', hj', ht⟩ := behR_phase hj t.step (valsR n (rndV j s t)) (mailR n j (rndV j s t) es)
  refine ⟨j', hj', ?_⟩
  unfold nextS
  obtain ⟨b1, b2, b3⟩ := behR_step j t.step t.phase (valsR n (rndV j s t)) (mailR n j (rndV j s t) es)
  obtain ⟨c1, c2⟩ := behR_flags j t.step t.phase (valsR n (rndV j s t)) (mailR n j (rndV j s t) es)
  have hst := h.stp
  refine ⟨by rw [b1]; omega, by rw [b2]; exact valsR_len _ _, by rw [b3]; exact mailR_len _ _ _ _, fun x hx => ?_, fun l hm => ?_, c1, by rw [b3]; exact c2, ?_⟩
  · rw [b2] at hx
    obtain ⟨v, hv, rfl⟩ := List.mem_map.1 hx
    have := List.mem_range.1 hv
    rw [valB_top ht]
    exact (h.rnd hn ⟨by omega, by omega⟩).1
  · rw [b3] at hm
    obtain ⟨u, hu, rfl⟩ := List.mem_map.1 hm
    rw [mailB_top ht]
    exact ⟨mailB_iff.2 fun y hy => h.msg hn hg ho (sortN_mem.1 hy), sortN_ris _⟩
  · rw [b3, many_mail hg]
    have := cnt_most j (rndV j s t) es
    omega
theorem MayI.begin (n : Nat) (j : Jb) : MayI n j (beginS n) := by
  refine ⟨⟨Int.le_refl _, by show (0 : Int) ≤ 100000; omega⟩, by simp [beginS], by simp [beginS], fun x hx => ?_, fun l hl => ?_, fun ⟨h1, h2⟩ => ?_, fun h => ?_, ?_⟩
  · have : x = (-1, -1) := by have := List.mem_replicate.1 hx; exact this.2
    subst this
    have := top_nn j
    exact valB_iff.2 ⟨⟨Int.le_refl _, by show (-1 : Int) ≤ Jb.top j; omega⟩, Int.le_refl _, by show (-1 : Int) ≤ 199; omega⟩
  · have : l = [] := (List.mem_replicate.1 hl).2
    subst this
    exact ⟨rfl, List.Pairwise.nil⟩
  · have a1 : 0 < n := by simpa [beginS] using h1
    have a2 : n = 0 := by simpa [beginS] using h2
    omega
  · have : manyL (beginS n).mail = 0 := manyL_zero.2 fun l hl => (List.mem_replicate.1 hl).2
    omega
  · have : manyL (beginS n).mail = 0 := manyL_zero.2 fun l hl => (List.mem_replicate.1 hl).2
    omega
/-- A round that is neither refused nor behind the end. -/
theorem nextE_go (h : MayI n j t) (hj : jobF k t.phase = some j) (hd : t.done = false) (hs : t.step < 100000) (ho : overR j (rndV j s t) es = false) : nextE n es k s t = (0, nextS n es j s t) := by
  unfold nextE
  rw [if_pos (mayR_iff.2 ⟨j, hj, h⟩), hd, if_neg (by simp), if_neg (by omega), hj]
  simp only
  rw [ho, if_neg (by simp)]
theorem nextE_end (h : MayI n j t) (hj : jobF k t.phase = some j) (hd : t.done = true) : nextE n es k s t = (0, t) := by
  unfold nextE
  rw [if_pos (mayR_iff.2 ⟨j, hj, h⟩), hd, if_pos rfl]
/-- Rounds one by one make a run. -/
theorem goes_run (hn : n ≤ 200) (hg : InG n es) (hl : es.length ≤ 600) : ∀ (i f : Nat) (t t' : StS), GoesR n es k s i t t' → mayR n k t = true → t.step + i ≤ 100000 → runE n es k s (f + i) (0, t) = runE n es k s f (0, t') ∧ mayR n k t' = true ∧ t'.step = t.step + i
  | 0, f, t, t', h, hm, _ => by
    have e : t = t' := h
    subst e
    exact ⟨rfl, hm, by omega⟩
  | i + 1, f, t, t', h, hm, hs => by
    obtain ⟨hd, j, hj, ho, h2⟩ := h
    obtain ⟨j1, hj1, hM⟩ := mayR_iff.1 hm
    rw [hj] at hj1
    injection hj1 with hj1
    subst hj1
    have hst : t.step < 100000 := by omega
    have hN := hM.next (s := s) hj hn hg hl hst ho
    have hs1 : (nextS n es j s t).step = t.step + 1 := (behR_step j _ _ _ _).1
    obtain ⟨r1, r2, r3⟩ := goes_run hn hg hl i f (nextS n es j s t) t' h2 (mayR_iff.2 hN) (by rw [hs1]; omega)
    refine ⟨?_, r2, by rw [r3, hs1]; omega⟩
    rw [show f + (i + 1) = (f + i) + 1 by omega]
    show (if (0 : Int) = 0 ∧ t.done = false then runE n es k s (f + i) (nextE n es k s t) else (0, t)) = _
    rw [if_pos ⟨rfl, hd⟩, nextE_go hM hj hd hst ho]
    exact r1
theorem runE_done (f : Nat) (hd : t.done = true) : runE n es k s f (0, t) = (0, t) := by
  cases f with
  | zero => rfl
  | succ f =>
    show (if (0 : Int) = 0 ∧ t.done = false then _ else (0, t)) = _
    rw [if_neg (by rw [hd]; simp)]
end
end Go.Proofs.Ytinijeejfnehmaa
