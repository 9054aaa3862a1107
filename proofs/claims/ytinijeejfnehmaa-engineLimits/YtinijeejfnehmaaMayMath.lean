/-
  Which states P13.3 lets be: its cases.
-/
import Derived.Test.YtinijeejfnehmaaRoundMath
namespace Go.Proofs.Ytinijeejfnehmaa
set_option maxRecDepth 100000

theorem adj_ris : ∀ {l : List Int}, (∀ (a : Nat) (x y : Int), l[a]? = some x → l[a + 1]? = some y → x ≤ y) → l.Pairwise fun a b => a ≤ b
  | [], _ => List.Pairwise.nil
  | [x], _ => List.pairwise_singleton _ _
  | x :: y :: l, h => by
    have h1 := adj_ris (l := y :: l) fun a u v hu hv => h (a + 1) u v (by simpa using hu) (by simpa using hv)
    have h0 : x ≤ y := h 0 x y rfl rfl
    refine List.pairwise_cons.2 ⟨fun z hz => ?_, h1⟩
    rcases List.mem_cons.1 hz with rfl | hz
    · exact h0
    · have := (List.pairwise_cons.1 h1).1 z hz
      omega
/-- One list of mail is as it should be. -/
def mlOk (j : Jb) (l : List Int) : Bool := mailB j l && risB l
/-- .. as far as it was looked at. -/
def mlPre (j : Jb) (l : List Int) (i : Nat) : Prop := (∀ (a : Nat) (y : Int), a < i → l[a]? = some y → 0 ≤ y ∧ y ≤ Jb.top j) ∧ ∀ (a : Nat) (x y : Int), a + 1 < i → l[a]? = some x → l[a + 1]? = some y → x ≤ y
theorem mlPre_zero (j : Jb) (l : List Int) : mlPre j l 0 := ⟨fun a y h => by omega, fun a x y h => by omega⟩
theorem mlPre_next {j : Jb} {l : List Int} {i : Nat} {y : Int} (h : mlPre j l i) (hy : l[i]? = some y) (hb : 0 ≤ y ∧ y ≤ Jb.top j) (hr : ∀ x, 0 < i → l[i - 1]? = some x → x ≤ y) : mlPre j l (i + 1) := by
  refine ⟨fun a z ha hz => ?_, fun a x z ha hx hz => ?_⟩
  · by_cases e : a = i
    · subst e
      rw [hy] at hz
      injection hz with hz
      subst hz
      exact hb
    · exact h.1 a z (by omega) hz
  · by_cases e : a + 1 = i
    · subst e
      rw [hy] at hz
      injection hz with hz
      subst hz
      exact hr x (by omega) (by simpa using hx)
    · exact h.2 a x z (by omega) hx hz
theorem mlPre_all {j : Jb} {l : List Int} (h : mlPre j l l.length) : mlOk j l = true := by
  unfold mlOk
  rw [Bool.and_eq_true]
  refine ⟨mailB_iff.2 fun y hy => ?_, ?_⟩
  · obtain ⟨i, hi, rfl⟩ := List.getElem_of_mem hy
    exact h.1 i _ hi (List.getElem?_eq_getElem hi)
  · unfold risB
    exact decide_eq_true (adj_ris fun a x y hx hy => h.2 a x y (List.getElem?_eq_some_iff.1 hy).1 hx hy)
theorem mlOk_out {j : Jb} {l : List Int} {i : Nat} {y : Int} (hy : l[i]? = some y) (h : ¬ (0 ≤ y ∧ y ≤ Jb.top j)) : mlOk j l = false := by
  rw [Bool.eq_false_iff]
  intro g
  unfold mlOk at g
  rw [Bool.and_eq_true] at g
  exact h (mailB_iff.1 g.1 y (List.mem_of_getElem? hy))
theorem mlOk_fall {j : Jb} {l : List Int} {i : Nat} {x y : Int} (h0 : 0 < i) (hx : l[i - 1]? = some x) (hy : l[i]? = some y) (h : y < x) : mlOk j l = false := by
  rw [Bool.eq_false_iff]
  intro g
  unfold mlOk at g
  rw [Bool.and_eq_true] at g
  have g2 : l.Pairwise fun a b => a ≤ b := by have := g.2; unfold risB at this; exact of_decide_eq_true this
  obtain ⟨hi, rfl⟩ := List.getElem?_eq_some_iff.1 hy
  obtain ⟨hi', rfl⟩ := List.getElem?_eq_some_iff.1 hx
  have := (List.pairwise_iff_getElem.1 g2) (i - 1) i hi' hi (by omega)
  omega
/-- What is left to ask once kind, phase, Step and lengths are as they should be. -/
theorem mayR_of {n : Nat} {k : Int} {t : StS} {j : Jb} (hj : jobF k t.phase = some j) (hs : inB t.step 0 100000 = true) (h1 : t.vals.length = n) (h2 : t.mail.length = n) : mayR n k t = ((t.vals.all fun x => valB j x) && (t.mail.all fun l => mlOk j l) && !(t.fresh && t.done) && !(decide (0 < manyL t.mail) && (t.fresh || t.done)) && decide (manyL t.mail ≤ 5000)) := by
  unfold mayR
  rw [hj]
  simp only [hs, h1, h2, decide_true, Bool.true_and]
  rfl
theorem mayR_none {n : Nat} {k : Int} {t : StS} (h : jobF k t.phase = none) : mayR n k t = false := by unfold mayR; rw [h]
theorem mayR_step {n : Nat} {k : Int} {t : StS} (h : inB t.step 0 100000 = false) : mayR n k t = false := by
  unfold mayR
  cases jobF k t.phase with
  | none => rfl
  | some j => simp [h]
theorem mayR_len {n : Nat} {k : Int} {t : StS} (h : ¬ (t.vals.length = n ∧ t.mail.length = n)) : mayR n k t = false := by
  unfold mayR
  cases jobF k t.phase with
  | none => rfl
  | some j =>
    by_cases h1 : t.vals.length = n
    · have h2 : ¬ t.mail.length = n := fun g => h ⟨h1, g⟩
      simp [h2]
    · simp [h1]
theorem manyL_take {m : List (List Int)} {k : Nat} {l : List Int} (h : m[k]? = some l) : manyL (m.take (k + 1)) = manyL (m.take k) + l.length := by
  unfold manyL
  rw [take_snoc h, List.map_append, List.sum_append]
  simp
theorem manyL_most {m : List (List Int)} {B : Nat} (h : ∀ l ∈ m, l.length ≤ B) : manyL m ≤ m.length * B := by
  unfold manyL
  induction m with
  | nil => simp
  | cons l m ih =>
    have h1 := h l (by simp)
    have h2 := ih fun x hx => h x (by simp [hx])
    rw [List.map_cons, List.sum_cons, List.length_cons, Nat.add_mul, Nat.one_mul]
    omega
theorem MlR.read {w : World} {v : Value} {xs : List Ml} (h : MlR w v xs) (hn : 0 < xs.length) : ∃ b off cap, v = .slice (some ⟨b, off, none⟩) xs.length cap ∧ b < w.heap.size ∧ ∀ i x, xs[i]? = some x → w.cell? ⟨b, off + i * 2, none⟩ = some (.int .i64 x.1) ∧ w.cell? ⟨b, off + i * 2 + 1, none⟩ = some (.int .i64 x.2) := by
  obtain ⟨a, cap, rfl, hc, hm, _, hel⟩ := h
  obtain ⟨b, off, rfl, lt, hv⟩ := hel hn
  exact ⟨b, off, cap, rfl, lt, fun i x hx => ⟨hv i x hx 0 _ rfl, hv i x hx 1 _ rfl⟩⟩
end Go.Proofs.Ytinijeejfnehmaa
