/-
  What holds on a link, whatever is lost, doubled or mixed; and that it gets on when packets and acks come again and again.
-/
import Derived.Test.YtjmjpmnjibdhhaaLinkMath
import Derived.Test.YtjmjpmnjibdhhaaLinkAcked
namespace Go.Proofs.Ytjmjpmnjibdhhaa
set_option maxRecDepth 100000

/-- What holds on a link with the mail L, whose sender has the Base b, and whose receiver wants k: packets and acks on the way. -/
structure Lin (L : List Ml) (b k : Nat) (ps : List Pk) (ks : List Ml) : Prop where
  bk : b ≤ k
  kb : k ≤ b + 4
  kn : k ≤ L.length
  pk : ∀ p ∈ ps, ∃ (i : Nat) (m : Ml), p = (1, (i : Int), m) ∧ L[i]? = some m ∧ i < b + 4
  ak : ∀ a ∈ ks, ∃ j : Nat, a = (1, (j : Int)) ∧ j ≤ k

theorem Lin.start (L : List Ml) : Lin L 0 0 [] [] := ⟨by omega, by omega, by omega, by simp, by simp⟩
theorem Lin.lost {L : List Ml} {b k : Nat} {ps : List Pk} {ks : List Ml} (h : Lin L b k ps ks) : Lin L b k [] [] := ⟨h.bk, h.kb, h.kn, by simp, by simp⟩
theorem dueF_mem {L : List Ml} {b : Nat} {p : Pk} (h : p ∈ dueF 1 b (L.drop b)) : ∃ (i : Nat) (m : Ml), p = (1, (i : Int), m) ∧ L[i]? = some m ∧ i < b + 4 := by
  obtain ⟨t, ht⟩ := List.getElem?_of_mem h
  rw [dueF, pksF_at] at ht
  have h4 : t < 4 := by
    rcases Nat.lt_or_ge t 4 with h' | h'
    · exact h'
    · rw [List.getElem?_eq_none (by rw [List.length_take]; omega)] at ht; cases ht
  rw [List.getElem?_take_of_lt h4, List.getElem?_drop] at ht
  cases hx : L[b + t]? with
  | none => rw [hx] at ht; cases ht
  | some m =>
    rw [hx] at ht
    simp only [Option.map_some, Option.some.injEq] at ht
    exact ⟨b + t, m, by rw [← ht]; simp, hx, by omega⟩
theorem Lin.due {L : List Ml} {b k : Nat} {ps : List Pk} {ks : List Ml} (h : Lin L b k ps ks) : Lin L b k (ps ++ dueF 1 b (L.drop b)) ks :=
  ⟨h.bk, h.kb, h.kn, fun p hp => by
    rcases List.mem_append.1 hp with hp | hp
    · exact h.pk p hp
    · exact dueF_mem hp, h.ak⟩
/-- What is wanted behind a packet of the number i. -/
def wantF (k i : Nat) : Nat := if i = k then k + 1 else k
theorem wantF_ge (k i : Nat) : k ≤ wantF k i := by unfold wantF; split <;> omega
theorem wantF_hear (k i : Nat) : hearW (k : Int) (i : Int) = ((wantF k i : Nat) : Int) := by unfold hearW wantF; split <;> split <;> omega
theorem take_hear {L : List Ml} {k i : Nat} {m : Ml} (h : L[i]? = some m) : L.take k ++ hearL (k : Int) (i : Int) m = L.take (wantF k i) := by
  unfold hearL wantF
  by_cases e : i = k
  · subst e
    rw [if_pos rfl, if_pos rfl, take_snoc h]
  · rw [if_neg (by omega), if_neg e, List.append_nil]
theorem hearL_len (k i : Int) (m : Ml) : (hearL k i m).length ≤ 1 := by unfold hearL; split <;> simp
theorem Lin.hear {L : List Ml} {b k : Nat} {ps : List Pk} {ks : List Ml} (h : Lin L b k ps ks) {i : Nat} {m : Ml} (hm : L[i]? = some m) (hi : i < b + 4) : Lin L b (wantF k i) ps (ks ++ [(1, ((wantF k i : Nat) : Int))]) := by
  have hlt : i < L.length := (List.getElem?_eq_some_iff.1 hm).1
  have h1 := h.bk
  have h2 := h.kb
  have h3 := h.kn
  have h4 := wantF_ge k i
  refine ⟨by omega, by unfold wantF; split <;> omega, by unfold wantF; split <;> omega, h.pk, fun a ha => ?_⟩
  rcases List.mem_append.1 ha with ha | ha
  · obtain ⟨j, e, hj⟩ := h.ak a ha
    exact ⟨j, e, by omega⟩
  · simp only [List.mem_singleton] at ha
    exact ⟨_, ha, Nat.le_refl _⟩
theorem ackB_nat (b j : Nat) : ackB (b : Int) (j : Int) = ((max b j : Nat) : Int) := by unfold ackB; split <;> omega
theorem ackL_nat (L : List Ml) (b j : Nat) : ackL (b : Int) (j : Int) (L.drop b) = L.drop (max b j) := by
  unfold ackL
  rw [List.drop_drop]
  congr 1
  omega
theorem Lin.ack {L : List Ml} {b k : Nat} {ps : List Pk} {ks : List Ml} (h : Lin L b k ps ks) {j : Nat} (hj : j ≤ k) : Lin L (max b j) k ps ks := by
  have h1 := h.bk
  have h2 := h.kb
  refine ⟨by omega, by omega, h.kn, fun p hp => ?_, h.ak⟩
  obtain ⟨i, m, e, hm, hi⟩ := h.pk p hp
  exact ⟨i, m, e, hm, by omega⟩
theorem Lin.ack0 {L : List Ml} {b k : Nat} {ps : List Pk} {ks : List Ml} (h : Lin L b k ps ks) (hL : L.length ≤ 12) {j : Nat} (hj : j ≤ k) : ackE 1 (b : Int) (L.drop b).length 1 (j : Int) = 0 := by
  have h1 := h.bk
  have h2 := h.kb
  have h3 := h.kn
  have hm : mayS 1 (b : Int) (L.drop b).length = true := mayS_iff.2 ⟨by omega, by omega, by rw [List.length_drop]; omega⟩
  unfold ackE
  rw [hm, if_pos rfl, if_pos rfl, if_pos]
  rw [List.length_drop]
  omega

/-- Behind the trips, T many, it gets on: a third of the steps, and in which third it is. -/
def Tl (L : List Ml) (T i b k : Nat) (ps : List Pk) (ks : List Ml) : Prop :=
  ∀ T0, T0 % 3 = 0 → T ≤ T0 → T0 ≤ i → min L.length ((i - T0) / 3) ≤ b ∧ (i % 3 = 1 → ∃ pre, ps = pre ++ dueF 1 b (L.drop b)) ∧
    (i % 3 = 2 → min L.length ((i - T0) / 3 + 1) ≤ b ∨ (ks.getLast? = some (1, (k : Int)) ∧ min L.length ((i - T0) / 3 + 1) ≤ k))
theorem Tl.early {L : List Ml} {T i b k : Nat} {ps : List Pk} {ks : List Ml} (h : i ≤ T) : Tl L T i b k ps ks := by
  intro T0 h0 h1 h2
  have e : T0 = i := by omega
  subst e
  refine ⟨by simp, fun h => by omega, fun h => by omega⟩
theorem Tl.due {L : List Ml} {T i b k : Nat} {ps : List Pk} {ks : List Ml} (h : Tl L T i b k ps ks) (h3 : i % 3 = 0) : Tl L T (i + 1) b k (ps ++ dueF 1 b (L.drop b)) ks := by
  intro T0 h0 h1 h2
  obtain ⟨k1, _, _⟩ := h T0 h0 h1 (by omega)
  have e : (i + 1 - T0) / 3 = (i - T0) / 3 := by omega
  rw [e]
  exact ⟨k1, fun _ => ⟨ps, rfl⟩, fun h => by omega⟩
theorem Tl.hear {L : List Ml} {T i b k k' : Nat} {ps : List Pk} {ks ks2 : List Ml} (h : Tl L T i b k ps ks) (h3 : i % 3 = 1) (hn : ps ≠ [] → ks2.getLast? = some (1, (k' : Int)))
    (hD : ∀ pre, ps = pre ++ dueF 1 b (L.drop b) → b + min 4 (L.length - b) ≤ k') : Tl L T (i + 1) b k' ps ks2 := by
  intro T0 h0 h1 h2
  obtain ⟨k1, k2, _⟩ := h T0 h0 h1 (by omega)
  obtain ⟨pre, hpre⟩ := k2 h3
  have hd := hD pre hpre
  have e : (i + 1 - T0) / 3 = (i - T0) / 3 := by omega
  rw [e]
  refine ⟨k1, fun h => by omega, fun _ => ?_⟩
  rcases Nat.lt_or_ge b L.length with hb | hb
  · refine .inr ⟨hn fun e => ?_, by omega⟩
    rw [e] at hpre
    have hl := congrArg List.length hpre
    rw [List.length_append, dueF_len, List.length_drop] at hl
    simp at hl
    omega
  · exact .inl (by omega)
theorem Tl.ack {L : List Ml} {T i b b' k : Nat} {ps : List Pk} {ks : List Ml} (h : Tl L T i b k ps ks) (h3 : i % 3 = 2) (hb : b ≤ b') (ha : ∀ a ∈ ks, ∀ j : Nat, a = (1, (j : Int)) → j ≤ b') : Tl L T (i + 1) b' k ps ks := by
  intro T0 h0 h1 h2
  rcases Nat.lt_or_ge i T0 with hlt | hge
  · have e : T0 = i + 1 := by omega
    subst e
    exact ⟨by simp, fun h => by omega, fun h => by omega⟩
  · obtain ⟨_, _, k3⟩ := h T0 h0 h1 hge
    have e : (i + 1 - T0) / 3 = (i - T0) / 3 + 1 := by omega
    rw [e]
    refine ⟨?_, fun h => by omega, fun h => by omega⟩
    rcases k3 h3 with k3 | ⟨k3, k4⟩
    · omega
    · have := ha _ (List.mem_of_getLast? k3) k rfl
      omega
theorem Tl.done {L : List Ml} {T M b k : Nat} {ps : List Pk} {ks : List Ml} (h : Tl L T (T + M) b k ps ks) (hM : 3 * (L.length + 2) ≤ M) : L.length ≤ b := by
  have h0 := (h (T + (3 - T % 3) % 3) (by omega) (by omega) (by omega)).1
  have : L.length ≤ (T + M - (T + (3 - T % 3) % 3)) / 3 := by omega
  omega
end Go.Proofs.Ytjmjpmnjibdhhaa
