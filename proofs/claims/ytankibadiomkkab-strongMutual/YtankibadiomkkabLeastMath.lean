/-
  Lists of least vertices over a tie that goes both ways and on: who has the same number.
-/
import Derived.Test.YtankibadiomkkabStrongMath
namespace Go.Proofs.Ytankibadiomkkab
set_option maxRecDepth 100000

section
variable {n : Nat} {T : Int → Int → Prop} {l : List Int}
theorem least_le_self (hr : ∀ v, T v v) (h : LeastL n T l) {v : Int} (hv : 0 ≤ v ∧ v < (n : Int)) : atD l v ≤ v := (h.2 v hv).2.2 v hv (hr v)
theorem least_same (hs : ∀ u v, T u v → T v u) (ht : ∀ u x v, T u x → T x v → T u v) (h : LeastL n T l) {u v : Int} (hu : 0 ≤ u ∧ u < (n : Int)) (hv : 0 ≤ v ∧ v < (n : Int)) : atD l u = atD l v ↔ T u v := by
  obtain ⟨a1, a2, a3⟩ := h.2 u hu
  obtain ⟨b1, b2, b3⟩ := h.2 v hv
  constructor
  · intro e
    rw [← e] at b2
    exact ht _ _ _ (hs _ _ a2) b2
  · intro t
    have h1 := b3 _ a1 (ht _ _ _ a2 t)
    have h2 := a3 _ b1 (ht _ _ _ b2 (hs _ _ t))
    omega
theorem least_again (hs : ∀ u v, T u v → T v u) (ht : ∀ u x v, T u x → T x v → T u v) (h : LeastL n T l) {v : Int} (hv : 0 ≤ v ∧ v < (n : Int)) : atD l (atD l v) = atD l v :=
  (least_same hs ht h (h.2 v hv).1 hv).2 (h.2 v hv).2.1
end
theorem Rch.mono {es es' : List Ed} {u v : Int} (h : Rch es u v) (hm : ∀ e ∈ es, e ∈ es') : Rch es' u v := by
  obtain ⟨p, hp, hc⟩ := h
  exact ⟨p, fun e he => hm e (hp e he), hc⟩
/-- Each edge, and the same one the other way behind it. -/
def bothI (es : List Ed) : List Ed := es.flatMap fun e => [e, (e.2.1, e.1, e.2.2)]
theorem bothI_mem {es : List Ed} {e : Ed} : e ∈ bothW es ↔ e ∈ bothI es := by
  unfold bothW bothI
  simp only [List.mem_append, List.mem_map, List.mem_flatMap, List.mem_cons, List.not_mem_nil, or_false]
  constructor
  · rintro (h | ⟨d, hd, rfl⟩)
    · exact ⟨e, h, .inl rfl⟩
    · exact ⟨d, hd, .inr rfl⟩
  · rintro ⟨d, hd, rfl | rfl⟩
    · exact .inl hd
    · exact .inr ⟨d, hd, rfl⟩
theorem bothI_snoc (es : List Ed) (e : Ed) : bothI (es ++ [e]) = bothI es ++ [e, (e.2.1, e.1, e.2.2)] := by simp [bothI]
theorem bothI_len (es : List Ed) : (bothI es).length = 2 * es.length := by
  induction es with
  | nil => rfl
  | cons e es ih =>
    have : bothI (e :: es) = [e, (e.2.1, e.1, e.2.2)] ++ bothI es := by simp [bothI]
    rw [this, List.length_append, ih]
    simp
    omega
end Go.Proofs.Ytankibadiomkkab
