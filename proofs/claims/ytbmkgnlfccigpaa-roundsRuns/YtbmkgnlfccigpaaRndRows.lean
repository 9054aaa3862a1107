/-
  What a vertex does, what comes behind a round, rows of other types: small laws that both sides use.
-/
import Derived.Test.YtbmkgnlfccigpaaRndSaid
import Derived.Test.YtbmkgnlfccigpaaKeptMem
namespace Go.Proofs.Ytbmkgnlfccigpaa
set_option maxRecDepth 100000
open Go.ChangeShapes Go.WideShapes Go.ChangeAt Go.RowKit

theorem rnd_yesF {j : Jb} {s : Int} {T : StS} {c : Nat} {x : Ml} {l : List Int} (hx : T.vals[c]? = some x) (hl : T.mail[c]? = some l) (h : T.fresh = true ∨ 0 < l.length) : rndV j s T (c : Int) = wakeV j (c : Int) s x T.fresh l := by
  have e1 : vlA T.vals (c : Int) = x := by unfold vlA; rw [List.getD_eq_getElem?_getD, Int.toNat_natCast, hx]; rfl
  have e2 : mlA T.mail (c : Int) = l := by unfold mlA; rw [List.getD_eq_getElem?_getD, Int.toNat_natCast, hl]; rfl
  unfold rndV
  rw [e1, e2, if_pos]
  rcases h with h | h
  · rw [h]; rfl
  · cases l with
    | nil => simp at h
    | cons a l => simp
theorem rnd_noF {j : Jb} {s : Int} {T : StS} {c : Nat} {x : Ml} {l : List Int} (hx : T.vals[c]? = some x) (hl : T.mail[c]? = some l) (h : T.fresh = false) (h2 : ¬ 0 < l.length) : rndV j s T (c : Int) = (x, false) := by
  have e1 : vlA T.vals (c : Int) = x := by unfold vlA; rw [List.getD_eq_getElem?_getD, Int.toNat_natCast, hx]; rfl
  have e2 : mlA T.mail (c : Int) = l := by unfold mlA; rw [List.getD_eq_getElem?_getD, Int.toNat_natCast, hl]; rfl
  have e3 : l = [] := List.eq_nil_of_length_eq_zero (by omega)
  unfold rndV
  rw [e1, e2, if_neg (by rw [h, e3]; simp)]
theorem own_curF {w : World} {base g n cap size : Nat} {e : TypeId} {xs : List Value} (h : w.ownsRow base e size (.slice (some ⟨g, 0, none⟩) n cap) n xs) : ∃ cur, w.heap[g]? = some (.cells cur e (0, 0)) := by
  rcases h.2 with ⟨hv, _⟩ | ⟨g3, c3, cur, hv, _, hgg, _⟩
  · cases hv
  · injection hv with hv
    injection hv with hv
    injection hv with hv
    subst hv
    exact ⟨cur, hgg⟩
/-- Stores into a row leave a row of another type. -/
theorem own_elseF {w w' : World} {base b g n m size size' cap : Nat} {e e' : TypeId} {v : Value} {xs ys : List Value} (h : w.ownsRow base e size v n xs) (h2 : w.ownsRow b e' size' (.slice (some ⟨g, 0, none⟩) m cap) m ys) (hne : e ≠ e') (hk : Kept (fun k => k = g) w w') : w'.ownsRow base e size v n xs := by
  obtain ⟨cur, hc⟩ := own_curF h2
  exact hk.own h fun q hq e => own_block h hq hc hne e

theorem beh_mailF {j : Jb} {a p : Int} {vs : List Ml} {ms : List (List Int)} (h : 0 < manyL ms) : behR j a p vs ms = ⟨a + 1, p, false, false, vs, ms⟩ := by unfold behR; rw [if_pos h]
theorem beh_doneF {j : Jb} {a p : Int} {vs : List Ml} {ms : List (List Int)} (h : ¬ 0 < manyL ms) (h2 : (!j.1 || (j.2 && !openV vs)) = true) : behR j a p vs ms = ⟨a + 1, p, false, true, vs, ms⟩ := by unfold behR; rw [if_neg h, if_pos h2]
theorem beh_turnF {j : Jb} {a p : Int} {vs : List Ml} {ms : List (List Int)} (h : ¬ 0 < manyL ms) (h2 : (!j.1 || (j.2 && !openV vs)) = false) : behR j a p vs ms = ⟨a + 1, 1 - p, true, false, vs, ms⟩ := by unfold behR; rw [if_neg h, if_neg (by rw [h2]; simp)]

theorem jobs_of {k p : Int} {j : Jb} (h : jobF k p = some j) : k = Jb.k j ∧ p = Jb.p j := by
  rcases jobF_cases k p with hn | ⟨j', h1, h2⟩
  · rw [hn.1] at h; cases h
  · have h3 := jobF_of j'
    rw [← h1, ← h2, h] at h3
    injection h3 with h3
    subst h3
    exact ⟨h1, h2⟩

end Go.Proofs.Ytbmkgnlfccigpaa
