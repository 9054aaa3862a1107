/-
  What P13.2, P13.4 and P13.7 answer, as functions.
-/
import Derived.Test.YtinijeejfnehmaaMayMath
import Derived.Test.YtinijeejfnehmaaRefJob0
import Derived.Test.YtinijeejfnehmaaRowCore
namespace Go.Proofs.Ytinijeejfnehmaa
set_option maxRecDepth 100000
open Go.ChangeShapes Go.WideShapes Go.ChangeAt Go.RowKit

/-- P13.2: what is answered. -/
def begE (n : Int) (es : List Ed) (k s : Int) : Int × StS := if jobE n es k s = 0 then (0, beginS n.toNat) else (jobE n es k s, st0)

/-- What a value tells of its vertex. -/
def tellV (k : Int) (x : Ml) : Int := if k = 3 then x.2 else x.1
/-- P13.7. -/
def ansE (n : Int) (es : List Ed) (k s : Int) (T : StS) : Int × List Int :=
  if jobE n es k s ≠ 0 then (jobE n es k s, []) else if mayR n.toNat k T = false then (9, []) else if T.done = false then (12, []) else (0, T.vals.map (tellV k))
/-- Numbers that are answered, and an error. -/
def NumP (w : World) (r : Int × List Int) (e : Ending) (w' : World) : Prop :=
  ∃ v', e = .returned (.tuple #[v', .int .i64 r.1]) ∧ w'.ownsRow w.heap.size 3 1 v' r.2.length (r.2.flatMap encI) ∧ Below w.heap.size w w'
theorem NumP.no {w w' : World} {f : Int} (hb : Below w.heap.size w w') : NumP w (f, []) (.returned (.tuple #[.slice none 0 0, .int .i64 f])) w' := ⟨_, rfl, World.ownsRow_nil _ _ _ _, hb⟩

/-- P13.4. -/
def folE (n : Int) (es : List Ed) (k s : Int) (T : StS) : Int × StS := if jobE n es k s ≠ 0 then (jobE n es k s, st0) else nextE n.toNat es k s T
theorem folE_bad {n k s : Int} {es : List Ed} {T : StS} (h : jobE n es k s ≠ 0) : folE n es k s T = (jobE n es k s, st0) := if_pos h
theorem folE_no {n k s : Int} {es : List Ed} {T : StS} (h : jobE n es k s = 0) (h2 : mayR n.toNat k T = false) : folE n es k s T = (9, st0) := by
  unfold folE nextE; rw [if_neg (by simp [h]), if_neg (by simp [h2])]
theorem folE_done {n k s : Int} {es : List Ed} {T : StS} (h : jobE n es k s = 0) (h2 : mayR n.toNat k T = true) (h3 : T.done = true) : folE n es k s T = (0, T) := by
  unfold folE nextE; rw [if_neg (by simp [h]), if_pos h2, if_pos h3]
theorem folE_full {n k s : Int} {es : List Ed} {T : StS} (h : jobE n es k s = 0) (h2 : mayR n.toNat k T = true) (h3 : T.done = false) (h4 : 100000 ≤ T.step) : folE n es k s T = (10, st0) := by
  unfold folE nextE; rw [if_neg (by simp [h]), if_pos h2, if_neg (by simp [h3]), if_pos h4]
theorem folE_over {n k s : Int} {es : List Ed} {T : StS} {j : Jb} (h : jobE n es k s = 0) (h2 : mayR n.toNat k T = true) (h3 : T.done = false) (h4 : ¬ 100000 ≤ T.step) (h5 : jobF k T.phase = some j) (h6 : overR j (rndV j s T) es = true) : folE n es k s T = (6, st0) := by
  unfold folE nextE; rw [if_neg (by simp [h]), if_pos h2, if_neg (by simp [h3]), if_neg h4, h5]; simp only; rw [if_pos h6]
theorem folE_go {n k s : Int} {es : List Ed} {T : StS} {j : Jb} (h : jobE n es k s = 0) (h2 : mayR n.toNat k T = true) (h3 : T.done = false) (h4 : ¬ 100000 ≤ T.step) (h5 : jobF k T.phase = some j) (h6 : overR j (rndV j s T) es = false) : folE n es k s T = (0, nextS n.toNat es j s T) := by
  unfold folE nextE; rw [if_neg (by simp [h]), if_pos h2, if_neg (by simp [h3]), if_neg h4, h5]; simp only; rw [if_neg (by simp [h6])]
/-- What a state that may be holds, for its memory. -/
theorem mayR_size {n : Nat} {k : Int} {T : StS} (h : mayR n k T = true) : T.vals.length = n ∧ T.mail.length = n ∧ manyL T.mail ≤ 5000 := by
  have hl : T.vals.length = n ∧ T.mail.length = n := by
    by_cases g : T.vals.length = n ∧ T.mail.length = n
    · exact g
    · rw [mayR_len g] at h; cases h
  refine ⟨hl.1, hl.2, ?_⟩
  unfold mayR at h
  cases hj : jobF k T.phase with
  | none => rw [hj] at h; cases h
  | some j => rw [hj] at h; simp only [Bool.and_eq_true, decide_eq_true_eq] at h; exact h.2
theorem manyL_mem {m : List (List Int)} {l : List Int} (h : l ∈ m) : l.length ≤ manyL m := by
  unfold manyL
  induction m with
  | nil => cases h
  | cons x m ih =>
    rw [List.map_cons, List.sum_cons]
    rcases List.mem_cons.1 h with rfl | h
    · omega
    · have := ih h
      omega
end Go.Proofs.Ytinijeejfnehmaa
