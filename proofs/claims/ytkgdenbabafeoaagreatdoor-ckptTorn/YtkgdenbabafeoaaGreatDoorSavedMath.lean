/-
  P14 as functions: what may be saved, its numbers, its bytes.
-/
import Derived.Test.YtkgdenbabafeoaaGreatDoorQueueMath
import Derived.Test.YtkgdenbabafeoaaGreatDoorWrapWalk
namespace Go.Proofs.YtkgdenbabafeoaaGreatDoor
set_option maxRecDepth 100000

/-- What is saved. -/
structure SvS where
  step : Int
  phase : Int
  fresh : Bool
  vals : List Ml
  mail : List Ml
def sv0 : SvS := ⟨0, 0, false, [], []⟩
/-- Whether a value may be saved. -/
def valS (x : Ml) : Bool := decide (-1 ≤ x.1 ∧ x.1 ≤ 4398046511104 ∧ -1 ≤ x.2 ∧ x.2 < 200)
theorem valS_iff {x : Ml} : valS x = true ↔ -1 ≤ x.1 ∧ x.1 ≤ 4398046511104 ∧ -1 ≤ x.2 ∧ x.2 < 200 := decide_eq_true_iff
theorem valS_no {x : Ml} : valS x = false ↔ ¬ (-1 ≤ x.1 ∧ x.1 ≤ 4398046511104 ∧ -1 ≤ x.2 ∧ x.2 < 200) := decide_eq_false_iff_not
def valA (l : List Ml) : Bool := l.all valS
theorem valA_iff {l : List Ml} : valA l = true ↔ ∀ x ∈ l, valS x = true := by unfold valA; rw [List.all_eq_true]
theorem valA_cut {l : List Ml} {k : Nat} {x : Ml} (hx : l[k]? = some x) (h : valA (l.take k) = true) (hm : valS x = true) : valA (l.take (k + 1)) = true := by
  rw [take_snoc hx]
  unfold valA at h ⊢
  rw [List.all_append, h]
  show (true && (valS x && true)) = true
  rw [hm]; rfl
theorem valA_hit {l : List Ml} {k : Nat} {x : Ml} (hx : l[k]? = some x) (hm : valS x = false) : valA l = false := by
  rw [Bool.eq_false_iff]
  intro h
  rw [valA_iff.1 h x (List.mem_of_getElem? hx)] at hm
  cases hm
/-- P14.1 -/
def svMay (s : SvS) : Bool := decide (0 ≤ s.step ∧ s.step ≤ 100000 ∧ (s.phase = 0 ∨ s.phase = 1)) && (decide (s.vals.length ≤ 200) && (valA s.vals && (decide (s.mail.length ≤ 5000) && (srtMb s.mail && mayA s.mail))))
theorem svMay_iff {s : SvS} : svMay s = true ↔ (0 ≤ s.step ∧ s.step ≤ 100000 ∧ (s.phase = 0 ∨ s.phase = 1)) ∧ s.vals.length ≤ 200 ∧ valA s.vals = true ∧ s.mail.length ≤ 5000 ∧ srtMb s.mail = true ∧ mayA s.mail = true := by
  unfold svMay
  simp only [Bool.and_eq_true, decide_eq_true_eq]
/-- The numbers of a list of pairs. -/
def pairN (d : Int) (l : List Ml) : List Int := l.flatMap fun x => [x.1 + d, x.2 + d]
/-- P14.2: the numbers. -/
def numsS (s : SvS) : List Int := [s.step, s.phase, if s.fresh then 1 else 0, (s.vals.length : Int)] ++ (pairN 1 s.vals ++ ([(s.mail.length : Int)] ++ pairN 0 s.mail))
/-- Their bytes. -/
def bytN (l : List Int) : List Int := l.flatMap put
theorem bytN_app (a b : List Int) : bytN (a ++ b) = bytN a ++ bytN b := List.flatMap_append
theorem bytN_nil : bytN [] = [] := rfl
theorem bytN_one (n : Int) : bytN [n] = put n := by simp [bytN]
theorem pairN_app (d : Int) (a b : List Ml) : pairN d (a ++ b) = pairN d a ++ pairN d b := List.flatMap_append
theorem pairN_one (d : Int) (x : Ml) : pairN d [x] = [x.1 + d, x.2 + d] := by simp [pairN]
theorem pairN_len (d : Int) : ∀ l : List Ml, (pairN d l).length = 2 * l.length
  | [] => rfl
  | x :: l => by
    have := pairN_len d l
    show ((x.1 + d) :: (x.2 + d) :: pairN d l).length = _
    simp only [List.length_cons]
    omega
theorem numsS_len (s : SvS) : (numsS s).length = 5 + 2 * s.vals.length + 2 * s.mail.length := by
  unfold numsS
  simp only [List.length_append, pairN_len, List.length_cons, List.length_nil]
  omega
theorem bytN_len : ∀ l : List Int, (bytN l).length ≤ 10 * l.length
  | [] => by simp [bytN]
  | n :: l => by
    have := bytN_len l
    have := put_len n
    show (put n ++ bytN l).length ≤ _
    simp only [List.length_append, List.length_cons]
    omega
/-- Each number of what may be saved is one that Put takes. -/
theorem numsS_in {s : SvS} (h : svMay s = true) : ∀ n ∈ numsS s, 0 ≤ n ∧ n ≤ 4398046511105 := by
  obtain ⟨⟨h1, h2, h3⟩, h4, h5, h6, _, h7⟩ := svMay_iff.1 h
  have hv := valA_iff.1 h5
  have hm := mayA_iff.1 h7
  intro n hn
  unfold numsS at hn
  simp only [List.mem_append, List.mem_cons, List.not_mem_nil, or_false] at hn
  rcases hn with (rfl | rfl | rfl | rfl) | hn | rfl | hn
  · omega
  · omega
  · cases s.fresh <;> simp
  · omega
  · unfold pairN at hn
    obtain ⟨x, hx, hn⟩ := List.mem_flatMap.1 hn
    have := valS_iff.1 (hv x hx)
    simp only [List.mem_cons, List.not_mem_nil, or_false] at hn
    rcases hn with rfl | rfl <;> omega
  · omega
  · unfold pairN at hn
    obtain ⟨x, hx, hn⟩ := List.mem_flatMap.1 hn
    have := mayM_iff.1 (hm x hx)
    simp only [List.mem_cons, List.not_mem_nil, or_false] at hn
    rcases hn with rfl | rfl <;> omega
theorem bytN_bytes {l : List Int} (h : ∀ n ∈ l, 0 ≤ n ∧ n ≤ 18446744073709551615) : ∀ x ∈ bytN l, 0 ≤ x ∧ x ≤ 255 := fun x hx => by
  obtain ⟨n, hn, hx⟩ := List.mem_flatMap.1 hx
  exact put_bytes (h n hn).1 (h n hn).2 x hx
/-- P14.2: which bytes, and which error. -/
def encS (s : SvS) : List Int × Int := if svMay s = true then (if (bytN (numsS s)).length ≤ 20000 then (wrap (bytN (numsS s)), 0) else ([], 1)) else ([], 9)
theorem encS_no {s : SvS} (h : svMay s = false) : encS s = ([], 9) := by unfold encS; rw [if_neg (by rw [h]; simp)]
theorem encS_big {s : SvS} (h : svMay s = true) (h2 : ¬ (bytN (numsS s)).length ≤ 20000) : encS s = ([], 1) := by unfold encS; rw [if_pos h, if_neg h2]
theorem encS_yes {s : SvS} (h : svMay s = true) (h2 : (bytN (numsS s)).length ≤ 20000) : encS s = (wrap (bytN (numsS s)), 0) := by unfold encS; rw [if_pos h, if_pos h2]
end Go.Proofs.YtkgdenbabafeoaaGreatDoor
