/-
  P15 as functions: what may stand on a board, what is heard, when a round is over.
-/
import Derived.Test.YtpikfiegmnmbmaaRowCore
namespace Go.Proofs.Ytpikfiegmnmbmaa
set_option maxRecDepth 100000

/-- A report. -/
structure RpL where
  worker : Int
  epoch : Int
  step : Int
  sent : List Int
  got : List Int
  waking : Int
  opn : Int
/-- A board: how many workers, the epoch, the step, the reports. -/
structure BdL where
  workers : Int
  epoch : Int
  step : Int
  reps : List RpL
def bd0 : BdL := ⟨0, 0, 0, []⟩
def numB (n : Int) : Bool := decide (0 ≤ n ∧ n ≤ 1099511627776)
theorem numB_iff {n : Int} : numB n = true ↔ 0 ≤ n ∧ n ≤ 1099511627776 := decide_eq_true_iff
theorem numB_no {n : Int} : numB n = false ↔ ¬ (0 ≤ n ∧ n ≤ 1099511627776) := decide_eq_false_iff_not
/-- Numbers for each worker, all within bounds. -/
def cntB (W : Int) (l : List Int) : Bool := decide ((l.length : Int) = W) && l.all numB
theorem cntB_iff {W : Int} {l : List Int} : cntB W l = true ↔ (l.length : Int) = W ∧ ∀ x ∈ l, numB x = true := by
  unfold cntB
  rw [Bool.and_eq_true, decide_eq_true_iff, List.all_eq_true]
/-- Which error opening tells (P15.1). -/
def opE (W E S : Int) : Int := if (1 ≤ W ∧ W ≤ 8) ∧ numB E = true ∧ 0 ≤ S ∧ S ≤ 100000 then 0 else 2
/-- The report is within its ranges (P15.2). -/
def inR (W : Int) (r : RpL) : Bool := decide (0 ≤ r.worker ∧ r.worker < W) && (cntB W r.sent && (cntB W r.got && (numB r.waking && numB r.opn)))
theorem inR_iff {W : Int} {r : RpL} : inR W r = true ↔ (0 ≤ r.worker ∧ r.worker < W) ∧ cntB W r.sent = true ∧ cntB W r.got = true ∧ numB r.waking = true ∧ numB r.opn = true := by
  unfold inR
  rw [Bool.and_eq_true, Bool.and_eq_true, Bool.and_eq_true, Bool.and_eq_true, decide_eq_true_iff]
/-- Which error tells that a report may not stand (P15.2). -/
def stE (b : BdL) (r : RpL) : Int := if inR b.workers r = true then (if r.epoch = b.epoch ∧ r.step = b.step then 0 else 11) else 2
/-- Is there a report of this worker? -/
def byB (l : List RpL) (k : Int) : Bool := l.any fun r => r.worker == k
theorem byB_iff {l : List RpL} {k : Int} : byB l k = true ↔ ∃ r ∈ l, r.worker = k := by
  unfold byB
  rw [List.any_eq_true]
  exact ⟨fun ⟨r, h1, h2⟩ => ⟨r, h1, by simpa using h2⟩, fun ⟨r, h1, h2⟩ => ⟨r, h1, by simpa using h2⟩⟩
theorem byB_no {l : List RpL} {k : Int} : byB l k = false ↔ ∀ r ∈ l, r.worker ≠ k := by
  rw [← Bool.not_eq_true, byB_iff]
  exact ⟨fun h r h1 h2 => h ⟨r, h1, h2⟩, fun h ⟨r, h1, h2⟩ => h r h1 h2⟩
/-- A board up to its k-th report. -/
def upB (b : BdL) (k : Nat) : Prop := ∀ i r, i < k → b.reps[i]? = some r → stE b r = 0 ∧ byB (b.reps.take i) r.worker = false
theorem upB_zero (b : BdL) : upB b 0 := fun i _ h => by omega
theorem upB_step {b : BdL} {k : Nat} {r : RpL} (h : upB b k) (hr : b.reps[k]? = some r) (h1 : stE b r = 0) (h2 : byB (b.reps.take k) r.worker = false) : upB b (k + 1) := fun i x hi hx => by
  rcases Nat.lt_or_ge i k with h' | h'
  · exact h i x h' hx
  · have e : i = k := by omega
    subst e
    rw [hr] at hx
    injection hx with hx
    subst hx
    exact ⟨h1, h2⟩
def mayBd (b : BdL) : Bool := opE b.workers b.epoch b.step == 0 && (List.range b.reps.length).all fun i => match b.reps[i]? with | none => true | some r => stE b r == 0 && !byB (b.reps.take i) r.worker
theorem mayBd_iff {b : BdL} : mayBd b = true ↔ opE b.workers b.epoch b.step = 0 ∧ upB b b.reps.length := by
  unfold mayBd
  rw [Bool.and_eq_true, beq_iff_eq, List.all_eq_true]
  refine and_congr Iff.rfl ⟨fun h i r hi hr => ?_, fun h i hi => ?_⟩
  · have h1 := h i (List.mem_range.2 hi)
    rw [hr] at h1
    simpa using h1
  · rw [List.mem_range] at hi
    obtain ⟨r, hr⟩ : ∃ r, b.reps[i]? = some r := ⟨b.reps[i], List.getElem?_eq_getElem hi⟩
    rw [hr]
    simpa using h i r hi hr
theorem mayBd_open {b : BdL} (h : opE b.workers b.epoch b.step ≠ 0) : mayBd b = false := by
  rw [← Bool.not_eq_true, mayBd_iff]
  exact fun h' => h h'.1
theorem mayBd_yes {b : BdL} (h : opE b.workers b.epoch b.step = 0) (h2 : upB b b.reps.length) : mayBd b = true := mayBd_iff.2 ⟨h, h2⟩
theorem mayBd_bad {b : BdL} {k : Nat} {r : RpL} (hr : b.reps[k]? = some r) (h : stE b r ≠ 0) : mayBd b = false := by
  rw [← Bool.not_eq_true, mayBd_iff]
  exact fun h' => h (h'.2 k r (List.getElem?_eq_some_iff.1 hr).1 hr).1
theorem mayBd_two {b : BdL} {k : Nat} {r : RpL} (hr : b.reps[k]? = some r) (h : byB (b.reps.take k) r.worker = true) : mayBd b = false := by
  rw [← Bool.not_eq_true, mayBd_iff]
  exact fun h' => by have := (h'.2 k r (List.getElem?_eq_some_iff.1 hr).1 hr).2; rw [h] at this; cases this
/-- The place of a worker's report; -1: none. -/
def atR : List RpL → Int → Int
  | [], _ => -1
  | f :: r, n => if f.worker = n then 0 else if atR r n < 0 then -1 else atR r n + 1
theorem atR_cases : ∀ (fs : List RpL) (n : Int), (∃ (k : Nat) (r : RpL), fs[k]? = some r ∧ atR fs n = k ∧ r.worker = n ∧ byB (fs.take k) n = false) ∨ (atR fs n = -1 ∧ byB fs n = false)
  | [], n => .inr ⟨rfl, rfl⟩
  | f :: fs, n => by
    by_cases h : f.worker = n
    · exact .inl ⟨0, f, rfl, by simp [atR, h], h, rfl⟩
    · rcases atR_cases fs n with ⟨k, r, h1, h2, h3, h4⟩ | ⟨h1, h2⟩
      · refine .inl ⟨k + 1, r, by simpa using h1, ?_, h3, ?_⟩
        · rw [atR, if_neg h, if_neg (by omega), h2]; omega
        · rw [List.take_succ_cons, byB_no]
          intro x hx
          rcases List.mem_cons.1 hx with rfl | hx
          · exact h
          · exact byB_no.1 h4 x hx
      · refine .inr ⟨?_, ?_⟩
        · rw [atR, if_neg h, if_pos (by omega)]
        · rw [byB_no]
          intro x hx
          rcases List.mem_cons.1 hx with rfl | hx
          · exact h
          · exact byB_no.1 h2 x hx
theorem atR_hit {fs : List RpL} {n : Int} {k : Nat} {r : RpL} (hk : fs[k]? = some r) (hr : r.worker = n) (hn : byB (fs.take k) n = false) : atR fs n = k := by
  rcases atR_cases fs n with ⟨j, x, h1, h2, h3, h4⟩ | ⟨_, h2⟩
  · rcases Nat.lt_trichotomy j k with h | h | h
    · exact absurd h3 (byB_no.1 hn x (List.mem_of_getElem? (by rw [List.getElem?_take_of_lt h]; exact h1)))
    · rw [h2, h]
    · exact absurd hr (byB_no.1 h4 r (List.mem_of_getElem? (by rw [List.getElem?_take_of_lt h]; exact hk)))
  · exact absurd hr (byB_no.1 h2 r (List.mem_of_getElem? hk))
theorem atR_none {fs : List RpL} {n : Int} (hn : byB fs n = false) : atR fs n = -1 := by
  rcases atR_cases fs n with ⟨j, x, h1, h2, h3, h4⟩ | ⟨h1, _⟩
  · exact absurd h3 (byB_no.1 hn x (List.mem_of_getElem? h1))
  · exact h1
/-- The place is the report's own just if no one ahead of it is of its worker. -/
theorem atR_self {fs : List RpL} {k : Nat} {r : RpL} (hk : fs[k]? = some r) : atR fs r.worker = k ↔ byB (fs.take k) r.worker = false := by
  refine ⟨fun h => ?_, atR_hit hk rfl⟩
  rcases atR_cases fs r.worker with ⟨j, x, h1, h2, h3, h4⟩ | ⟨h1, h2⟩
  · have : j = k := by omega
    subst this
    exact h4
  · omega
theorem atR_neg {fs : List RpL} {n : Int} : (0 ≤ atR fs n) ↔ byB fs n = true := by
  rcases atR_cases fs n with ⟨j, x, h1, h2, h3, h4⟩ | ⟨h1, h2⟩
  · exact ⟨fun _ => byB_iff.2 ⟨x, List.mem_of_getElem? h1, h3⟩, fun _ => by omega⟩
  · rw [h2]
    exact ⟨fun h => by omega, fun h => by cases h⟩
/-- Which error Hear tells (P15.4). -/
def heE (b : BdL) (r : RpL) : Int := if mayBd b = true then (if stE b r = 0 then (if byB b.reps r.worker = true then 8 else 0) else stE b r) else 9
def heB (b : BdL) (r : RpL) : BdL := if heE b r = 0 then ⟨b.workers, b.epoch, b.step, b.reps ++ [r]⟩ else bd0
/-- All that was sent has come. -/
def cameB (l : List RpL) : Bool := l.all fun r => l.all fun s => r.sent.getD s.worker.toNat 0 == s.got.getD r.worker.toNat 0
/-- The sums, as both sides reckon them. -/
def sumR (f : RpL → Int) (l : List RpL) : Int := l.foldl (fun a r => IntKind.i64.wrap (a + f r)) 0
theorem sumR_snoc (f : RpL → Int) (l : List RpL) (r : RpL) : sumR f (l ++ [r]) = IntKind.i64.wrap (sumR f l + f r) := by
  unfold sumR
  rw [List.foldl_append]
  rfl
/-- Which error Ready tells (P15.5). -/
def rdE (b : BdL) : Int := if mayBd b = true then (if b.workers ≤ (b.reps.length : Int) ∧ cameB b.reps = true then 0 else 12) else 9
def rdA (b : BdL) (f : RpL → Int) : Int := if rdE b = 0 then sumR f b.reps else 0
end Go.Proofs.Ytpikfiegmnmbmaa
