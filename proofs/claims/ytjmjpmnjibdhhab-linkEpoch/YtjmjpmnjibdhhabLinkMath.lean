/-
  P10 in plain mathematics: which senders may be, what is due, what errors are answered.
-/
import Derived.Test.YtjmjpmnjibdhhabMailMem
import Derived.Test.YtjmjpmnjibdhhabLinkMem
namespace Go.Proofs.Ytjmjpmnjibdhhab
set_option maxRecDepth 100000

/-- From 0 to 2^40. -/
def wi (n : Int) : Bool := decide (0 ≤ n) && decide (n ≤ 1099511627776)
theorem wi_yes {n : Int} (h : 0 ≤ n ∧ n ≤ 1099511627776) : wi n = true := by simp [wi, h.1, h.2]
theorem wi_iff {n : Int} : wi n = true ↔ 0 ≤ n ∧ n ≤ 1099511627776 := by simp [wi]
theorem wi_no {n : Int} : wi n = false ↔ ¬ (0 ≤ n ∧ n ≤ 1099511627776) := by rw [← wi_iff]; simp
/-- P10.1: a sender may be. -/
def mayS (e b : Int) (n : Nat) : Bool := wi e && wi b && decide (n ≤ 5000)
theorem mayS_iff {e b : Int} {n : Nat} : mayS e b n = true ↔ (0 ≤ e ∧ e ≤ 1099511627776) ∧ (0 ≤ b ∧ b ≤ 1099511627776) ∧ n ≤ 5000 := by simp [mayS, wi_iff, and_assoc]
/-- P10.3: which error Send answers. -/
def sendE (e b : Int) (n : Nat) : Int := if mayS e b n then (if n = 5000 then 10 else 0) else 9
/-- P10.4: the packets of the first loads. -/
def pksF (e : Int) : Int → List Ml → List Pk
  | _, [] => []
  | b, m :: l => (e, b, m) :: pksF e (b + 1) l
def dueF (e b : Int) (l : List Ml) : List Pk := pksF e b (l.take 4)
def dueE (e b : Int) (n : Nat) : Int := if mayS e b n then 0 else 9
theorem pksF_len (e : Int) : ∀ (b : Int) (l : List Ml), (pksF e b l).length = l.length
  | _, [] => rfl
  | b, m :: l => by simp [pksF, pksF_len e (b + 1) l]
theorem dueF_len (e b : Int) (l : List Ml) : (dueF e b l).length = min 4 l.length := by rw [dueF, pksF_len, List.length_take]
theorem pksF_at (e : Int) : ∀ (b : Int) (l : List Ml) (i : Nat), (pksF e b l)[i]? = (l[i]?).map fun m => (e, b + i, m)
  | _, [], i => by simp [pksF]
  | b, m :: l, 0 => by simp [pksF]
  | b, m :: l, i + 1 => by
    rw [pksF, List.getElem?_cons_succ, pksF_at e (b + 1) l i, List.getElem?_cons_succ]
    have : b + 1 + (i : Int) = b + ((i + 1 : Nat) : Int) := by omega
    rw [this]
theorem pksF_snoc (e : Int) : ∀ (b : Int) (l : List Ml) (m : Ml), pksF e b (l ++ [m]) = pksF e b l ++ [(e, b + l.length, m)]
  | b, [], m => by simp [pksF]
  | b, x :: l, m => by
    rw [List.cons_append, pksF, pksF_snoc e (b + 1) l m, pksF, List.cons_append, List.length_cons]
    have : b + 1 + (l.length : Int) = b + ((l.length + 1 : Nat) : Int) := by omega
    rw [this]
/-- P10.5: which error Acked answers, of an ack of the epoch x and the number k. -/
def ackE (e b : Int) (n : Nat) (x k : Int) : Int :=
  if mayS e b n then (if x = e then (if 0 ≤ k ∧ k ≤ b + ((min 4 n : Nat) : Int) then 0 else 2) else 11) else 9
/-- P10.6: which error Hear answers. -/
def hearE (e k x : Int) : Int := if wi e && wi k then (if x = e then 0 else 11) else 9
/-- What is handed on. -/
def hearL (k n : Int) (m : Ml) : List Ml := if n = k then [m] else []
def hearW (k n : Int) : Int := if n = k then k + 1 else k
end Go.Proofs.Ytjmjpmnjibdhhab
