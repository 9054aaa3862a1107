/-
  What comes of P4 in plain mathematics, for graphs that made makes.
-/
import Derived.Test.YtpoablcdfiimhabMadeWalk
import Derived.Test.YtpoablcdfiimhabOrderWalk
namespace Go.Proofs.Ytpoablcdfiimhab

theorem made_len (N : Int) (ws : List Ed) : (madeL N ws).length ≤ 10 := by simp [madeL]; omega
theorem made_right {N : Int} {ws : List Ed} (h0 : 0 < N) (h1 : N ≤ 200) : faultE N (madeL N ws) = 0 := by
  refine ok_fault (by omega) h1 (by have := made_len N ws; omega) fun e he => ?_
  unfold madeL at he
  obtain ⟨x, _, rfl⟩ := List.mem_map.1 he
  have a := pickF_bd x.1 N h0
  have b := pickF_bd x.2.1 N h0
  have c := pickF_bd x.2.2 10 (by omega)
  refine out_of_in a b ?_
  show 0 ≤ pickF x.2.2 10 ∧ pickF x.2.2 10 ≤ 1099511627776
  omega
theorem turn_right {N : Int} {es : List Ed} (h : faultE N es = 0) : faultE N (sortE (es.map turnE)) = 0 := by
  obtain ⟨h0, h1, h2, h3⟩ := fault_ok h
  refine ok_fault h0 h1 (by rw [sortE_len, List.length_map]; exact h2) fun e he => ?_
  have he2 := (sortE_perm _).mem_iff.1 he
  obtain ⟨x, hx, rfl⟩ := List.mem_map.1 he2
  obtain ⟨a, b, c, d, e, f⟩ := in_of_out (h3 x hx)
  exact out_of_in ⟨c, d⟩ ⟨a, b⟩ ⟨e, f⟩
theorem turn_turn (es : List Ed) : sortE ((sortE (es.map turnE)).map turnE) = sortE es := by
  refine sort_congr ?_
  have h1 := (sortE_perm (es.map turnE)).map turnE
  rw [List.map_map] at h1
  have e : turnE ∘ turnE = id := rfl
  rw [e, List.map_id] at h1
  exact h1
end Go.Proofs.Ytpoablcdfiimhab
