/-
  Contracts of store.insist and of the reader's number: what is no part gives up by a panic.
-/
import Derived.Test.YtacpicnihgggaaaStoreMem
import Derived.Test.YtacpicnihgggaaaPartMath
namespace Go.Proofs.Ytacpicnihgggaaa
set_option maxRecDepth 100000
open Go.ChangeShapes Go.WideShapes Go.ChangeAt Go.RowKit

/-- The panic that gives up: the error f. -/
def upP (f : Int) : Ending := .panicked [{ v := .iface 27 (.int .i64 f), recovered := false }]

set_option maxHeartbeats 400000 in
theorem insist_yes (w : World) : Calls Try.prog 38 #[.bool true] w fun e w' => e = .returned (.tuple #[]) ∧ w' = w := by
  go_enter Try.func38, Try.ntmps38
  go_wp2
  go_end0
  exact ⟨rfl, rfl⟩
set_option maxHeartbeats 400000 in
theorem insist_no (w : World) : Calls Try.prog 38 #[.bool false] w fun e w' => e = upP 3 ∧ w' = w := by
  go_enter Try.func38, Try.ntmps38
  go_wp2
  exact ⟨rfl, rfl, rfl⟩

set_option maxHeartbeats 800000 in
set_option maxRecDepth 100000 in
/-- A number that is had. -/
theorem number_ok (q : Nat) (l r : List Int) (x : Int) (w : World) (h : Rd w q l) (hx : ∀ y ∈ l, 0 ≤ y ∧ y ≤ 255) (hn : numF 1099511627776 l = some (x, r)) :
    Calls Try.prog 59 #[.pointer (some ⟨q, 0, none⟩)] w fun e w' => e = .returned (.int .i64 x) ∧ Rd w' q r ∧ Kept (fun k => k = q) w w' := by
  obtain ⟨v, hq, hr, hb⟩ := h
  have HG : Hid (∀ X, Reads .u8 X v l → Calls Try.prog 23 #[v] X fun e w' => e = .returned (.tuple #[.int .u64 (get l).1, .int .i64 (get l).2.1, .int .i64 (get l).2.2]) ∧ w' = X) := fun X hX => get_any v l X hX hx
  rcases get_inv hx with ⟨e, he, hne⟩ | ⟨n, t, he, hl, h0, h1⟩
  · rw [numF_err he hne] at hn; cases hn
  · by_cases hm : n ≤ 1099511627776
    · rw [numF_yes he hm] at hn
      injection hn with hn
      injection hn with hn1 hn2
      subst hn1 hn2
      rw [he] at HG
      have hu := put_len n
      have hul : (put n).length ≤ l.length := by rw [hl]; simp
      have HR : Hid (Reads .u8 w v l) := hr
      obtain ⟨b, off, cap, rfl, hc, hmx, hbw, hcell⟩ := hr.plain (by omega)
      have HB : b < q := hb _ _ _ rfl
      have HQ : Hid (w.heap[q]? = some (.cells #[.slice (some ⟨b, off, none⟩) l.length cap] 73 (0, 0))) := hq
      have hc0 := box1_cell hq
      have hf0 := box_frozen hq 0
      have HD : Hid (Reads .u8 w (.slice (some ⟨b, off + (put n).length, none⟩) (l.length - (put n).length) (cap - (put n).length)) (l.drop (put n).length)) := reads_drop hc hmx hcell
      unfold maxLen at hmx
      clear he hl hq hr hb hcell hx
      generalize (put n).length = u at *
      go_enter Try.func59, Try.ntmps59
      go_wp2_with fail
      refine (HG.out _ HR.out).mono ?_
      rintro e w1 ⟨rfl, rfl⟩
      go_wp2_with fail
      refine (insist_yes _).mono ?_
      rintro e w1 ⟨rfl, rfl⟩
      by_cases huc : u < cap
      · go_wp2_with fail
        go_ret
        exact ⟨rfl, Rd.next HQ.out HD.out (fun a n c e => by injection e with e; injection e with e; subst e; exact HB), Kept.box _ _ _ _⟩
      · have HE : Hid (Reads .u8 w1 (.slice (some ⟨b, off, none⟩) (l.length - u) (cap - u)) (l.drop u)) := by
          have e1 : l.drop u = [] := List.drop_eq_nil_of_le (by omega)
          show Reads _ _ _ _
          rw [e1]
          exact ⟨_, _, by rw [show l.length - u = 0 by omega]; rfl, by simp, by unfold maxLen; omega, fun h => (by cases h), fun x _ i hi => by simp at hi⟩
        go_wp2_with fail
        go_ret
        exact ⟨rfl, Rd.next HQ.out HE.out (fun a n c e => by injection e with e; injection e with e; subst e; exact HB), Kept.box _ _ _ _⟩
    · rw [numF_big he (by omega)] at hn; cases hn

set_option maxHeartbeats 800000 in
set_option maxRecDepth 100000 in
/-- What is no number gives up. -/
theorem number_no (q : Nat) (l : List Int) (w : World) (h : Rd w q l) (hx : ∀ y ∈ l, 0 ≤ y ∧ y ≤ 255) (hn : numF 1099511627776 l = none) :
    Calls Try.prog 59 #[.pointer (some ⟨q, 0, none⟩)] w fun e w' => e = upP 3 ∧ w' = w := by
  obtain ⟨v, hq, hr, hb⟩ := h
  have HG : Hid (∀ X, Reads .u8 X v l → Calls Try.prog 23 #[v] X fun e w' => e = .returned (.tuple #[.int .u64 (get l).1, .int .i64 (get l).2.1, .int .i64 (get l).2.2]) ∧ w' = X) := fun X hX => get_any v l X hX hx
  have HR : Hid (Reads .u8 w v l) := hr
  have hc0 := box1_cell hq
  obtain ⟨va, vc, rfl, _⟩ := hr
  rcases get_inv hx with ⟨e, he, hne⟩ | ⟨n, t, he, hl, h0, h1⟩
  · rw [he] at HG
    have he1 : (e == 0) = false := by simpa using hne
    clear hn he hx hb hne
    go_enter Try.func59, Try.ntmps59
    go_wp2_with fail
    refine (HG.out _ HR.out).mono ?_
    rintro e w1 ⟨rfl, rfl⟩
    go_wp2_with fail
    refine (insist_no _).mono ?_
    rintro e w1 ⟨rfl, rfl⟩
    exact ⟨rfl, rfl, rfl⟩
  · by_cases hm : n ≤ 1099511627776
    · rw [numF_yes he hm] at hn; cases hn
    · rw [he] at HG
      clear hn he hx hb hl
      generalize (put n).length = u at *
      go_enter Try.func59, Try.ntmps59
      go_wp2_with fail
      refine (HG.out _ HR.out).mono ?_
      rintro e w1 ⟨rfl, rfl⟩
      go_wp2_with fail
      rw [decide_eq_false (by omega)]
      refine (insist_no _).mono ?_
      rintro e w1 ⟨rfl, rfl⟩
      exact ⟨rfl, rfl, rfl⟩
end Go.Proofs.Ytacpicnihgggaaa
