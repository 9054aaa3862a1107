/-
  How the document's own GraphRead comes to the graph whose text this is, or finds that there is none.
-/
import Derived.Test.YtcfcpibamjgodaaDoorNumberMath
namespace Go.Proofs.YtcfcpibamjgodaaDoor
set_option maxRecDepth 100000

/-- What was read stands at the beginning; R is still to be read. -/
def Snd (L : List UInt8) (N : Int) (es : List Ed) (R : List UInt8) : Prop := L = lineL [N] ++ edgesL es ++ R
/-- A right graph with this text begins with what was read. -/
def Cmp (L : List UInt8) (N : Int) (es : List Ed) (R : List UInt8) : Prop :=
  ∀ n' es', faultE n' es' = 0 → showL n' es' = L → ∃ rest, n' = N ∧ es' = es ++ rest ∧ R = edgesL rest
/-- No right graph has this text. -/
def NoG (L : List UInt8) : Prop := ∀ n' es', faultE n' es' = 0 → showL n' es' ≠ L

theorem nd10 : ¬ isDig 10 := by unfold isDig; decide
theorem nd32 : ¬ isDig 32 := by unfold isDig; decide
theorem dec_eq {e : UInt8} (he : ¬ isDig e) {a b : Nat} {r q : List UInt8} (h : Lib.decDigits a ++ e :: r = Lib.decDigits b ++ e :: q) : a = b ∧ r = q := by
  obtain ⟨h1, h2⟩ := dec_uniq he _ _ _ _ (dec_digit a) (dec_digit b) h
  have := congrArg valL h1
  rw [val_dec, val_dec] at this
  exact ⟨this, h2⟩
theorem line1 (n : Nat) (R : List UInt8) : lineL [(n : Int)] ++ R = Lib.decDigits n ++ 10 :: R := by simp [lineL, putsL, Lib.itoa_nonneg]
theorem line3 (a b c : Nat) (R : List UInt8) : lineL [(a : Int), b, c] ++ R = Lib.decDigits a ++ 32 :: (Lib.decDigits b ++ 32 :: (Lib.decDigits c ++ 10 :: R)) := by simp [lineL, putsL, Lib.itoa_nonneg]
theorem edges_cons (x : Ed) (es : List Ed) : edgesL (x :: es) = lineL [x.1, x.2.1, x.2.2] ++ edgesL es := by simp [edgesL]
theorem edges_app (a b : List Ed) : edgesL (a ++ b) = edgesL a ++ edgesL b := by simp [edgesL]
theorem good_n {n : Int} {es : List Ed} (h : faultE n es = 0) : ∃ m : Nat, n = m ∧ m < 10 ^ 18 := by
  obtain ⟨h0, h1, _, _⟩ := fault_ok h
  exact ⟨n.toNat, by omega, by omega⟩
theorem good_e {n : Int} {es : List Ed} (h : faultE n es = 0) {x : Ed} (hx : x ∈ es) : ∃ a b c : Nat, x = ((a : Int), (b : Int), (c : Int)) ∧ a < 10 ^ 18 ∧ b < 10 ^ 18 ∧ c < 10 ^ 18 := by
  obtain ⟨h0, h1, _, hin⟩ := fault_ok h
  have := in_of_out (hin x hx)
  obtain ⟨x1, x2, x3⟩ := x
  simp only at this
  exact ⟨x1.toNat, x2.toNat, x3.toNat, by simp; omega, by omega, by omega, by omega⟩

theorem first_yes {L R : List UInt8} {m : Nat} (h : L = Lib.decDigits m ++ 10 :: R) : Snd L m [] R ∧ Cmp L m [] R := by
  refine ⟨?_, ?_⟩
  · unfold Snd
    rw [h, ← line1]
    simp [edgesL]
  · intro n' es' hf hs
    obtain ⟨k, rfl, _⟩ := good_n hf
    rw [showL, line1, h] at hs
    obtain ⟨h1, h2⟩ := dec_eq nd10 hs
    exact ⟨es', by rw [h1], rfl, h2.symm⟩
theorem first_no {L : List UInt8} (h : ∀ (m : Nat) (r : List UInt8), m < 10 ^ 18 → L ≠ Lib.decDigits m ++ 10 :: r) : NoG L := by
  intro n' es' hf hs
  obtain ⟨k, rfl, hk⟩ := good_n hf
  rw [showL, line1] at hs
  exact h k _ hk hs.symm
section
variable {L R : List UInt8} {N : Int} {es : List Ed}
theorem rest_form (hc : Cmp L N es R) (hR : R ≠ []) {n' : Int} {es' : List Ed} (hf : faultE n' es' = 0) (hs : showL n' es' = L) :
    ∃ (a b c : Nat) (rest : List Ed), a < 10 ^ 18 ∧ b < 10 ^ 18 ∧ c < 10 ^ 18 ∧ n' = N ∧ es' = es ++ ((a : Int), (b : Int), (c : Int)) :: rest ∧ R = Lib.decDigits a ++ 32 :: (Lib.decDigits b ++ 32 :: (Lib.decDigits c ++ 10 :: edgesL rest)) := by
  obtain ⟨rest, h1, h2, h3⟩ := hc n' es' hf hs
  cases rest with
  | nil => exact absurd (by rw [h3]; simp [edgesL]) hR
  | cons x rest =>
    obtain ⟨a, b, c, rfl, ha, hb, hcc⟩ := good_e hf (x := x) (by rw [h2]; simp)
    refine ⟨a, b, c, rest, ha, hb, hcc, h1, h2, ?_⟩
    rw [h3, edges_cons]
    exact line3 a b c _
theorem step1_no (hc : Cmp L N es R) (hR : R ≠ []) (h : ∀ (m : Nat) (r : List UInt8), m < 10 ^ 18 → R ≠ Lib.decDigits m ++ 32 :: r) : NoG L := by
  intro n' es' hf hs
  obtain ⟨a, b, c, rest, ha, _, _, _, _, h3⟩ := rest_form hc hR hf hs
  exact h a _ ha h3
theorem step2_no {a : Nat} {R1 : List UInt8} (hc : Cmp L N es R) (h1 : R = Lib.decDigits a ++ 32 :: R1) (h : ∀ (m : Nat) (r : List UInt8), m < 10 ^ 18 → R1 ≠ Lib.decDigits m ++ 32 :: r) : NoG L := by
  intro n' es' hf hs
  obtain ⟨a', b, c, rest, _, hb, _, _, _, h3⟩ := rest_form hc (by rw [h1]; simp) hf hs
  rw [h1] at h3
  obtain ⟨_, h4⟩ := dec_eq nd32 h3
  exact h b _ hb h4
theorem step3_no {a b : Nat} {R1 R2 : List UInt8} (hc : Cmp L N es R) (h1 : R = Lib.decDigits a ++ 32 :: R1) (h2 : R1 = Lib.decDigits b ++ 32 :: R2) (h : ∀ (m : Nat) (r : List UInt8), m < 10 ^ 18 → R2 ≠ Lib.decDigits m ++ 10 :: r) : NoG L := by
  intro n' es' hf hs
  obtain ⟨a', b', c, rest, _, _, hcc, _, _, h3⟩ := rest_form hc (by rw [h1]; simp) hf hs
  rw [h1] at h3
  obtain ⟨_, h4⟩ := dec_eq nd32 h3
  rw [h2] at h4
  obtain ⟨_, h5⟩ := dec_eq nd32 h4
  exact h c _ hcc h5
theorem step_yes {a b c : Nat} {R1 R2 R3 : List UInt8} (hn : Snd L N es R) (hc : Cmp L N es R) (h1 : R = Lib.decDigits a ++ 32 :: R1) (h2 : R1 = Lib.decDigits b ++ 32 :: R2) (h3 : R2 = Lib.decDigits c ++ 10 :: R3) :
    Snd L N (es ++ [((a : Int), (b : Int), (c : Int))]) R3 ∧ Cmp L N (es ++ [((a : Int), (b : Int), (c : Int))]) R3 := by
  refine ⟨?_, ?_⟩
  · unfold Snd at hn ⊢
    rw [hn, edges_app, h1, h2, h3, ← line3]
    simp [edgesL]
  · intro n' es' hf hs
    obtain ⟨a', b', c', rest, _, _, _, e1, e2, e3⟩ := rest_form hc (by rw [h1]; simp) hf hs
    rw [h1] at e3
    obtain ⟨ea, e4⟩ := dec_eq nd32 e3
    rw [h2] at e4
    obtain ⟨eb, e5⟩ := dec_eq nd32 e4
    rw [h3] at e5
    obtain ⟨ec, e6⟩ := dec_eq nd10 e5
    subst ea eb ec
    exact ⟨rest, e1, by rw [e2]; simp, e6⟩
theorem end_no (hc : Cmp L N es []) (hf : faultE N es ≠ 0) : NoG L := by
  intro n' es' hf' hs
  obtain ⟨rest, h1, h2, h3⟩ := hc n' es' hf' hs
  cases rest with
  | nil => subst h1; rw [List.append_nil] at h2; subst h2; exact hf hf'
  | cons x rest =>
    rw [edges_cons] at h3
    have := congrArg List.length h3
    simp [lineL] at this
theorem end_yes (hn : Snd L N es []) : showL N es = L := by
  unfold Snd at hn
  rw [hn, showL, List.append_nil]
end
end Go.Proofs.YtcfcpibamjgodaaDoor
