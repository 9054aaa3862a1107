/-
  A job behind its interface: which function each method is, and what it answers.
-/
import Derived.Test.YtinijeejfnehmaaProgStrong
namespace Go.Proofs.Ytinijeejfnehmaa
set_option maxRecDepth 100000
open Go.ChangeShapes Go.WideShapes Go.ChangeAt Go.RowKit

/-- The name of the interface's i-th method. -/
def mname (P : Program) (i : Nat) : String :=
  match P.underlying 69 with
  | some (.interface ms) => ((ms[i]?).map Prod.fst).getD ""
  | _ => ""
/-- The i-th method at a value of type t is the function f, of the receiver r. -/
def Goes (i : Nat) (t : TypeId) (u : Value) (f : FuncId) (r : Value) : Prop :=
  (∀ X, (method 248 t u (mname Try.prog i)).run Try.prog X = .ok (f, r) X) ∧ ∀ args X, (callFunc f args).run Try.prog X = .ok (.enter f args) X
theorem goes_of {i : Nat} {t : TypeId} {u : Value} {f : FuncId} {r : Value} (h : ∀ X, (method 248 t u (mname Try.prog i)).run Try.prog X = .ok (f, r) X) (h2 : ∀ args X, (callFunc f args).run Try.prog X = .ok (.enter f args) X) : Goes i t u f r := ⟨h, h2⟩

def GreatF (j : Jb) (f : FuncId) (r : Value) : Prop := ∀ X, Calls Try.prog f #[r] X fun e w' => e = .returned (.int .i64 (Jb.top j)) ∧ Below X.heap.size X w'
def BeginF (j : Jb) (f : FuncId) (r : Value) : Prop := ∀ v s (x : Ml) X, Calls Try.prog f #[r, .int .i64 v, .int .i64 s, .agg #[.int .i64 x.1, .int .i64 x.2]] X (ValP X (beginF j v s x))
def HearF (j : Jb) (f : FuncId) (r : Value) : Prop := ∀ (x : Ml) v m X, InR X v m → Calls Try.prog f #[r, .agg #[.int .i64 x.1, .int .i64 x.2], v] X (ValP X (hearF j x m))
def SayF (j : Jb) (f : FuncId) (r : Value) : Prop := ∀ a n, (0 ≤ a ∧ a ≤ 4398046511104) → (0 ≤ n ∧ n ≤ 1099511627776) → ∀ X, Calls Try.prog f #[r, .int .i64 a, .int .i64 n] X fun e w' => e = .returned (.int .i64 (sayJ j a n)) ∧ Below X.heap.size X w'
def WaysF (j : Jb) (f : FuncId) (r : Value) : Prop := ∀ X, Calls Try.prog f #[r] X fun e w' => e = .returned (.tuple #[.bool (wayJ j).1, .bool (wayJ j).2]) ∧ Below X.heap.size X w'

theorem job_open : ∀ j : Jb, ∃ t u, Jb.v j = .iface t u ∧ (∃ f r, Goes 0 t u f r ∧ BeginF j f r) ∧ (∃ f r, Goes 1 t u f r ∧ GreatF j f r) ∧ (∃ f r, Goes 2 t u f r ∧ HearF j f r) ∧ (∃ f r, Goes 3 t u f r ∧ SayF j f r) ∧ (∃ f r, Goes 4 t u f r ∧ WaysF j f r) := by
  refine jb_cases ?_ ?_ ?_ ?_
  · refine ⟨84, .agg #[], rfl, ⟨98, .agg #[], goes_of (fun _ => by kernel_rfl) (enters_of Try.func98 (by kernel_rfl) rfl), dBegin_any⟩, ⟨99, .agg #[], goes_of (fun _ => by kernel_rfl) (enters_of Try.func99 (by kernel_rfl) rfl), dGreat_any⟩,
      ⟨100, .agg #[], goes_of (fun _ => by kernel_rfl) (enters_of Try.func100 (by kernel_rfl) rfl), dHear_any⟩, ⟨101, .agg #[], goes_of (fun _ => by kernel_rfl) (enters_of Try.func101 (by kernel_rfl) rfl), dSay_any⟩, ⟨102, .agg #[], goes_of (fun _ => by kernel_rfl) (enters_of Try.func102 (by kernel_rfl) rfl), dWays_any⟩⟩
  · refine ⟨85, .agg #[], rfl, ⟨104, .agg #[], goes_of (fun _ => by kernel_rfl) (enters_of Try.func104 (by kernel_rfl) rfl), wBegin_any⟩, ⟨105, .agg #[], goes_of (fun _ => by kernel_rfl) (enters_of Try.func105 (by kernel_rfl) rfl), wGreat_any⟩,
      ⟨106, .agg #[], goes_of (fun _ => by kernel_rfl) (enters_of Try.func106 (by kernel_rfl) rfl), wHear_any⟩, ⟨107, .agg #[], goes_of (fun _ => by kernel_rfl) (enters_of Try.func107 (by kernel_rfl) rfl), fun a n _ _ X => wSay_any a n X⟩, ⟨108, .agg #[], goes_of (fun _ => by kernel_rfl) (enters_of Try.func108 (by kernel_rfl) rfl), wWays_any⟩⟩
  · refine ⟨87, .agg #[.bool false], rfl, ⟨109, .agg #[.bool false], goes_of (fun _ => by kernel_rfl) (enters_of Try.func109 (by kernel_rfl) rfl), sBegin_any false⟩, ⟨105, .agg #[], goes_of (fun _ => by kernel_rfl) (enters_of Try.func105 (by kernel_rfl) rfl), wGreat_any⟩,
      ⟨110, .agg #[.bool false], goes_of (fun _ => by kernel_rfl) (enters_of Try.func110 (by kernel_rfl) rfl), sHear_any false⟩, ⟨107, .agg #[], goes_of (fun _ => by kernel_rfl) (enters_of Try.func107 (by kernel_rfl) rfl), fun a n _ _ X => wSay_any a n X⟩, ⟨111, .agg #[.bool false], goes_of (fun _ => by kernel_rfl) (enters_of Try.func111 (by kernel_rfl) rfl), sWays_any false⟩⟩
  · refine ⟨87, .agg #[.bool true], rfl, ⟨109, .agg #[.bool true], goes_of (fun _ => by kernel_rfl) (enters_of Try.func109 (by kernel_rfl) rfl), sBegin_any true⟩, ⟨105, .agg #[], goes_of (fun _ => by kernel_rfl) (enters_of Try.func105 (by kernel_rfl) rfl), wGreat_any⟩,
      ⟨110, .agg #[.bool true], goes_of (fun _ => by kernel_rfl) (enters_of Try.func110 (by kernel_rfl) rfl), sHear_any true⟩, ⟨107, .agg #[], goes_of (fun _ => by kernel_rfl) (enters_of Try.func107 (by kernel_rfl) rfl), fun a n _ _ X => wSay_any a n X⟩, ⟨111, .agg #[.bool true], goes_of (fun _ => by kernel_rfl) (enters_of Try.func111 (by kernel_rfl) rfl), sWays_any true⟩⟩

set_option maxHeartbeats 1000000 in
set_option maxRecDepth 100000 in
theorem waysP_any (j : Jb) (w : World) :
    Calls Try.prog 20 #[.int .i64 (Jb.k j), .int .i64 (Jb.p j)] w fun e w' => e = .returned (.tuple #[.bool (wayJ j).1, .bool (wayJ j).2, .int .i64 0]) ∧ Below w.heap.size w w' := by
  have C : Hid (∀ w, Calls Try.prog 35 #[.int .i64 (Jb.k j), .int .i64 (Jb.p j)] w fun e w' => e = .returned (.tuple #[Jb.v j, .int .i64 0]) ∧ w' = w) := fun w => jobOf_any j w
  obtain ⟨t, u, hv, _, _, _, _, f, r, ⟨hm, he⟩, hF⟩ := job_open j
  rw [hv] at C
  simp [mname, Try.underlying69] at hm
  have HF : Hid (WaysF j f r) := hF
  unfold WaysF at HF
  generalize Jb.k j = k at *
  generalize Jb.p j = p at *
  generalize (wayJ j).1 = o1 at *
  generalize (wayJ j).2 = o2 at *
  clear hv hF
  go_enter Try.func20, Try.ntmps20
  go_wp2_with fail
  refine (C.out _).mono ?_
  rintro e w1 ⟨rfl, hw⟩
  replace hw := hw.symm
  subst hw
  go_wp2_with fail
  refine (HF.out _).mono ?_
  rintro e w1 ⟨rfl, hb⟩
  have HB : Hid (Below w.heap.size w w1) := hb
  clear hb
  go_wp2_with fail
  go_ret3
  exact ⟨rfl, HB.out⟩
set_option maxHeartbeats 1000000 in
theorem waysP_none {k p : Int} (h : ¬ (k = 1 ∧ p = 0) ∧ ¬ (k = 2 ∧ p = 0) ∧ ¬ (k = 3 ∧ p = 0) ∧ ¬ (k = 3 ∧ p = 1)) (w : World) :
    Calls Try.prog 20 #[.int .i64 k, .int .i64 p] w fun e w' => e = .returned (.tuple #[.bool false, .bool false, .int .i64 3]) ∧ Below w.heap.size w w' := by
  have C : Hid (∀ w, Calls Try.prog 35 #[.int .i64 k, .int .i64 p] w fun e w' => e = .returned (.tuple #[.nilIface, .int .i64 3]) ∧ w' = w) := fun w => jobOf_none h w
  clear h
  go_enter Try.func20, Try.ntmps20
  go_wp2_with fail
  refine (C.out _).mono ?_
  rintro e w1 ⟨rfl, hw⟩
  replace hw := hw.symm
  subst hw
  go_wp2_with fail
  go_ret3
  exact ⟨rfl, Below.refl _ _⟩
end Go.Proofs.Ytinijeejfnehmaa
