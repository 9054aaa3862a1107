/-
  Contracts of store's open, of what Open defers, and of Open.
-/
import Derived.Test.YtacpicnihgggaaaPartRead
import Derived.Test.YtacpicnihgggaaaUnwrapFace
import Derived.Defers
import Derived.Recover
namespace Go.Proofs.Ytacpicnihgggaaa
set_option maxRecDepth 100000
open Go.ChangeShapes Go.WideShapes Go.ChangeAt Go.RowKit

/-- What store's open comes to, by what Unwrap tells: the payload, how many bytes, the error; L bytes came in. -/
def OpenP (w w' : World) (pay : List Int) (u : Nat) (fe : Int) (L : Nat) (e : Ending) : Prop :=
  Below w.heap.size w w' ∧ ((fe ≠ 0 ∧ e = upP fe) ∨ (fe = 0 ∧ u ≠ L ∧ e = upP 3) ∨ (fe = 0 ∧ u = L ∧ ∃ q, e = .returned (.pointer (some ⟨q, 0, none⟩)) ∧ w.heap.size ≤ q ∧ Rd w' q pay))

set_option maxHeartbeats 800000 in
set_option maxRecDepth 100000 in
theorem openRd_any (v : Value) (xs : List Int) (w : World) (h : Reads .u8 w v xs) (hx : ∀ x ∈ xs, 0 ≤ x ∧ x ≤ 255) :
    Calls Try.prog 36 #[v] w fun e w' => OpenP w w' (unwrapF xs).1 (unwrapF xs).2.1 (unwrapF xs).2.2 xs.length e := by
  have HR : Hid (Reads .u8 w v xs) := h
  have HU : Hid (∀ X, Reads .u8 X v xs → Calls Try.prog 58 #[v] X fun e w' => ∃ v', e = .returned (.tuple #[v', .int .i64 (unwrapF xs).2.1, .int .i64 (unwrapF xs).2.2]) ∧ w'.ownsRow X.heap.size 5 1 v' (unwrapF xs).1.length ((unwrapF xs).1.map (Value.int .u8)) ∧ Below X.heap.size X w') := fun X hX => unwrap_any v xs X hX hx
  obtain ⟨a, cap, rfl, hc, hm, _⟩ := h
  clear hx
  generalize (unwrapF xs).1 = pay at *
  generalize (unwrapF xs).2.1 = u at *
  generalize (unwrapF xs).2.2 = fe at *
  generalize hL : xs.length = L at *
  go_enter Try.func36, Try.ntmps36
  go_wp2_with fail
  refine (HU.out _ HR.out).mono ?_
  rintro e w1 ⟨pv, rfl, hown, hb1⟩
  have HB : Hid (Below w.heap.size w w1) := hb1
  have HP : Hid (Reads .u8 w1 pv pay) := reads_own hown
  have HG : Hid (∀ a n c, pv = .slice (some a) n c → a.block < w1.heap.size) := fun a n c e => (hown.lt a.block (by rw [e]; rfl)).2
  obtain ⟨pa, pc, rfl⟩ : ∃ pa pc, pv = .slice pa pay.length pc := by obtain ⟨x, y, e, _⟩ := reads_own hown; exact ⟨_, _, e⟩
  have hs1 := hb1.size
  clear hown hb1
  by_cases hf : fe = 0
  · subst hf
    by_cases hu : u = L
    · subst hu
      have hq : ((u : Int) == (u : Int)) = true := by simp
      go_wp2_with fail
      refine (insist_yes _).mono ?_
      rintro e w2 ⟨rfl, rfl⟩
      go_wp2_with fail
      go_ret
      refine ⟨HB.out.alloc hs1 _, .inr (.inr ⟨rfl, rfl, w2.heap.size, rfl, hs1, _, box_new _ _ _, ?_, HG.out⟩)⟩
      exact HP.out.below (below_alloc _ _) (Nat.le_refl _)
    · have hq : ((u : Int) == (L : Int)) = false := by simp; omega
      go_wp2_with fail
      refine (insist_no _).mono ?_
      rintro e w2 ⟨rfl, rfl⟩
      exact ⟨rfl, HB.out, .inr (.inl ⟨rfl, hu, rfl⟩)⟩
  · have hq : (fe != 0) = true := by simpa using hf
    go_wp2_with fail
    exact ⟨rfl, HB.out, .inl ⟨hf, rfl⟩⟩

theorem catch_idle (p f : Addr) (w : World) :
    CallsD Try.prog 35 #[.pointer (some p), .pointer (some f)] .returning w fun e u' w' => e = .returned (.tuple #[]) ∧ u' = .returning ∧ w' = w := by
  refine callsD_of_wpS Try.func35 rfl fun c₀ cs hu => ?_
  apply wpS_seq
  apply wpS_region
  simp [wpOpsS, go_sem, recoverD, hu, Try.ntmps35, Exit.thenS]
  apply wpS_seq
  apply wpS_region
  simp [wpOpsS, go_sem, Exit.thenS]
  refine wpS_cond (t := false) (by simp [Act.eval, Array.replicate]) ?_
  simp only [Bool.false_eq_true, if_false]
  refine wpS_of_wp (wp_skip ?_)
  cases c₀
  simp_all [bodyPostS, results, Try.results35]

theorem assert_errno (x : Int) (w : World) : (Instr.typeAssert (.iface 27 (.int .i64 x)) 20 27 false).run Try.prog w = .ok (.int .i64 x) w := by
  simp [Instr.typeAssert, run_underlying Try.underlying27]

/-- Both boxes are filled. -/
theorem put_world {p f : Nat} {a b c xx y d a' b' c' x' y' d' : Value} {w : World} (hp : PB w p a b c xx y) (hf : w.heap[f]? = some (.cells #[d] 27 (0, 0))) (hne : ¬ p = f) :
    PB ((((((w.setCell ⟨p, 0, none⟩ a').setCell ⟨p, 1, none⟩ b').setCell ⟨p, 2, none⟩ c').setCell ⟨p, 3, none⟩ x').setCell ⟨p, 4, none⟩ y').setCell ⟨f, 0, none⟩ d') p a' b' c' x' y' ∧
    ((((((w.setCell ⟨p, 0, none⟩ a').setCell ⟨p, 1, none⟩ b').setCell ⟨p, 2, none⟩ c').setCell ⟨p, 3, none⟩ x').setCell ⟨p, 4, none⟩ y').setCell ⟨f, 0, none⟩ d').heap[f]? = some (.cells #[d'] 27 (0, 0)) ∧
    Kept (fun k => k = p ∨ k = f) w ((((((w.setCell ⟨p, 0, none⟩ a').setCell ⟨p, 1, none⟩ b').setCell ⟨p, 2, none⟩ c').setCell ⟨p, 3, none⟩ x').setCell ⟨p, 4, none⟩ y').setCell ⟨f, 0, none⟩ d') := by
  have P1 := ((((hp.set0 a').set1 b').set2 c').set3 x').set4 y'
  have K1 : Kept (fun k => k = p) w (((((w.setCell ⟨p, 0, none⟩ a').setCell ⟨p, 1, none⟩ b').setCell ⟨p, 2, none⟩ c').setCell ⟨p, 3, none⟩ x').setCell ⟨p, 4, none⟩ y') := ((((Kept.box w p 0 a').trans (Kept.box _ p 1 b')).trans (Kept.box _ p 2 c')).trans (Kept.box _ p 3 x')).trans (Kept.box _ p 4 y')
  generalize ((((w.setCell ⟨p, 0, none⟩ a').setCell ⟨p, 1, none⟩ b').setCell ⟨p, 2, none⟩ c').setCell ⟨p, 3, none⟩ x').setCell ⟨p, 4, none⟩ y' = W at *
  have F1 := (K1.block f (Array.getElem?_eq_some_iff.1 hf).1 (fun e => hne e.symm)).trans hf
  have K2 := Kept.box W f 0 d'
  have F2 := box1_set (u := d') F1
  generalize W.setCell ⟨f, 0, none⟩ d' = V at *
  exact ⟨P1.kept K2 hne, F2, (K1.mono fun _ h => .inl h).trans (K2.mono fun _ h => .inr h)⟩
/-- The boxes behind what is deferred. -/
theorem up_world {p f : Nat} {x : Int} {a b c xx y d : Value} {w : World} (hp : PB w p a b c xx y) (hf : w.heap[f]? = some (.cells #[d] 27 (0, 0))) (hne : ¬ p = f) :
    PB ((((((w.setCell ⟨p, 0, none⟩ (.int .i64 0)).setCell ⟨p, 1, none⟩ (.int .i64 0)).setCell ⟨p, 2, none⟩ (.int .i64 0)).setCell ⟨p, 3, none⟩ (.slice none 0 0)).setCell ⟨p, 4, none⟩ (.slice none 0 0)).setCell ⟨f, 0, none⟩ (.int .i64 x)).drew p (.int .i64 0) (.int .i64 0) (.int .i64 0) (.slice none 0 0) (.slice none 0 0) ∧
    ((((((w.setCell ⟨p, 0, none⟩ (.int .i64 0)).setCell ⟨p, 1, none⟩ (.int .i64 0)).setCell ⟨p, 2, none⟩ (.int .i64 0)).setCell ⟨p, 3, none⟩ (.slice none 0 0)).setCell ⟨p, 4, none⟩ (.slice none 0 0)).setCell ⟨f, 0, none⟩ (.int .i64 x)).drew.heap[f]? = some (.cells #[.int .i64 x] 27 (0, 0)) ∧
    Kept (fun k => k = p ∨ k = f) w ((((((w.setCell ⟨p, 0, none⟩ (.int .i64 0)).setCell ⟨p, 1, none⟩ (.int .i64 0)).setCell ⟨p, 2, none⟩ (.int .i64 0)).setCell ⟨p, 3, none⟩ (.slice none 0 0)).setCell ⟨p, 4, none⟩ (.slice none 0 0)).setCell ⟨f, 0, none⟩ (.int .i64 x)).drew := by
  obtain ⟨h1, h2, h3⟩ := put_world (a' := .int .i64 0) (b' := .int .i64 0) (c' := .int .i64 0) (x' := .slice none 0 0) (y' := .slice none 0 0) (d' := .int .i64 x) hp hf hne
  generalize (((((w.setCell ⟨p, 0, none⟩ (.int .i64 0)).setCell ⟨p, 1, none⟩ (.int .i64 0)).setCell ⟨p, 2, none⟩ (.int .i64 0)).setCell ⟨p, 3, none⟩ (.slice none 0 0)).setCell ⟨p, 4, none⟩ (.slice none 0 0)).setCell ⟨f, 0, none⟩ (.int .i64 x) = V at *
  exact ⟨h1.kept (S := fun _ => False) (Kept.refl _ V).drew fun h => h, h2, h3.drew⟩

set_option maxHeartbeats 800000 in
theorem catch_up (p f : Nat) (x : Int) (a b c xx y d : Value) (older : List PanicEntry) (w : World) (hp : PB w p a b c xx y) (hf : w.heap[f]? = some (.cells #[d] 27 (0, 0))) :
    CallsD Try.prog 35 #[.pointer (some ⟨p, 0, none⟩), .pointer (some ⟨f, 0, none⟩)] (.panicking ({ v := .iface 27 (.int .i64 x), recovered := false } :: older)) w fun e u' w' => e = .returned (.tuple #[]) ∧ u' = .panicking ({ v := .iface 27 (.int .i64 x), recovered := true } :: older) ∧ PB w' p (.int .i64 0) (.int .i64 0) (.int .i64 0) (.slice none 0 0) (.slice none 0 0) ∧ w'.heap[f]? = some (.cells #[.int .i64 x] 27 (0, 0)) ∧ Kept (fun k => k = p ∨ k = f) w w' := by
  refine callsD_of_wpS Try.func35 rfl fun c₀ cs hu => ?_
  apply wpS_seq
  apply wpS_region
  simp [wpOpsS, go_sem, recoverD, hu, Try.ntmps35, Exit.thenS]
  apply wpS_seq
  apply wpS_region
  simp [wpOpsS, go_sem, Exit.thenS]
  refine wpS_cond (t := true) (by simp [Act.eval, Array.replicate]) ?_
  simp only [if_true]
  refine wpS_of_wp ?_
  obtain ⟨e0, e1, e2, e3, e4⟩ := hp.cells
  have z0 := hp.frozen 0
  have z1 := hp.frozen 1
  have z2 := hp.frozen 2
  have z3 := hp.frozen 3
  have z4 := hp.frozen 4
  have k0 := box1_cell hf
  have kz := box_frozen hf 0
  have hne : ¬ p = f := fun e => by subst e; rw [hp] at hf; injection hf with hf; injection hf with _ hf; cases hf
  simp only [Array.replicate, List.replicate, List.setIfInBounds_toArray, List.set_cons_zero, List.set_cons_succ, List.append_toArray, List.cons_append, List.nil_append]
  have hta := assert_errno x
  go_region
  have U := up_world (x := x) hp hf hne
  generalize ((((((w.setCell ⟨p, 0, none⟩ (.int .i64 0)).setCell ⟨p, 1, none⟩ (.int .i64 0)).setCell ⟨p, 2, none⟩ (.int .i64 0)).setCell ⟨p, 3, none⟩ (.slice none 0 0)).setCell ⟨p, 4, none⟩ (.slice none 0 0)).setCell ⟨f, 0, none⟩ (.int .i64 x)).drew = W at *
  exact ⟨rfl, _, rfl, .tuple #[], by simp [results, Try.results35], rfl, rfl, U.1, U.2.1, U.2.2⟩

/-- P7.2. -/
def openF (xs : List Int) : PartL × Int :=
  if (unwrapF xs).2.2 ≠ 0 then (noP, (unwrapF xs).2.2) else if (unwrapF xs).2.1 = xs.length then (match payC (unwrapF xs).1 with | some p => (p, 0) | none => (noP, 3)) else (noP, 3)
/-- A part as it is answered. -/
def PartR (w : World) (v : Value) (p : PartL) : Prop := ∃ vo vi, v = .agg #[.int .i64 p.wk, .int .i64 p.ks, .int .i64 p.n, vo, vi] ∧ LsR w vo p.out ∧ LsR w vi p.inn
theorem PartR.none (w : World) : PartR w (.agg #[.int .i64 0, .int .i64 0, .int .i64 0, .slice none 0 0, .slice none 0 0]) noP := ⟨_, _, rfl, LsR.nil w, LsR.nil w⟩
/-- What Open comes to. -/
def OpnP (w w' : World) (r : PartL × Int) (e : Ending) : Prop := ∃ v, e = .returned (.tuple #[v, .int .i64 r.2]) ∧ PartR w' v r.1 ∧ Below w.heap.size w w'

set_option maxHeartbeats 2000000 in
set_option maxRecDepth 100000 in
theorem storeOpen_any (v : Value) (xs : List Int) (w : World) (h : Reads .u8 w v xs) (hx : ∀ x ∈ xs, 0 ≤ x ∧ x ≤ 255) :
    Calls Try.prog 14 #[v] w fun e w' => OpnP w w' (openF xs) e := by
  have hmf := makeFunc_run
  have HR : Hid (Reads .u8 w v xs) := h
  have HC : Hid (∀ X, Reads .u8 X v xs → Calls Try.prog 36 #[v] X fun e w' => OpenP X w' (unwrapF xs).1 (unwrapF xs).2.1 (unwrapF xs).2.2 xs.length e) := fun X hX => openRd_any v xs X hX hx
  have HY : Hid (∀ y ∈ (unwrapF xs).1, 0 ≤ y ∧ y ≤ 255) := unwrapF_bytes hx
  have HF1 : Hid ((unwrapF xs).2.2 ≠ 0 → openF xs = (noP, (unwrapF xs).2.2)) := fun h => by unfold openF; rw [if_pos h]
  have HF2 : Hid ((unwrapF xs).2.2 = 0 → (unwrapF xs).2.1 ≠ xs.length → openF xs = (noP, 3)) := fun h h2 => by unfold openF; rw [if_neg (by simpa using h), if_neg h2]
  have HF3 : Hid ((unwrapF xs).2.2 = 0 → (unwrapF xs).2.1 = xs.length → payC (unwrapF xs).1 = none → openF xs = (noP, 3)) := fun h h2 h3 => by unfold openF; rw [if_neg (by simpa using h), if_pos h2, h3]
  have HF4 : Hid (∀ p, (unwrapF xs).2.2 = 0 → (unwrapF xs).2.1 = xs.length → payC (unwrapF xs).1 = some p → openF xs = (p, 0)) := fun p h h2 h3 => by unfold openF; rw [if_neg (by simpa using h), if_pos h2, h3]
  clear h hx
  generalize openF xs = res at *
  generalize (unwrapF xs).1 = pay at *
  generalize (unwrapF xs).2.1 = u at *
  generalize (unwrapF xs).2.2 = fe at *
  go_enter_defers Try.func14, Try.ntmps14
  go_wp2_with fail
  refine (HC.out _ ?_).mono ?_
  · exact HR.out.below ((below_alloc _ _).alloc (by simp) _) (Nat.le_refl _)
  rintro e w1 ⟨hb1, hcase⟩
  have B1 : Below (w.heap.size + 2) ((w.alloc (.cells #[.int .i64 0, .int .i64 0, .int .i64 0, .slice none 0 0, .slice none 0 0] 36)).alloc (.cells #[.int .i64 0] 27)) w1 := by simpa using hb1
  have P1 : PB w1 w.heap.size (.int .i64 0) (.int .i64 0) (.int .i64 0) (.slice none 0 0) (.slice none 0 0) := by
    unfold PB
    rw [B1.block _ (by omega), (below_alloc (w.alloc (.cells #[.int .i64 0, .int .i64 0, .int .i64 0, .slice none 0 0, .slice none 0 0] 36)) (.cells #[.int .i64 0] 27)).block _ (by simp)]
    exact box_new _ _ _
  have F1 : w1.heap[w.heap.size + 1]? = some (.cells #[.int .i64 0] 27 (0, 0)) := by
    rw [B1.block _ (by omega)]
    exact heap_second _ _ _ _
  have BW : Hid (Below w.heap.size w w1) := below_two B1
  have hs1 : w.heap.size + 2 ≤ w1.heap.size := by have := B1.size; simpa using this
  clear hb1 B1
  rcases hcase with ⟨h1, rfl⟩ | ⟨h1, h2, rfl⟩ | ⟨h1, h2, q, rfl, hq, hrd⟩
  · have hr := HF1.out h1
    subst hr
    unfold upP
    refine leaves_cons (f := 35) (args := #[.pointer (some ⟨w.heap.size, 0, none⟩), .pointer (some ⟨w.heap.size + 1, 0, none⟩)]) (by simp) (by simp [go_sem]) ?_
    refine (catch_up w.heap.size (w.heap.size + 1) fe _ _ _ _ _ _ [] w1 P1 F1).mono ?_
    rintro e u' w2 ⟨rfl, rfl, hpb, hfb, hk⟩
    have BW2 : Hid (Below w.heap.size w w2) := BW.out.trans (hk.below (by omega) (fun k hk => by omega))
    obtain ⟨r0, r1, r2, r3, r4⟩ := hpb.cells
    have r5 := box1_cell hfb
    simp [Leaves, settle, results, Try.results14, go_sem, r0, r1, r2, r3, r4, r5]
    exact ⟨_, rfl, PartR.none w2, BW2.out⟩
  · have hr := HF2.out h1 h2
    subst hr
    unfold upP
    refine leaves_cons (f := 35) (args := #[.pointer (some ⟨w.heap.size, 0, none⟩), .pointer (some ⟨w.heap.size + 1, 0, none⟩)]) (by simp) (by simp [go_sem]) ?_
    refine (catch_up w.heap.size (w.heap.size + 1) 3 _ _ _ _ _ _ [] w1 P1 F1).mono ?_
    rintro e u' w9 ⟨rfl, rfl, hpb, hfb, hk⟩
    have BW2 : Hid (Below w.heap.size w w9) := BW.out.trans (hk.below (by omega) (fun k hk => by omega))
    obtain ⟨r0, r1, r2, r3, r4⟩ := hpb.cells
    have r5 := box1_cell hfb
    simp [Leaves, settle, results, Try.results14, go_sem, r0, r1, r2, r3, r4, r5]
    exact ⟨_, rfl, PartR.none w9, BW2.out⟩
  · have hq2 : w.heap.size + 2 ≤ q := by simpa using hq
    have RD1 : Hid (Rd w1 q pay) := hrd
    have PB1 : Hid (PB w1 w.heap.size (.int .i64 0) (.int .i64 0) (.int .i64 0) (.slice none 0 0) (.slice none 0 0)) := P1
    have FB1 : Hid (w1.heap[w.heap.size + 1]? = some (.cells #[.int .i64 0] 27 (0, 0))) := F1
    have HF5 : Hid (payC pay = none → res = (noP, 3)) := HF3.out h1 h2
    have HF6 : Hid (∀ p, payC pay = some p → res = (p, 0)) := fun p => HF4.out p h1 h2
    have HPP : Hid (payC pay = (partC pay).bind fun r => if r.2 = [] then some r.1 else none) := pay_part pay
    clear HF1 HF2 HF3 HF4 h1 h2 hq hrd P1 F1 HC
    go_wp2_with fail
    refine (part_any q pay w1 RD1.out HY.out).mono ?_
    rintro e w2 ⟨hk2, hcase⟩
    have PB2 : Hid (PB w2 w.heap.size (.int .i64 0) (.int .i64 0) (.int .i64 0) (.slice none 0 0) (.slice none 0 0)) := PB1.out.kept hk2 (by omega)
    have FB2 : Hid (w2.heap[w.heap.size + 1]? = some (.cells #[.int .i64 0] 27 (0, 0))) := by show _ = _; rw [hk2.block _ (by omega) (by omega)]; exact FB1.out
    have BW2 : Hid (Below w.heap.size w w2) := BW.out.trans (hk2.below (by omega) (fun k hk => by omega))
    have hs2 := hk2.size
    clear hk2 PB1 FB1 BW RD1
    rcases hcase with ⟨p, r, vo, vi, hp, rfl, ho, hi, hrd⟩ | ⟨hp, rfl⟩
    · have RD2 : Hid (Rd w2 q r) := hrd
      have OO : Hid (OwnLs w2 w1.heap.size vo p.out) := ho
      have OI : Hid (OwnLs w2 w1.heap.size vi p.inn) := hi
      obtain ⟨xa, xc, rfl⟩ := ho.shape
      obtain ⟨ya, yc, rfl⟩ := hi.shape
      obtain ⟨e0, e1, e2, e3, e4⟩ := PB2.out.cells
      have z0 := PB2.out.frozen 0
      have z1 := PB2.out.frozen 1
      have z2 := PB2.out.frozen 2
      have z3 := PB2.out.frozen 3
      have z4 := PB2.out.frozen 4
      have P3 := ((((PB2.out.set0 (.int .i64 p.wk)).set1 (.int .i64 p.ks)).set2 (.int .i64 p.n)).set3 (.slice xa p.out.length xc)).set4 (.slice ya p.inn.length yc)
      have K3 : Kept (fun k => k = w.heap.size) w2 (((((w2.setCell ⟨w.heap.size, 0, none⟩ (.int .i64 p.wk)).setCell ⟨w.heap.size, 1, none⟩ (.int .i64 p.ks)).setCell ⟨w.heap.size, 2, none⟩ (.int .i64 p.n)).setCell ⟨w.heap.size, 3, none⟩ (.slice xa p.out.length xc)).setCell ⟨w.heap.size, 4, none⟩ (.slice ya p.inn.length yc)) := ((((Kept.box _ _ _ _).trans (Kept.box _ _ _ _)).trans (Kept.box _ _ _ _)).trans (Kept.box _ _ _ _)).trans (Kept.box _ _ _ _)
      have PB3 : Hid (PB _ _ _ _ _ _ _) := P3
      have KP3 : Hid (Kept _ _ _) := K3
      clear P3 K3 hrd ho hi
      go_upto_region 4 with fail
      generalize ((((w2.setCell ⟨w.heap.size, 0, none⟩ (.int .i64 p.wk)).setCell ⟨w.heap.size, 1, none⟩ (.int .i64 p.ks)).setCell ⟨w.heap.size, 2, none⟩ (.int .i64 p.n)).setCell ⟨w.heap.size, 3, none⟩ (.slice xa p.out.length xc)).setCell ⟨w.heap.size, 4, none⟩ (.slice ya p.inn.length yc) = w3 at *
      have hq3 := RD2.out.lt
      have hs3 := KP3.out.size
      obtain ⟨ra, rc, HQ3⟩ : ∃ ra rc, w3.heap[q]? = some (.cells #[.slice ra r.length rc] 73 (0, 0)) := by
        obtain ⟨v, h1, ⟨ra, rc, h2, _⟩, _⟩ := RD2.out
        subst h2
        exact ⟨ra, rc, by rw [KP3.out.block q hq3 (by omega)]; exact h1⟩
      have hc3 := box1_cell HQ3
      have FB3 : Hid (w3.heap[w.heap.size + 1]? = some (.cells #[.int .i64 0] 27 (0, 0))) := by show _ = _; rw [KP3.out.block _ (by omega) (by omega)]; exact FB2.out
      have BW3 : Hid (Below w.heap.size w w3) := BW2.out.trans (KP3.out.below (by omega) (fun k hk => by omega))
      have LO3 : Hid (OwnLs w3 w1.heap.size (.slice xa p.out.length xc) p.out) := OO.out.kept KP3.out fun g hg hh => by omega
      have LI3 : Hid (OwnLs w3 w1.heap.size (.slice ya p.inn.length yc) p.inn) := OI.out.kept KP3.out fun g hg hh => by omega
      clear e0 e1 e2 e3 e4 z0 z1 z2 z3 z4 OO OI BW2 FB2 PB2 RD2 HQ3
      by_cases hre : r = []
      · have hr := HF6.out p (by rw [HPP.out, hp]; simp [hre])
        subst hr
        have hl0 : ((r.length : Int) == 0) = true := by rw [hre]; rfl
        clear hre HF5 HF6 HPP hp
        go_wp2_with fail
        refine (insist_yes _).mono ?_
        rintro e w4 ⟨rfl, rfl⟩
        obtain ⟨e0, e1, e2, e3, e4⟩ := PB3.out.cells
        have z0 := PB3.out.frozen 0
        have z1 := PB3.out.frozen 1
        have z2 := PB3.out.frozen 2
        have z3 := PB3.out.frozen 3
        have z4 := PB3.out.frozen 4
        have y0 := box1_cell FB3.out
        have y1 := box_frozen FB3.out 0
        have PW : Hid _ := put_world (a' := .int .i64 p.wk) (b' := .int .i64 p.ks) (c' := .int .i64 p.n) (x' := .slice xa p.out.length xc) (y' := .slice ya p.inn.length yc) (d' := .int .i64 0) PB3.out FB3.out (by omega)
        go_wp2_with fail
        obtain ⟨hpb, hfb, hk⟩ := PW.out
        clear PW e0 e1 e2 e3 e4 z0 z1 z2 z3 z4 y0 y1
        generalize (((((w4.setCell ⟨w.heap.size, 0, none⟩ (.int .i64 p.wk)).setCell ⟨w.heap.size, 1, none⟩ (.int .i64 p.ks)).setCell ⟨w.heap.size, 2, none⟩ (.int .i64 p.n)).setCell ⟨w.heap.size, 3, none⟩ (.slice xa p.out.length xc)).setCell ⟨w.heap.size, 4, none⟩ (.slice ya p.inn.length yc)).setCell ⟨w.heap.size + 1, 0, none⟩ (.int .i64 0) = w5 at *
        refine leaves_cons (f := 35) (args := #[.pointer (some ⟨w.heap.size, 0, none⟩), .pointer (some ⟨w.heap.size + 1, 0, none⟩)]) (by simp) (by simp [go_sem]) ?_
        refine (catch_idle ⟨w.heap.size, 0, none⟩ ⟨w.heap.size + 1, 0, none⟩ _).mono ?_
        rintro e u' w6 ⟨rfl, rfl, rfl⟩
        have BW4 : Hid (Below w.heap.size w w6) := BW3.out.trans (hk.below (by omega) (fun k hk => by omega))
        have LO4 : Hid (LsR w6 (.slice xa p.out.length xc) p.out) := (LO3.out.kept hk fun g hg hh => by omega).reads
        have LI4 : Hid (LsR w6 (.slice ya p.inn.length yc) p.inn) := (LI3.out.kept hk fun g hg hh => by omega).reads
        obtain ⟨r0, r1, r2, r3, r4⟩ := hpb.cells
        have r5 := box1_cell hfb
        simp [Leaves, settle, results, Try.results14, go_sem, r0, r1, r2, r3, r4, r5]
        exact ⟨_, rfl, ⟨_, _, rfl, LO4.out, LI4.out⟩, BW4.out⟩
      · have hr := HF5.out (by rw [HPP.out, hp]; simp [hre])
        subst hr
        have hl0 : ((r.length : Int) == 0) = false := by
          have : r.length ≠ 0 := fun e => hre (List.eq_nil_of_length_eq_zero e)
          simp; omega
        clear hre HF5 HF6 HPP hp
        go_wp2_with fail
        refine (insist_no _).mono ?_
        rintro e w4 ⟨rfl, rfl⟩
        unfold upP
        refine leaves_cons (f := 35) (args := #[.pointer (some ⟨w.heap.size, 0, none⟩), .pointer (some ⟨w.heap.size + 1, 0, none⟩)]) (by simp) (by simp [go_sem]) ?_
        refine (catch_up w.heap.size (w.heap.size + 1) 3 _ _ _ _ _ _ [] w4 PB3.out FB3.out).mono ?_
        rintro e u' w9 ⟨rfl, rfl, hpb, hfb, hk⟩
        have BW2 : Hid (Below w.heap.size w w9) := BW3.out.trans (hk.below (by omega) (fun k hk => by omega))
        obtain ⟨r0, r1, r2, r3, r4⟩ := hpb.cells
        have r5 := box1_cell hfb
        simp [Leaves, settle, results, Try.results14, go_sem, r0, r1, r2, r3, r4, r5]
        exact ⟨_, rfl, PartR.none w9, BW2.out⟩
    · have hr := HF5.out (by rw [HPP.out, hp]; rfl)
      subst hr
      unfold upP
      refine leaves_cons (f := 35) (args := #[.pointer (some ⟨w.heap.size, 0, none⟩), .pointer (some ⟨w.heap.size + 1, 0, none⟩)]) (by simp) (by simp [go_sem]) ?_
      refine (catch_up w.heap.size (w.heap.size + 1) 3 _ _ _ _ _ _ [] w2 PB2.out FB2.out).mono ?_
      rintro e u' w9 ⟨rfl, rfl, hpb, hfb, hk⟩
      have BW2 : Hid (Below w.heap.size w w9) := BW2.out.trans (hk.below (by omega) (fun k hk => by omega))
      obtain ⟨r0, r1, r2, r3, r4⟩ := hpb.cells
      have r5 := box1_cell hfb
      simp [Leaves, settle, results, Try.results14, go_sem, r0, r1, r2, r3, r4, r5]
      exact ⟨_, rfl, PartR.none w9, BW2.out⟩
end Go.Proofs.Ytacpicnihgggaaa
