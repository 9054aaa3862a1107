/-
  A round as loops make it: who says something, what comes to whom, so far.
  A round's mail as loops make it, edge by edge: both ways of an edge; what is too great.
  Contract of rounds.wake.
  Rows of values of the call's own: make([]api.Value, m), a store into them.
  Slices of bools: what they read as, what a call owns; make([]bool, n).
  Contract of rounds.woken.
  append of one new element, and where the row lies then.
  A table of lists of numbers that grow each by itself.
  Rows of numbers of the call's own: a number in them, a store into them.
  Contracts of Go's library laid at this program (numbers of functions, types and variables, each held by the kernel): slices_Sort_int, slices_Sort_int_none.
  slices.Sort on a row of numbers of the call's own.
  Contract of rounds.sent.
  Contracts of slices.ContainsFunc with settled's two closures: is there mail, is a vertex open.
  Contract of rounds.settled.
  copy(d, s) of values, where both have as many elements.
  Contract of rounds.first.
  Contract of rounds.again.
  Contract of rounds.after: of a job that is right, and a state that may be.
  Contracts of cmp.Less over numbers and slices.IsSorted over slices of numbers.
-/
import Derived.Test.YtinijeejfnehmaaRoundMay
import Derived.Test.YtinijeejfnehmaaMayMath
import Derived.Test.YtinijeejfnehmaaProgFace
import Derived.Test.YtinijeejfnehmaaStaMem
import Derived.Test.YtinijeejfnehmaaRegionCall
import Derived.Deep.CutRange
import Derived.Test.YtinijeejfnehmaaRowNew
import Derived.Test.YtinijeejfnehmaaIntLists
import Derived.Shelf.Sort.Plain
import Derived.Shelf.Slices.In.SortNone
import Derived.Test.YtinijeejfnehmaaProg
import Derived.Test.YtinijeejfnehmaaRoundMath
import Derived.Test.YtinijeejfnehmaaKeptMem
import Derived.Test.YtinijeejfnehmaaProgSay
import Derived.Test.YtinijeejfnehmaaProgOpen
import Derived.Test.YtinijeejfnehmaaRoundTell
import Derived.Laws.CopyRow
import Derived.Lib.SlBuf
import Derived.Deep.QuietTactic
import Derived.BigQuiet

namespace Go.Proofs.Ytinijeejfnehmaa
set_option maxRecDepth 100000

/-- Who says something, among the first i. -/
def sdR (m : Nat) (r : Int → Ml × Bool) (i : Nat) : List Bool := (List.range m).map fun v : Nat => decide (v < i) && (r (v : Int)).2
theorem sdR_len (m : Nat) (r : Int → Ml × Bool) (i : Nat) : (sdR m r i).length = m := by simp [sdR]
theorem sdR_at {m i v : Nat} {r : Int → Ml × Bool} (hv : v < m) : (sdR m r i)[v]? = some (decide (v < i) && (r (v : Int)).2) := by
  unfold sdR
  rw [List.getElem?_map, List.getElem?_range hv]
  rfl
theorem sdR_zero (m : Nat) (r : Int → Ml × Bool) : sdR m r 0 = List.replicate m false := by
  refine List.ext_getElem? fun v => ?_
  rcases Nat.lt_or_ge v m with hv | hv
  · rw [sdR_at hv, List.getElem?_replicate, if_pos hv]; simp
  · rw [List.getElem?_eq_none (by rw [sdR_len]; omega), List.getElem?_eq_none (by simp; omega)]
theorem sdR_set {m i : Nat} {r : Int → Ml × Bool} (hi : i < m) : sdR m r (i + 1) = (sdR m r i).set i (r (i : Int)).2 := by
  refine List.ext_getElem? fun v => ?_
  rw [List.getElem?_set]
  rcases Nat.lt_or_ge v m with hv | hv
  · rw [sdR_at hv]
    by_cases e : i = v
    · subst e
      rw [if_pos rfl, if_pos (by rw [sdR_len]; omega)]
      simp
    · rw [if_neg e, sdR_at hv]
      congr 2
      rw [Bool.eq_iff_iff]
      simp
      omega
  · rw [List.getElem?_eq_none (by rw [sdR_len]; omega), if_neg (by omega), List.getElem?_eq_none (by rw [sdR_len]; omega)]
theorem sdR_keep {m i : Nat} {r : Int → Ml × Bool} (hi : i < m) (h : (r (i : Int)).2 = false) : sdR m r (i + 1) = sdR m r i := by
  refine List.ext_getElem? fun v => ?_
  rcases Nat.lt_or_ge v m with hv | hv
  · rw [sdR_at hv, sdR_at hv]
    by_cases e : v = i
    · subst e; rw [h]; simp
    · congr 2
      rw [Bool.eq_iff_iff]
      simp
      omega
  · rw [List.getElem?_eq_none (by rw [sdR_len]; omega), List.getElem?_eq_none (by rw [sdR_len]; omega)]
theorem sdR_all {m : Nat} {r : Int → Ml × Bool} {v : Int} (hv : 0 ≤ v ∧ v < (m : Int)) : (sdR m r m)[v.toNat]? = some (r v).2 := by
  rw [sdR_at (by omega), Int.toNat_of_nonneg hv.1]
  simp
  omega
theorem valsR_at {m i : Nat} {r : Int → Ml × Bool} (hi : i < m) : (valsR m r)[i]? = some (r (i : Int)).1 := by
  unfold valsR
  rw [List.getElem?_map, List.getElem?_range hi]
  rfl
theorem valsR_of {m : Nat} {r : Int → Ml × Bool} {v : Int} (hv : 0 ≤ v ∧ v < (m : Int)) : (valsR m r)[v.toNat]? = some (r v).1 := by
  rw [valsR_at (by omega), Int.toNat_of_nonneg hv.1]
theorem mailR_at {m i : Nat} {j : Jb} {r : Int → Ml × Bool} {es : List Ed} (hi : i < m) : (mailR m j r es)[i]? = some (sortN (msgs j r es (i : Int))) := by
  unfold mailR
  rw [List.getElem?_map, List.getElem?_range hi]
  rfl
theorem openV_snoc (l : List Ml) (x : Ml) : openV (l ++ [x]) = (openV l || decide (x.2 < 0)) := by simp [openV]
theorem sortN_nil : sortN [] = [] := List.eq_nil_of_length_eq_zero (by rw [sortN_len]; rfl)
/-- One more edge. -/
theorem msgs_snoc (j : Jb) (r : Int → Ml × Bool) (es : List Ed) (e : Ed) (u : Int) : msgs j r (es ++ [e]) u = msgs j r es u ++ msgE j r u e := by simp [msgs, List.flatMap_append]
theorem msgs_most (j : Jb) (r : Int → Ml × Bool) (es : List Ed) (u : Int) : (msgs j r es u).length ≤ 2 * es.length := by
  induction es with
  | nil => exact Nat.le_refl _
  | cons e es ih =>
    have h1 : msgs j r (e :: es) u = msgE j r u e ++ msgs j r es u := by simp [msgs]
    rw [h1, List.length_append, List.length_cons]
    have h2 : (msgE j r u e).length ≤ 2 := by
      unfold msgE
      rw [List.length_append]
      split <;> split <;> simp
    omega
/-- What comes forward along one edge, and back. -/
def outM (j : Jb) (r : Int → Ml × Bool) (u : Int) (e : Ed) : Bool := ((wayJ j).1 && (e.2.1 == u)) && (r e.1).2
def inM (j : Jb) (r : Int → Ml × Bool) (u : Int) (e : Ed) : Bool := ((wayJ j).2 && (e.1 == u)) && (r e.2.1).2
/-- Nothing along these edges to u is too great. -/
def fitR (j : Jb) (r : Int → Ml × Bool) (es : List Ed) (u : Int) : Prop := ∀ e ∈ es, outM j r u e = true → sayJ j (r e.1).1.1 e.2.2 ≤ Jb.top j
theorem over_of {j : Jb} {r : Int → Ml × Bool} {es : List Ed} {u : Int} {e : Ed} (he : e ∈ es) (h : outM j r u e = true) (ho : ¬ sayJ j (r e.1).1.1 e.2.2 ≤ Jb.top j) : overR j r es = true := by
  unfold outM at h
  simp only [Bool.and_eq_true] at h
  unfold overR
  refine List.any_eq_true.2 ⟨e, he, ?_⟩
  rw [h.1.1, h.2]
  simp
  omega
theorem over_no {j : Jb} {r : Int → Ml × Bool} {es : List Ed} {m : Nat} (hg : InG m es) (h : ∀ u : Nat, u < m → fitR j r es (u : Int)) : overR j r es = false := by
  rw [Bool.eq_false_iff]
  intro g
  obtain ⟨e, he, hb⟩ := List.any_eq_true.1 g
  simp only [Bool.and_eq_true, decide_eq_true_eq] at hb
  have hi := hg e he
  have := h e.2.1.toNat (by omega) e he (by
    unfold outM
    rw [hb.1.1, hb.1.2, Int.toNat_of_nonneg (by omega)]
    simp)
  omega
theorem said_fit {j : Jb} {x : Ml} {n : Int} (hx : valB j x = true) (h0 : 0 ≤ x.1) (hn : inB n 0 1099511627776 = true) : saidJ j x n = if sayJ j x.1 n ≤ Jb.top j then (sayJ j x.1 n, 0) else (0, 6) := by
  unfold saidJ
  have h1 : decide (x.1 ≠ -1) = true := by simp; omega
  rw [hx, h1, hn]
  rfl
theorem wake_fit {j : Jb} {v s : Int} {x : Ml} {b : Bool} {m : List Int} (hv : 0 ≤ v ∧ v ≤ 199) (hx : valB j x = true) (hm : mailB j m = true) : wakeJ j v s x b m = ⟨((wakeV j v s x b m).1.1, (wakeV j v s x b m).1.2), (wakeV j v s x b m).2, 0⟩ := by
  unfold wakeJ
  rw [inB_iff.2 hv, hx, hm]
  rfl
end Go.Proofs.Ytinijeejfnehmaa

namespace Go.Proofs.Ytinijeejfnehmaa
set_option maxRecDepth 100000

def t0F (j : Jb) (r : Int → Ml × Bool) (es : List Ed) (u : Nat) : List Int := msgs j r es (u : Int)
def t1F (j : Jb) (r : Int → Ml × Bool) (es : List Ed) (e : Ed) (u : Nat) : List Int := msgs j r es (u : Int) ++ (if outM j r (u : Int) e then [sayJ j (r e.1).1.1 e.2.2] else [])
def t2F (j : Jb) (r : Int → Ml × Bool) (es : List Ed) (c u : Nat) : List Int := if u < c then sortN (msgs j r es (u : Int)) else msgs j r es (u : Int)
def tabF (m : Nat) (f : Nat → List Int) : List (List Int) := (List.range m).map f
theorem tabF_len (m : Nat) (f : Nat → List Int) : (tabF m f).length = m := by simp [tabF]
theorem tabF_at {m u : Nat} {f : Nat → List Int} (h : u < m) : (tabF m f)[u]? = some (f u) := by unfold tabF; rw [List.getElem?_map, List.getElem?_range h]; rfl
theorem tabF_same {m : Nat} {f g : Nat → List Int} (h : ∀ u, u < m → g u = f u) : tabF m g = tabF m f := List.map_congr_left fun u hu => h u (List.mem_range.1 hu)
theorem tabF_set {m v : Nat} {f g : Nat → List Int} {l : List Int} (hg : g v = l) (h : ∀ u, u < m → u ≠ v → g u = f u) : tabF m g = (tabF m f).set v l := by
  refine List.ext_getElem? fun u => ?_
  rcases Nat.lt_or_ge u m with hu | hu
  · rw [tabF_at hu, List.getElem?_set]
    by_cases e : v = u
    · subst e
      rw [if_pos rfl, if_pos (by rw [tabF_len]; exact hu), hg]
    · rw [if_neg e, tabF_at hu, h u hu (fun x => e x.symm)]
  · rw [List.getElem?_eq_none (by rw [tabF_len]; exact hu), List.getElem?_eq_none (by rw [List.length_set, tabF_len]; exact hu)]
section
variable {m : Nat} {j : Jb} {r : Int → Ml × Bool} {es : List Ed} {e : Ed} {i v : Nat}
theorem t0_nil : tabF m (t0F j r []) = List.replicate m [] := by
  refine List.ext_getElem? fun u => ?_
  rcases Nat.lt_or_ge u m with hu | hu
  · rw [tabF_at hu, List.getElem?_replicate, if_pos hu]; rfl
  · rw [List.getElem?_eq_none (by rw [tabF_len]; exact hu), List.getElem?_eq_none (by simpa using hu)]
theorem t1_no (h : ((wayJ j).1 && (r e.1).2) = false) : tabF m (t1F j r es e) = tabF m (t0F j r es) := tabF_same fun u _ => by
  unfold t1F t0F
  have : outM j r (u : Int) e = false := by
    unfold outM
    cases h1 : (wayJ j).1
    · rfl
    · rw [h1] at h
      have h2 : (r e.1).2 = false := by simpa using h
      rw [h2]; simp
  rw [this]; simp
theorem t1_yes (h : ((wayJ j).1 && (r e.1).2) = true) (hv : e.2.1 = (v : Int)) : tabF m (t1F j r es e) = (tabF m (t0F j r es)).set v (t0F j r es v ++ [sayJ j (r e.1).1.1 e.2.2]) := by
  rw [Bool.and_eq_true] at h
  refine tabF_set ?_ fun u _ hu => ?_
  · unfold t1F t0F
    have : outM j r (v : Int) e = true := by unfold outM; rw [h.1, h.2, hv]; simp
    rw [this]; rfl
  · unfold t1F t0F
    have : outM j r (u : Int) e = false := by
      unfold outM
      have h3 : (e.2.1 == (u : Int)) = false := by rw [hv]; simp; omega
      rw [h3]; simp
    rw [this]; simp
theorem t2_no (hx : es[i]? = some e) (h : ((wayJ j).2 && (r e.2.1).2) = false) : tabF m (t0F j r (es.take (i + 1))) = tabF m (t1F j r (es.take i) e) := tabF_same fun u _ => by
  unfold t1F t0F
  rw [take_snoc hx, msgs_snoc]
  unfold msgE
  have : inM j r (u : Int) e = false := by
    unfold inM
    cases h1 : (wayJ j).2
    · rfl
    · rw [h1] at h
      have h2 : (r e.2.1).2 = false := by simpa using h
      rw [h2]; simp
  unfold inM at this
  rw [this]
  unfold outM
  simp
theorem t2_yes (hx : es[i]? = some e) (h : ((wayJ j).2 && (r e.2.1).2) = true) (hv : e.1 = (v : Int)) : tabF m (t0F j r (es.take (i + 1))) = (tabF m (t1F j r (es.take i) e)).set v (t1F j r (es.take i) e v ++ [sayJ j (r e.2.1).1.1 e.2.2]) := by
  rw [Bool.and_eq_true] at h
  refine tabF_set ?_ fun u _ hu => ?_
  · unfold t1F t0F
    rw [take_snoc hx, msgs_snoc]
    unfold msgE
    have : inM j r (v : Int) e = true := by unfold inM; rw [h.1, h.2, hv]; simp
    unfold inM at this
    rw [this]
    unfold outM
    simp
  · unfold t1F t0F
    rw [take_snoc hx, msgs_snoc]
    unfold msgE
    have : inM j r (u : Int) e = false := by
      unfold inM
      have h3 : (e.1 == (u : Int)) = false := by rw [hv]; simp; omega
      rw [h3]; simp
    unfold inM at this
    rw [this]
    unfold outM
    simp
theorem t1_most (hx : es.length ≤ 600) : (t1F j r (es.take i) e v).length ≤ 1201 := by
  unfold t1F
  have h1 := msgs_most j r (es.take i) (v : Int)
  have h2 : (es.take i).length ≤ es.length := by simp; omega
  rw [List.length_append]
  split <;> simp <;> omega
theorem t0_most (hx : es.length ≤ 600) : (t0F j r (es.take i) v).length ≤ 1200 := by
  unfold t0F
  have h1 := msgs_most j r (es.take i) (v : Int)
  have h2 : (es.take i).length ≤ es.length := by simp; omega
  omega
theorem over_take (hx : es[i]? = some e) : overR j r (es.take (i + 1)) = (overR j r (es.take i) || ((wayJ j).1 && (r e.1).2 && decide (Jb.top j < sayJ j (r e.1).1.1 e.2.2))) := by
  unfold overR
  rw [take_snoc hx, List.any_append]; simp
theorem over_part (h : overR j r (es.take i) = true) : overR j r es = true := by
  unfold overR at *
  obtain ⟨e, he, hb⟩ := List.any_eq_true.1 h
  exact List.any_eq_true.2 ⟨e, List.mem_of_mem_take he, hb⟩
theorem s2_zero : tabF m (t2F j r es 0) = tabF m (t0F j r es) := tabF_same fun u _ => by unfold t2F t0F; rw [if_neg (by omega)]
theorem s2_all : tabF m (t2F j r es m) = mailR m j r es := List.map_congr_left fun u hu => by unfold t2F; rw [if_pos (List.mem_range.1 hu)]
theorem s2_next (c : Nat) : tabF m (t2F j r es (c + 1)) = (tabF m (t2F j r es c)).set c (sortN (msgs j r es (c : Int))) := by
  refine tabF_set ?_ fun u _ hu => ?_
  · unfold t2F; rw [if_pos (by omega)]
  · unfold t2F
    by_cases h : u < c
    · rw [if_pos (by omega), if_pos h]
    · rw [if_neg (by omega), if_neg h]
theorem s2_at {c : Nat} : t2F j r es c c = msgs j r es (c : Int) := by unfold t2F; rw [if_neg (by omega)]
end
end Go.Proofs.Ytinijeejfnehmaa

namespace Go.Proofs.Ytinijeejfnehmaa
set_option maxRecDepth 100000
open Go.ChangeShapes Go.WideShapes Go.ChangeAt Go.RowKit

set_option maxHeartbeats 2000000 in
set_option maxRecDepth 100000 in
theorem rWake_any (ev : Value) (n k s : Int) (T : StS) (vv vm : Value) (i : Nat) (x : Ml) (l : List Int) (w : World) (hev : ∃ a b c, ev = .slice a b c) (hv : MlR w vv T.vals) (hm : LiR w vm T.mail) (hx : T.vals[i]? = some x) (hl : T.mail[i]? = some l) :
    Calls Try.prog 48 #[.agg #[.int .i64 n, ev, .int .i64 k, .int .i64 s], .agg #[.int .i64 T.step, .int .i64 T.phase, .bool T.fresh, .bool T.done, vv, vm], .int .i64 (i : Int)] w (WakP w (wakeF k (i : Int) s x T.phase T.fresh l)) := by
  obtain ⟨ea, en, ec, rfl⟩ := hev
  have hiv : i < T.vals.length := (List.getElem?_eq_some_iff.1 hx).1
  have him : i < T.mail.length := (List.getElem?_eq_some_iff.1 hl).1
  obtain ⟨bv, ov, cv, rfl, ltv, hcv⟩ := MlR.read hv (by omega)
  obtain ⟨bm, om, cm, rfl, ltm, hc1, hc2, hcm⟩ := hm.at (by omega)
  obtain ⟨y0, y1⟩ := hcv i x hx
  obtain ⟨u, hu, hur⟩ := hcm i l hl
  obtain ⟨_, _, _, _, hmv, _⟩ := hv
  have UR : Hid (InR w u l) := hur
  obtain ⟨ua, uc, rfl, _⟩ := hur
  have WC0 : Hid (∀ X, InR X (.slice ua l.length uc) l → Calls Try.prog 56 #[.int .i64 k, .int .i64 (i : Int), .int .i64 s, .agg #[.int .i64 x.1, .int .i64 x.2], .int .i64 T.phase, .bool T.fresh, .slice ua l.length uc] X (WakP X (wakeF k (i : Int) s x T.phase T.fresh l))) := fun X hX => wake_any k (i : Int) s x T.phase T.fresh l _ X hX
  generalize wakeF k (i : Int) s x T.phase T.fresh l = r at *
  obtain ⟨u, hu0⟩ : ∃ u, u = Value.slice ua l.length uc := ⟨_, rfl⟩
  rw [← hu0] at WC0 UR hu
  have hob : u.oneCell' = true := by rw [hu0]; rfl
  obtain ⟨W0, hW0⟩ : ∃ W0, W0 = ((w.alloc (.cells #[.int .i64 n, .slice ea en ec, .int .i64 k, .int .i64 s] 26)).alloc (.cells #[.int .i64 T.step, .int .i64 T.phase, .bool T.fresh, .bool T.done, .slice (some ⟨bv, ov, none⟩) T.vals.length cv, .slice (some ⟨bm, om, none⟩) T.mail.length cm] 42)).alloc (.cells #[.int .i64 0, .int .i64 0] 53) := ⟨_, rfl⟩
  obtain ⟨Q0, T0, Z1, B0, s1, s2⟩ := boxes3 w #[.int .i64 n, .slice ea en ec, .int .i64 k, .int .i64 s] #[.int .i64 T.step, .int .i64 T.phase, .bool T.fresh, .bool T.done, .slice (some ⟨bv, ov, none⟩) T.vals.length cv, .slice (some ⟨bm, om, none⟩) T.mail.length cm] #[.int .i64 0, .int .i64 0] 26 42 53 W0 hW0
  have BH : Hid (Below w.heap.size w W0) := B0
  have Z0 : Hid (BX 53 W0 (w.heap.size + 2) #[.int .i64 0, .int .i64 0]) := Z1
  have WC : Hid (∀ X, Below W0.heap.size W0 X → Calls Try.prog 56 #[.int .i64 k, .int .i64 (i : Int), .int .i64 s, .agg #[.int .i64 x.1, .int .i64 x.2], .int .i64 T.phase, .bool T.fresh, u] X fun e w' => ∃ v, e = .returned v ∧ (v = .tuple #[.agg #[.int .i64 r.x.1, .int .i64 r.x.2], .bool r.b, .int .i64 r.f] ∧ Below X.heap.size X w')) := fun X hX => (WC0.out X (UR.out.below (BH.out.trans (hX.mono (by omega))) (Nat.le_refl _))).mono fun e w' h => ⟨_, h.1, rfl, h.2⟩
  have KEEP : Hid (∀ V, Kept (fun k => k = w.heap.size + 2) W0 V → (V.cell? ⟨w.heap.size, 2, none⟩ = some (.int .i64 k) ∧ V.cell? ⟨w.heap.size, 3, none⟩ = some (.int .i64 s) ∧ V.cell? ⟨w.heap.size + 1, 1, none⟩ = some (.int .i64 T.phase) ∧ V.cell? ⟨w.heap.size + 1, 2, none⟩ = some (.bool T.fresh) ∧ V.cell? ⟨w.heap.size + 1, 4, none⟩ = some (.slice (some ⟨bv, ov, none⟩) T.vals.length cv) ∧ V.cell? ⟨w.heap.size + 1, 5, none⟩ = some (.slice (some ⟨bm, om, none⟩) T.mail.length cm) ∧ V.cell? ⟨bv, ov + i * 2, none⟩ = some (.int .i64 x.1) ∧ V.cell? ⟨bv, ov + i * 2 + 1, none⟩ = some (.int .i64 x.2) ∧ V.cell? ⟨bm, om + i, none⟩ = some u)) := fun V hV => by
    have j1 := Q0.kept hV (by omega)
    have j2 := T0.kept hV (by omega)
    obtain ⟨q0, q1, q2, q3⟩ := j1.all4
    obtain ⟨⟨c0, c1, c2, c3, c4, c5⟩, _⟩ := j2.all6
    have cc : ∀ (b o : Nat) (z : Value), b < w.heap.size → w.cell? ⟨b, o, none⟩ = some z → V.cell? ⟨b, o, none⟩ = some z := fun b o z hb hz => by
      rw [hV.cell (p := ⟨b, o, none⟩) (show b < W0.heap.size by omega) (show ¬ b = w.heap.size + 2 by omega), BH.out.cell (p := ⟨b, o, none⟩) hb]; exact hz
    exact ⟨q2, q3, c1, c2, c4, c5, cc _ _ _ ltv y0, cc _ _ _ ltv y1, cc _ _ _ ltm hu⟩
  have ew : ∀ args w, (callFunc 56 args).run Try.prog w = .ok (.enter 56 args) w := enters_of Try.func56 (by kernel_rfl) rfl
  have HS0 : Hid (W0.drew.cell? ⟨w.heap.size, 2, none⟩ = some (.int .i64 k) ∧ W0.drew.cell? ⟨w.heap.size, 3, none⟩ = some (.int .i64 s) ∧ W0.drew.cell? ⟨w.heap.size + 1, 1, none⟩ = some (.int .i64 T.phase) ∧ W0.drew.cell? ⟨w.heap.size + 1, 2, none⟩ = some (.bool T.fresh) ∧ W0.drew.cell? ⟨w.heap.size + 1, 4, none⟩ = some (.slice (some ⟨bv, ov, none⟩) T.vals.length cv) ∧ W0.drew.cell? ⟨w.heap.size + 1, 5, none⟩ = some (.slice (some ⟨bm, om, none⟩) T.mail.length cm) ∧ W0.drew.cell? ⟨bv, ov + i * 2, none⟩ = some (.int .i64 x.1) ∧ W0.drew.cell? ⟨bv, ov + i * 2 + 1, none⟩ = some (.int .i64 x.2) ∧ W0.drew.cell? ⟨bm, om + i, none⟩ = some u) := KEEP.out W0.drew (Kept.refl _ _).drew
  have p0 : (0 : Int) ≤ (i : Int) := by omega
  have p1 : (i : Int) < (T.vals.length : Int) := by omega
  have p2 : (i : Int) < (T.mail.length : Int) := by omega
  clear Q0 T0 Z1 B0 hx hl hcv hcm y0 y1 hu UR WC0
  go_enter Try.func48, Try.ntmps48
  go_upto_region 1 with fail
  rw [← hW0]
  clear hW0
  refine wp_region_held (S := fun V => (V.cell? ⟨w.heap.size, 2, none⟩ = some (.int .i64 k) ∧ V.cell? ⟨w.heap.size, 3, none⟩ = some (.int .i64 s) ∧ V.cell? ⟨w.heap.size + 1, 1, none⟩ = some (.int .i64 T.phase) ∧ V.cell? ⟨w.heap.size + 1, 2, none⟩ = some (.bool T.fresh) ∧ V.cell? ⟨w.heap.size + 1, 4, none⟩ = some (.slice (some ⟨bv, ov, none⟩) T.vals.length cv) ∧ V.cell? ⟨w.heap.size + 1, 5, none⟩ = some (.slice (some ⟨bm, om, none⟩) T.mail.length cm) ∧ V.cell? ⟨bv, ov + i * 2, none⟩ = some (.int .i64 x.1) ∧ V.cell? ⟨bv, ov + i * 2 + 1, none⟩ = some (.int .i64 x.2) ∧ V.cell? ⟨bm, om + i, none⟩ = some u)) (by kernel_rfl) ?_
  simp only [List.size_toArray, List.length_cons, List.length_nil, Nat.reduceAdd]
  refine takeH (i := 0) (v := .pointer (some ⟨w.heap.size, 2, none⟩)) (d := 9) rfl rfl (by kernel_rfl) (by kernel_rfl) (by kernel_rfl) (fun _ _ _ h => h) (by rfl) (fun V hV => by obtain ⟨v1, v2, v3, v4, v5, v6, v7, v8, v9⟩ := hV; go_simp) HS0.out ?_
  simp only [Act.put, List.setIfInBounds_toArray, List.set_cons_zero, List.set_cons_succ]
  refine takeH (i := 1) (v := .int .i64 k) (d := 10) rfl rfl (by kernel_rfl) (by kernel_rfl) (by kernel_rfl) (fun _ _ _ h => h) (by rfl) (fun V hV => by obtain ⟨v1, v2, v3, v4, v5, v6, v7, v8, v9⟩ := hV; go_simp) HS0.out ?_
  simp only [Act.put, List.setIfInBounds_toArray, List.set_cons_zero, List.set_cons_succ]
  refine takeH (i := 2) (v := .int .i64 (i : Int)) (d := 11) rfl rfl (by kernel_rfl) (by kernel_rfl) (by kernel_rfl) (fun _ _ _ h => h) (by rfl) (fun V hV => by obtain ⟨v1, v2, v3, v4, v5, v6, v7, v8, v9⟩ := hV; go_simp) HS0.out ?_
  simp only [Act.put, List.setIfInBounds_toArray, List.set_cons_zero, List.set_cons_succ]
  refine takeH (i := 3) (v := .pointer (some ⟨w.heap.size, 3, none⟩)) (d := 12) rfl rfl (by kernel_rfl) (by kernel_rfl) (by kernel_rfl) (fun _ _ _ h => h) (by rfl) (fun V hV => by obtain ⟨v1, v2, v3, v4, v5, v6, v7, v8, v9⟩ := hV; go_simp) HS0.out ?_
  simp only [Act.put, List.setIfInBounds_toArray, List.set_cons_zero, List.set_cons_succ]
  refine takeH (i := 4) (v := .int .i64 s) (d := 13) rfl rfl (by kernel_rfl) (by kernel_rfl) (by kernel_rfl) (fun _ _ _ h => h) (by rfl) (fun V hV => by obtain ⟨v1, v2, v3, v4, v5, v6, v7, v8, v9⟩ := hV; go_simp) HS0.out ?_
  simp only [Act.put, List.setIfInBounds_toArray, List.set_cons_zero, List.set_cons_succ]
  refine takeH (i := 5) (v := .pointer (some ⟨w.heap.size + 1, 4, none⟩)) (d := 14) rfl rfl (by kernel_rfl) (by kernel_rfl) (by kernel_rfl) (fun _ _ _ h => h) (by rfl) (fun V hV => by obtain ⟨v1, v2, v3, v4, v5, v6, v7, v8, v9⟩ := hV; go_simp) HS0.out ?_
  simp only [Act.put, List.setIfInBounds_toArray, List.set_cons_zero, List.set_cons_succ]
  refine takeH (i := 6) (v := .slice (some ⟨bv, ov, none⟩) T.vals.length cv) (d := 15) rfl rfl (by kernel_rfl) (by kernel_rfl) (by kernel_rfl) (fun _ _ _ h => h) (by rfl) (fun V hV => by obtain ⟨v1, v2, v3, v4, v5, v6, v7, v8, v9⟩ := hV; go_simp) HS0.out ?_
  simp only [Act.put, List.setIfInBounds_toArray, List.set_cons_zero, List.set_cons_succ]
  refine takeH (i := 7) (v := .int .i64 (i : Int)) (d := 16) rfl rfl (by kernel_rfl) (by kernel_rfl) (by kernel_rfl) (fun _ _ _ h => h) (by rfl) (fun V hV => by obtain ⟨v1, v2, v3, v4, v5, v6, v7, v8, v9⟩ := hV; go_simp) HS0.out ?_
  simp only [Act.put, List.setIfInBounds_toArray, List.set_cons_zero, List.set_cons_succ]
  refine takeH (i := 8) (v := .pointer (some ⟨bv, ov + i * 2, none⟩)) (d := 17) rfl rfl (by kernel_rfl) (by kernel_rfl) (by kernel_rfl) (fun _ _ _ h => h) (by rfl) (fun V hV => by obtain ⟨v1, v2, v3, v4, v5, v6, v7, v8, v9⟩ := hV; go_simp) HS0.out ?_
  simp only [Act.put, List.setIfInBounds_toArray, List.set_cons_zero, List.set_cons_succ]
  refine takeH (i := 9) (v := .agg #[.int .i64 x.1, .int .i64 x.2]) (d := 18) rfl rfl (by kernel_rfl) (by kernel_rfl) (by kernel_rfl) (fun _ _ _ h => h) (by rfl) (fun V hV => by obtain ⟨v1, v2, v3, v4, v5, v6, v7, v8, v9⟩ := hV; go_simp) HS0.out ?_
  simp only [Act.put, List.setIfInBounds_toArray, List.set_cons_zero, List.set_cons_succ]
  refine takeH (i := 10) (v := .pointer (some ⟨w.heap.size + 1, 1, none⟩)) (d := 19) rfl rfl (by kernel_rfl) (by kernel_rfl) (by kernel_rfl) (fun _ _ _ h => h) (by rfl) (fun V hV => by obtain ⟨v1, v2, v3, v4, v5, v6, v7, v8, v9⟩ := hV; go_simp) HS0.out ?_
  simp only [Act.put, List.setIfInBounds_toArray, List.set_cons_zero, List.set_cons_succ]
  refine takeH (i := 11) (v := .int .i64 T.phase) (d := 20) rfl rfl (by kernel_rfl) (by kernel_rfl) (by kernel_rfl) (fun _ _ _ h => h) (by rfl) (fun V hV => by obtain ⟨v1, v2, v3, v4, v5, v6, v7, v8, v9⟩ := hV; go_simp) HS0.out ?_
  simp only [Act.put, List.setIfInBounds_toArray, List.set_cons_zero, List.set_cons_succ]
  refine takeH (i := 12) (v := .pointer (some ⟨w.heap.size + 1, 2, none⟩)) (d := 21) rfl rfl (by kernel_rfl) (by kernel_rfl) (by kernel_rfl) (fun _ _ _ h => h) (by rfl) (fun V hV => by obtain ⟨v1, v2, v3, v4, v5, v6, v7, v8, v9⟩ := hV; go_simp) HS0.out ?_
  simp only [Act.put, List.setIfInBounds_toArray, List.set_cons_zero, List.set_cons_succ]
  refine takeH (i := 13) (v := .bool T.fresh) (d := 22) rfl rfl (by kernel_rfl) (by kernel_rfl) (by kernel_rfl) (fun _ _ _ h => h) (by rfl) (fun V hV => by obtain ⟨v1, v2, v3, v4, v5, v6, v7, v8, v9⟩ := hV; go_simp) HS0.out ?_
  simp only [Act.put, List.setIfInBounds_toArray, List.set_cons_zero, List.set_cons_succ]
  refine takeH (i := 14) (v := .pointer (some ⟨w.heap.size + 1, 5, none⟩)) (d := 23) rfl rfl (by kernel_rfl) (by kernel_rfl) (by kernel_rfl) (fun _ _ _ h => h) (by rfl) (fun V hV => by obtain ⟨v1, v2, v3, v4, v5, v6, v7, v8, v9⟩ := hV; go_simp) HS0.out ?_
  simp only [Act.put, List.setIfInBounds_toArray, List.set_cons_zero, List.set_cons_succ]
  refine takeH (i := 15) (v := .slice (some ⟨bm, om, none⟩) T.mail.length cm) (d := 24) rfl rfl (by kernel_rfl) (by kernel_rfl) (by kernel_rfl) (fun _ _ _ h => h) (by rfl) (fun V hV => by obtain ⟨v1, v2, v3, v4, v5, v6, v7, v8, v9⟩ := hV; go_simp) HS0.out ?_
  simp only [Act.put, List.setIfInBounds_toArray, List.set_cons_zero, List.set_cons_succ]
  refine takeH (i := 16) (v := .int .i64 (i : Int)) (d := 25) rfl rfl (by kernel_rfl) (by kernel_rfl) (by kernel_rfl) (fun _ _ _ h => h) (by rfl) (fun V hV => by obtain ⟨v1, v2, v3, v4, v5, v6, v7, v8, v9⟩ := hV; go_simp) HS0.out ?_
  simp only [Act.put, List.setIfInBounds_toArray, List.set_cons_zero, List.set_cons_succ]
  refine takeH (i := 17) (v := .pointer (some ⟨bm, om + i, none⟩)) (d := 26) rfl rfl (by kernel_rfl) (by kernel_rfl) (by kernel_rfl) (fun _ _ _ h => h) (by rfl) (fun V hV => by obtain ⟨v1, v2, v3, v4, v5, v6, v7, v8, v9⟩ := hV; go_simp) HS0.out ?_
  simp only [Act.put, List.setIfInBounds_toArray, List.set_cons_zero, List.set_cons_succ]
  refine takeH (i := 18) (v := u) (d := 27) rfl rfl (by kernel_rfl) (by kernel_rfl) (by kernel_rfl) (fun _ _ _ h => h) (by rfl) (fun V hV => by obtain ⟨v1, v2, v3, v4, v5, v6, v7, v8, v9⟩ := hV; go_simp) HS0.out ?_
  simp only [Act.put, List.setIfInBounds_toArray, List.set_cons_zero, List.set_cons_succ]
  refine oneH (i := 19) rfl (by kernel_rfl) rfl (call_gets (d := 28) (f := 56) (xs := #[.tmp 10, .tmp 11, .tmp 13, .tmp 18, .tmp 20, .tmp 22, .tmp 27]) (ats := #[3, 3, 3, 53, 3, 4, 57]) rfl rfl ew (vs := #[.int .i64 k, .int .i64 (i : Int), .int .i64 s, .agg #[.int .i64 x.1, .int .i64 x.2], .int .i64 T.phase, .bool T.fresh, u]) (by simp [Act.eval]) (WC.out W0.drew (Below.refl _ _).drew) ?_)
  rintro vr w2 ⟨rfl, hb2⟩
  have A2 : Below W0.heap.size W0 w2 := (Below.refl _ _).drew.trans hb2
  have k2 : Kept (fun k => k = w.heap.size + 2) W0 w2 := .of A2
  have HS2 : Hid (w2.cell? ⟨w.heap.size, 2, none⟩ = some (.int .i64 k) ∧ w2.cell? ⟨w.heap.size, 3, none⟩ = some (.int .i64 s) ∧ w2.cell? ⟨w.heap.size + 1, 1, none⟩ = some (.int .i64 T.phase) ∧ w2.cell? ⟨w.heap.size + 1, 2, none⟩ = some (.bool T.fresh) ∧ w2.cell? ⟨w.heap.size + 1, 4, none⟩ = some (.slice (some ⟨bv, ov, none⟩) T.vals.length cv) ∧ w2.cell? ⟨w.heap.size + 1, 5, none⟩ = some (.slice (some ⟨bm, om, none⟩) T.mail.length cm) ∧ w2.cell? ⟨bv, ov + i * 2, none⟩ = some (.int .i64 x.1) ∧ w2.cell? ⟨bv, ov + i * 2 + 1, none⟩ = some (.int .i64 x.2) ∧ w2.cell? ⟨bm, om + i, none⟩ = some u) := KEEP.out w2 k2
  have z2 : BX 53 w2 (w.heap.size + 2) #[.int .i64 0, .int .i64 0] := Z0.out.below A2 (by omega)
  refine ⟨HS2.out, ?_⟩
  simp only [Act.put, List.setIfInBounds_toArray, List.set_cons_zero, List.set_cons_succ]
  refine takeH (i := 20) (v := .agg #[.int .i64 r.x.1, .int .i64 r.x.2]) (d := 29) rfl rfl (by kernel_rfl) (by kernel_rfl) (by kernel_rfl) (fun _ _ _ h => h) (by rfl) (fun V hV => by obtain ⟨v1, v2, v3, v4, v5, v6, v7, v8, v9⟩ := hV; go_simp) HS2.out ?_
  simp only [Act.put, List.setIfInBounds_toArray, List.set_cons_zero, List.set_cons_succ]
  refine takeH (i := 21) (v := .bool r.b) (d := 30) rfl rfl (by kernel_rfl) (by kernel_rfl) (by kernel_rfl) (fun _ _ _ h => h) (by rfl) (fun V hV => by obtain ⟨v1, v2, v3, v4, v5, v6, v7, v8, v9⟩ := hV; go_simp) HS2.out ?_
  simp only [Act.put, List.setIfInBounds_toArray, List.set_cons_zero, List.set_cons_succ]
  refine takeH (i := 22) (v := .int .i64 r.f) (d := 31) rfl rfl (by kernel_rfl) (by kernel_rfl) (by kernel_rfl) (fun _ _ _ h => h) (by rfl) (fun V hV => by obtain ⟨v1, v2, v3, v4, v5, v6, v7, v8, v9⟩ := hV; go_simp) HS2.out ?_
  simp only [Act.put, List.setIfInBounds_toArray, List.set_cons_zero, List.set_cons_succ]
  obtain ⟨n0, n1, n2, n3⟩ := z2.all2
  have k3 : Kept (fun k => k = w.heap.size + 2) W0 (put2 w2 (w.heap.size + 2) (.int .i64 r.x.1) (.int .i64 r.x.2)) := k2.trans ((Kept.box _ _ _ _).trans (Kept.box _ _ _ _))
  have HS3 : Hid ((put2 w2 (w.heap.size + 2) (.int .i64 r.x.1) (.int .i64 r.x.2)).cell? ⟨w.heap.size, 2, none⟩ = some (.int .i64 k) ∧ (put2 w2 (w.heap.size + 2) (.int .i64 r.x.1) (.int .i64 r.x.2)).cell? ⟨w.heap.size, 3, none⟩ = some (.int .i64 s) ∧ (put2 w2 (w.heap.size + 2) (.int .i64 r.x.1) (.int .i64 r.x.2)).cell? ⟨w.heap.size + 1, 1, none⟩ = some (.int .i64 T.phase) ∧ (put2 w2 (w.heap.size + 2) (.int .i64 r.x.1) (.int .i64 r.x.2)).cell? ⟨w.heap.size + 1, 2, none⟩ = some (.bool T.fresh) ∧ (put2 w2 (w.heap.size + 2) (.int .i64 r.x.1) (.int .i64 r.x.2)).cell? ⟨w.heap.size + 1, 4, none⟩ = some (.slice (some ⟨bv, ov, none⟩) T.vals.length cv) ∧ (put2 w2 (w.heap.size + 2) (.int .i64 r.x.1) (.int .i64 r.x.2)).cell? ⟨w.heap.size + 1, 5, none⟩ = some (.slice (some ⟨bm, om, none⟩) T.mail.length cm) ∧ (put2 w2 (w.heap.size + 2) (.int .i64 r.x.1) (.int .i64 r.x.2)).cell? ⟨bv, ov + i * 2, none⟩ = some (.int .i64 x.1) ∧ (put2 w2 (w.heap.size + 2) (.int .i64 r.x.1) (.int .i64 r.x.2)).cell? ⟨bv, ov + i * 2 + 1, none⟩ = some (.int .i64 x.2) ∧ (put2 w2 (w.heap.size + 2) (.int .i64 r.x.1) (.int .i64 r.x.2)).cell? ⟨bm, om + i, none⟩ = some u) := KEEP.out _ k3
  have Z3 : Hid (BX 53 (put2 w2 (w.heap.size + 2) (.int .i64 r.x.1) (.int .i64 r.x.2)) (w.heap.size + 2) #[.int .i64 r.x.1, .int .i64 r.x.2]) := z2.put2 _ _
  have B3 : Hid (Below w.heap.size w (put2 w2 (w.heap.size + 2) (.int .i64 r.x.1) (.int .i64 r.x.2))) := below_put2 (BH.out.trans (A2.mono (by omega))) (by omega) _ _
  refine oneH (i := 23) rfl (by kernel_rfl) rfl (op_skip (w' := (put2 w2 (w.heap.size + 2) (.int .i64 r.x.1) (.int .i64 r.x.2))) rfl (by unfold put2; go_simp) ⟨HS3.out, ?_⟩)
  clear n0 n1 n2 n3 k3 z2 HS2 A2 k2
  generalize put2 w2 (w.heap.size + 2) (.int .i64 r.x.1) (.int .i64 r.x.2) = w3 at *
  refine takeH (i := 24) (v := .bool r.b) (d := 7) rfl rfl (by kernel_rfl) (by kernel_rfl) (by kernel_rfl) (fun _ _ _ h => h) (by rfl) (fun V hV => by obtain ⟨v1, v2, v3, v4, v5, v6, v7, v8, v9⟩ := hV; go_simp) HS3.out ?_
  simp only [Act.put, List.setIfInBounds_toArray, List.set_cons_zero, List.set_cons_succ]
  refine takeH (i := 25) (v := .int .i64 r.f) (d := 8) rfl rfl (by kernel_rfl) (by kernel_rfl) (by kernel_rfl) (fun _ _ _ h => h) (by rfl) (fun V hV => by obtain ⟨v1, v2, v3, v4, v5, v6, v7, v8, v9⟩ := hV; go_simp) HS3.out ?_
  simp only [Act.put, List.setIfInBounds_toArray, List.set_cons_zero, List.set_cons_succ]
  refine wpAnyH_done (by kernel_rfl) ?_ _
  obtain ⟨r0, r1, _⟩ := Z3.out.all2
  go_wp2_with fail
  exact bodyPost_ret (v := .tuple #[.agg #[.int .i64 r.x.1, .int .i64 r.x.2], .bool r.b, .int .i64 r.f]) (by simp [results, Try.results48, go_sem, r0, r1]) rfl ⟨rfl, B3.out⟩
end Go.Proofs.Ytinijeejfnehmaa

namespace Go.Proofs.Ytinijeejfnehmaa
set_option maxRecDepth 100000
open Go.ChangeShapes Go.WideShapes Go.ChangeAt Go.RowKit

theorem flat_setM : ∀ (xs : List Ml) (p : Nat) (e : Ml), p < xs.length → (xs.set p e).flatMap encM = ((xs.flatMap encM).set (p * 2) (.int .i64 e.1)).set (p * 2 + 1) (.int .i64 e.2)
  | [], p, e, h => by simp at h
  | x :: xs, 0, e, _ => by simp [encM]
  | x :: xs, p + 1, e, h => by
    have := flat_setM xs p e (by simpa using h)
    rw [List.set_cons_succ, List.flatMap_cons, this, List.flatMap_cons, show (p + 1) * 2 = p * 2 + 2 by omega]
    simp [encM]
/-- Two stores: a value. -/
def putV (w : World) (g o : Nat) (e : Ml) : World := (w.setCell ⟨g, o, none⟩ (.int .i64 e.1)).setCell ⟨g, o + 1, none⟩ (.int .i64 e.2)
theorem own_putV {w : World} {base g n cap p : Nat} {xs : List Ml} (h : w.ownsRow base 53 2 (.slice (some ⟨g, 0, none⟩) n cap) n (xs.flatMap encM)) (hp : p < xs.length) (e : Ml) :
    (putV w g (p * 2) e).ownsRow base 53 2 (.slice (some ⟨g, 0, none⟩) n cap) n ((xs.set p e).flatMap encM) := by
  rw [flat_setM xs p e hp]
  exact own_setRow (own_setRow h)
theorem kept_putV (w : World) (g o : Nat) (e : Ml) : Kept (fun k => k = g) w (putV w g o e) := (Kept.box w g o _).trans (Kept.box _ g (o + 1) _)
theorem below_putV {w w' : World} {B g o : Nat} (h : Below B w w') (hg : B ≤ g) (e : Ml) : Below B w (putV w' g o e) := (h.setCell (p := ⟨g, o, none⟩) hg _).setCell (p := ⟨g, o + 1, none⟩) hg _
theorem own_atV {w : World} {base g n cap : Nat} {xs : List Ml} (h : w.ownsRow base 53 2 (.slice (some ⟨g, 0, none⟩) n cap) n (xs.flatMap encM)) {i : Nat} {x : Ml} (hx : xs[i]? = some x) :
    w.cell? ⟨g, i * 2, none⟩ = some (.int .i64 x.1) ∧ w.cell? ⟨g, i * 2 + 1, none⟩ = some (.int .i64 x.2) := by
  have c : ∀ j u, (encM x)[j]? = some u → w.cell? ⟨g, i * 2 + j, none⟩ = some u := fun j u hu => by
    have := h.cells rfl _ _ (flat_at encM_len hx hu)
    rwa [addr_add] at this
  exact ⟨c 0 _ rfl, c 1 _ rfl⟩
theorem made_vals (m : Nat) : (madeCells (Value.agg #[.int .i64 0, .int .i64 0]).cells (m * 2)).toList = (List.replicate m ((0, 0) : Ml)).flatMap encM := by
  refine List.ext_getElem? fun v => ?_
  rcases Nat.lt_or_ge v (m * 2) with hv | hv
  · have h1 : v / 2 < m := by omega
    have h2 := flat_at (enc := encM) encM_len (xs := List.replicate m ((0, 0) : Ml)) (i := v / 2) (j := v % 2) (x := (0, 0)) (u := .int .i64 0) (by rw [List.getElem?_replicate, if_pos h1]) (by
      rcases (show v % 2 = 0 ∨ v % 2 = 1 by omega) with e | e <;> rw [e] <;> rfl)
    rw [show v / 2 * 2 + v % 2 = v by omega] at h2
    rw [h2]
    simp [madeCells, Value.cells, hv]
    rcases (show v % 2 = 0 ∨ v % 2 = 1 by omega) with e | e <;> rw [e] <;> rfl
  · rw [List.getElem?_eq_none (by simpa [madeCells] using hv), List.getElem?_eq_none (by rw [flat_len encM_len]; simpa using hv)]
/-- make([]api.Value, m). -/
theorem make_vals (w : World) (m : Nat) (hm : m ≤ 1000000) :
    ∃ w', (Instr.makeSlice 39 (.int .i64 (m : Int)) (.int .i64 (m : Int))).run Try.prog w = .ok (.slice (some ⟨w.heap.size, 0, none⟩) m m) w' ∧
      w'.ownsRow w.heap.size 53 2 (.slice (some ⟨w.heap.size, 0, none⟩) m m) m ((List.replicate m ((0, 0) : Ml)).flatMap encM) ∧ Below w.heap.size w w' := by
  obtain ⟨i0, hi, hz0, hz1, hz2⟩ := info_parts Try.infoV
  obtain ⟨w', h1, h2, h3⟩ := run_makeSlice_full (P := Try.prog) w w.heap.size 39 53 i0 (.agg #[.int .i64 0, .int .i64 0]) 2 Try.underlying39 hi hz0 hz1 .i64 .i64 m (by omega) (by rw [hz2]; omega) (by unfold maxLen; omega) (Nat.le_refl _)
  rw [made_vals] at h2
  exact ⟨w', h1, h2, (Below.refl _ _).grown h3 (Nat.le_refl _) (fun k hk => by cases hk)⟩
end Go.Proofs.Ytinijeejfnehmaa

namespace Go.Proofs.Ytinijeejfnehmaa
set_option maxRecDepth 100000
open Go.ChangeShapes Go.WideShapes Go.ChangeAt Go.RowKit

def encT (b : Bool) : List Value := [.bool b]
theorem encT_len (b : Bool) : (encT b).length = 1 := rfl
theorem encT_one (b : Bool) : ∀ u ∈ encT b, u.oneCell' = true := by intro u hu; simp [encT] at hu; subst hu; rfl
theorem flatT (xs : List Bool) : xs.flatMap encT = xs.map Value.bool := by
  induction xs with
  | nil => rfl
  | cons x xs ih => rw [List.flatMap_cons, ih]; rfl
abbrev BlR := RowK encT 1
theorem Try.info4 : (Try.prog.info? 4).map (fun i => (i.zero, i.size, i.bytes)) = some (some (.bool false), 1, 1) := by kernel_rfl
def kT : ElK Bool := ⟨encT, 1, 56, 4, 1, .bool false, Try.underlying56, Try.info4, rfl, by decide, encT_len, encT_one⟩
theorem BlR.at {w : World} {v : Value} {es : List Bool} (h : BlR w v es) (hn : 0 < es.length) :
    ∃ b off cap, v = .slice (some ⟨b, off, none⟩) es.length cap ∧ es.length ≤ cap ∧ cap ≤ maxLen ∧ b < w.heap.size ∧ ∀ i x, es[i]? = some x → w.cell? ⟨b, off + i, none⟩ = some (.bool x) := by
  obtain ⟨a, cap, rfl, hc, hm, _, hel⟩ := h
  obtain ⟨b, off, rfl, lt, hv⟩ := hel hn
  exact ⟨b, off, cap, rfl, hc, hm, lt, fun i x hx => by have := hv i x hx 0 _ rfl; rwa [Nat.mul_one] at this⟩
theorem BlR.ownd {w : World} {base : Nat} {v : Value} {es : List Bool} (h : w.ownsRow base 4 1 v es.length (es.flatMap encT)) : BlR w v es := RowK.own encT_len h
theorem made_falses (m : Nat) : (madeCells (Value.bool false).cells (m * 1)).toList = (List.replicate m false).flatMap encT := by
  rw [flatT]
  simp [madeCells, Value.cells]
  refine List.ext_getElem? fun v => ?_
  rcases Nat.lt_or_ge v m with hv | hv
  · rw [List.getElem?_map, List.getElem?_range hv, List.getElem?_replicate, if_pos hv]
    simp [Nat.mod_one]
  · rw [List.getElem?_eq_none (by simpa using hv), List.getElem?_eq_none (by simpa using hv)]
/-- make([]bool, m). -/
theorem make_bools (w : World) (m : Nat) (hm : m ≤ 1000000) :
    ∃ w', (Instr.makeSlice 56 (.int .i64 (m : Int)) (.int .i64 (m : Int))).run Try.prog w = .ok (.slice (some ⟨w.heap.size, 0, none⟩) m m) w' ∧
      w'.ownsRow w.heap.size 4 1 (.slice (some ⟨w.heap.size, 0, none⟩) m m) m ((List.replicate m false).flatMap encT) ∧ Below w.heap.size w w' := by
  obtain ⟨i0, hi, hz0, hz1, hz2⟩ := info_parts Try.info4
  obtain ⟨w', h1, h2, h3⟩ := run_makeSlice_full (P := Try.prog) w w.heap.size 56 4 i0 (.bool false) 1 Try.underlying56 hi hz0 hz1 .i64 .i64 m (by omega) (by rw [hz2]; omega) (by unfold maxLen; omega) (Nat.le_refl _)
  rw [made_falses] at h2
  exact ⟨w', h1, h2, (Below.refl _ _).grown h3 (Nat.le_refl _) (fun k hk => by cases hk)⟩
theorem own_setB {w : World} {base g n cap j : Nat} {xs : List Bool} {x : Bool} (h : w.ownsRow base 4 1 (.slice (some ⟨g, 0, none⟩) n cap) n (xs.flatMap encT)) : (w.setCell ⟨g, j, none⟩ (.bool x)).ownsRow base 4 1 (.slice (some ⟨g, 0, none⟩) n cap) n ((xs.set j x).flatMap encT) := by
  have := own_setRow (j := j) (x := .bool x) h
  rw [flatT] at this ⊢
  rwa [List.map_set]
theorem own_atB {w : World} {base g n cap : Nat} {xs : List Bool} (h : w.ownsRow base 4 1 (.slice (some ⟨g, 0, none⟩) n cap) n (xs.flatMap encT)) {i : Nat} {x : Bool} (hx : xs[i]? = some x) : w.cell? ⟨g, i, none⟩ = some (.bool x) := by
  have := h.cells rfl i (.bool x) (by rw [flatT, List.getElem?_map, hx]; rfl)
  rwa [addr_add] at this
end Go.Proofs.Ytinijeejfnehmaa

namespace Go.Proofs.Ytinijeejfnehmaa
set_option maxRecDepth 100000
open Go.ChangeShapes Go.WideShapes Go.ChangeAt Go.RowKit

/-- The values, as far as vertices have woken. -/
def vpR (m : Nat) (r : Int → Ml × Bool) (c : Nat) : List Ml := (valsR m r).take c ++ List.replicate (m - c) (0, 0)
theorem vpR_len {m c : Nat} {r : Int → Ml × Bool} (h : c ≤ m) : (vpR m r c).length = m := by simp [vpR, valsR_len]; omega
theorem vpR_zero (m : Nat) (r : Int → Ml × Bool) : vpR m r 0 = List.replicate m (0, 0) := by simp [vpR]
theorem vpR_all (m : Nat) (r : Int → Ml × Bool) : vpR m r m = valsR m r := by simp [vpR, List.take_of_length_le (Nat.le_of_eq (valsR_len m r))]
theorem vpR_set {m c : Nat} {r : Int → Ml × Bool} (h : c < m) : vpR m r (c + 1) = (vpR m r c).set c (r (c : Int)).1 := by
  unfold vpR
  rw [take_snoc (valsR_at h), List.append_assoc, show m - c = (m - (c + 1)) + 1 by omega, List.replicate_succ, List.set_append_right _ _ (by simp [valsR_len]; omega)]
  simp [valsR_len, Nat.min_eq_left (Nat.le_of_lt h)]
/-- What woken answers. -/
def WknP (w : World) (m : Nat) (r : Int → Ml × Bool) (e : Ending) (w' : World) : Prop :=
  ∃ v1 v2, e = .returned (.tuple #[v1, v2]) ∧ w'.ownsRow w.heap.size 53 2 v1 m ((valsR m r).flatMap encM) ∧ w'.ownsRow w.heap.size 4 1 v2 m ((sdR m r m).flatMap encT) ∧ Below w.heap.size w w'
theorem rnd_yes {j : Jb} {s : Int} {T : StS} {c : Nat} {x : Ml} {l : List Int} (hx : T.vals[c]? = some x) (hl : T.mail[c]? = some l) (h : T.fresh = true ∨ 0 < l.length) : rndV j s T (c : Int) = wakeV j (c : Int) s x T.fresh l := by
  have e1 : vlA T.vals (c : Int) = x := by unfold vlA; rw [List.getD_eq_getElem?_getD, Int.toNat_natCast, hx]; rfl
  have e2 : mlA T.mail (c : Int) = l := by unfold mlA; rw [List.getD_eq_getElem?_getD, Int.toNat_natCast, hl]; rfl
  unfold rndV
  rw [e1, e2, if_pos]
  rcases h with h | h
  · rw [h]; rfl
  · cases l with
    | nil => simp at h
    | cons a l => simp
theorem rnd_no {j : Jb} {s : Int} {T : StS} {c : Nat} {x : Ml} {l : List Int} (hx : T.vals[c]? = some x) (hl : T.mail[c]? = some l) (h : T.fresh = false) (h2 : ¬ 0 < l.length) : rndV j s T (c : Int) = (x, false) := by
  have e1 : vlA T.vals (c : Int) = x := by unfold vlA; rw [List.getD_eq_getElem?_getD, Int.toNat_natCast, hx]; rfl
  have e2 : mlA T.mail (c : Int) = l := by unfold mlA; rw [List.getD_eq_getElem?_getD, Int.toNat_natCast, hl]; rfl
  have e3 : l = [] := List.eq_nil_of_length_eq_zero (by omega)
  unfold rndV
  rw [e1, e2, if_neg (by rw [h, e3]; simp)]
theorem own_cur {w : World} {base g n cap size : Nat} {e : TypeId} {xs : List Value} (h : w.ownsRow base e size (.slice (some ⟨g, 0, none⟩) n cap) n xs) : ∃ cur, w.heap[g]? = some (.cells cur e (0, 0)) := by
  rcases h.2 with ⟨hv, _⟩ | ⟨g3, c3, cur, hv, _, hgg, _⟩
  · cases hv
  · injection hv with hv
    injection hv with hv
    injection hv with hv
    subst hv
    exact ⟨cur, hgg⟩
/-- Stores into a row leave a row of another type. -/
theorem own_else {w w' : World} {base b g n m size size' cap : Nat} {e e' : TypeId} {v : Value} {xs ys : List Value} (h : w.ownsRow base e size v n xs) (h2 : w.ownsRow b e' size' (.slice (some ⟨g, 0, none⟩) m cap) m ys) (hne : e ≠ e') (hk : Kept (fun k => k = g) w w') : w'.ownsRow base e size v n xs := by
  obtain ⟨cur, hc⟩ := own_cur h2
  exact hk.own h fun q hq e => own_block h hq hc hne e

set_option maxHeartbeats 4000000 in
set_option maxRecDepth 100000 in
theorem rWoken_any (ea : Option Addr) (el ec m : Nat) (n k s : Int) (j : Jb) (T : StS) (vv vm : Value) (w : World) (hv : MlR w vv T.vals) (hm : LiR w vm T.mail) (hj : jobF k T.phase = some j) (hI : MayI m j T) (hn : m ≤ 200) :
    Calls Try.prog 38 #[.agg #[.int .i64 n, .slice ea el ec, .int .i64 k, .int .i64 s], .agg #[.int .i64 T.step, .int .i64 T.phase, .bool T.fresh, .bool T.done, vv, vm]] w (WknP w m (rndV j s T)) := by
  have HV : Hid (MlR w vv T.vals) := hv
  have HM : Hid (LiR w vm T.mail) := hm
  obtain ⟨va, vc, rfl, hvc, hvm, _, _⟩ := hv
  obtain ⟨ma, mc, rfl, hmc, hmm, _⟩ := hm
  unfold maxLen at hvm hmm
  have lv1 : m ≤ T.vals.length := Nat.le_of_eq hI.lv.symm
  have lm1 : m ≤ T.mail.length := Nat.le_of_eq hI.lm.symm
  have lv2 : T.vals.length ≤ m := Nat.le_of_eq hI.lv
  have HLV : Hid (T.vals.length = m) := hI.lv
  obtain ⟨W0, hW0⟩ : ∃ W0, W0 = (w.alloc (.cells #[.int .i64 n, .slice ea el ec, .int .i64 k, .int .i64 s] 26)).alloc (.cells #[.int .i64 T.step, .int .i64 T.phase, .bool T.fresh, .bool T.done, .slice va T.vals.length vc, .slice ma T.mail.length mc] 42) := ⟨_, rfl⟩
  obtain ⟨Q0, T0, B0, s1, s2⟩ := boxes2 w #[.int .i64 n, .slice ea el ec, .int .i64 k, .int .i64 s] #[.int .i64 T.step, .int .i64 T.phase, .bool T.fresh, .bool T.done, .slice va T.vals.length vc, .slice ma T.mail.length mc] 26 42 W0 hW0
  have BH : Hid (Below w.heap.size w W0) := B0
  have HK : Hid (∀ X, Below W0.heap.size W0 X → BX 26 X w.heap.size #[.int .i64 n, .slice ea el ec, .int .i64 k, .int .i64 s] ∧ BX 42 X (w.heap.size + 1) #[.int .i64 T.step, .int .i64 T.phase, .bool T.fresh, .bool T.done, .slice va T.vals.length vc, .slice ma T.mail.length mc] ∧ Below w.heap.size w X) := fun X hX => ⟨Q0.below hX (by omega), T0.below hX (by omega), BH.out.trans (hX.mono (by omega))⟩
  have HVX : Hid (∀ X, Below W0.heap.size W0 X → MlR X (.slice va T.vals.length vc) T.vals ∧ LiR X (.slice ma T.mail.length mc) T.mail) := fun X hX => ⟨HV.out.below (HK.out _ hX).2.2 (Nat.le_refl _), HM.out.below (HK.out _ hX).2.2 (Nat.le_refl _)⟩
  have HWK : Hid (∀ X (c : Nat) (x : Ml) (l : List Int), Below W0.heap.size W0 X → T.vals[c]? = some x → T.mail[c]? = some l → Calls Try.prog 48 #[.agg #[.int .i64 n, .slice ea el ec, .int .i64 k, .int .i64 s], .agg #[.int .i64 T.step, .int .i64 T.phase, .bool T.fresh, .bool T.done, .slice va T.vals.length vc, .slice ma T.mail.length mc], .int .i64 (c : Int)] X fun e w' => e = .returned (.tuple #[.agg #[.int .i64 (wakeV j (c : Int) s x T.fresh l).1.1, .int .i64 (wakeV j (c : Int) s x T.fresh l).1.2], .bool (wakeV j (c : Int) s x T.fresh l).2, .int .i64 0]) ∧ Below X.heap.size X w') := fun X c x l hX hx hl => by
    have h1 := rWake_any (.slice ea el ec) n k s T _ _ c x l X ⟨_, _, _, rfl⟩ (HVX.out X hX).1 (HVX.out X hX).2 hx hl
    have hc : c < T.vals.length := (List.getElem?_eq_some_iff.1 hx).1
    have e : wakeF k (c : Int) s x T.phase T.fresh l = wakeJ j (c : Int) s x T.fresh l := by unfold wakeF; rw [hj]
    rw [e, wake_fit (by omega) (hI.val x (List.mem_of_getElem? hx)) (hI.mls l (List.mem_of_getElem? hl)).1] at h1
    exact h1
  have KEEP : Hid (∀ V, Below W0.heap.size W0 V → V.cell? ⟨w.heap.size + 1, 4, none⟩ = some (.slice va T.vals.length vc)) := fun V hV => (HK.out V hV).2.1.all6.1.2.2.2.2.1
  have RY : Hid (∀ (c : Nat) (x : Ml) (l : List Int), T.vals[c]? = some x → T.mail[c]? = some l → T.fresh = true ∨ 0 < l.length → rndV j s T (c : Int) = wakeV j (c : Int) s x T.fresh l) := fun c x l hx hl h => rnd_yes hx hl h
  have RN : Hid (∀ (c : Nat) (x : Ml) (l : List Int), T.vals[c]? = some x → T.mail[c]? = some l → T.fresh = false → ¬ 0 < l.length → rndV j s T (c : Int) = (x, false)) := fun c x l hx hl h h2 => rnd_no hx hl h h2
  have HS0 : Hid (W0.drew.cell? ⟨w.heap.size + 1, 4, none⟩ = some (.slice va T.vals.length vc)) := KEEP.out W0.drew (Below.refl _ _).drew
  have tl : (T.vals.length : Int) = (m : Int) := by rw [HLV.out]
  generalize rndV j s T = r at *
  obtain ⟨q0, q1, q2, q3⟩ := Q0.all4
  obtain ⟨⟨c0, c1, c2, c3, c4, c5⟩, _⟩ := T0.all6
  clear Q0 T0 B0 hI hj q0 q1 q2 q3 c0 c1 c2 c3 c4 c5
  go_enter Try.func38, Try.ntmps38
  go_upto_region 1 with fail
  rw [← hW0]
  clear hW0
  apply Hid.cut
  case h =>
    intro HG
    refine wp_region_held (S := fun V => V.cell? ⟨w.heap.size + 1, 4, none⟩ = some (.slice va T.vals.length vc)) (by kernel_rfl) ?_
    simp only [List.size_toArray, List.length_cons, List.length_nil, Nat.reduceAdd]
    refine takeH (i := 0) (v := .pointer (some ⟨w.heap.size + 1, 4, none⟩)) (d := 10) rfl rfl (by kernel_rfl) (by kernel_rfl) (by kernel_rfl) (fun _ _ _ h => h) (by rfl) (fun V hV => by have v1 := hV; clear hV; go_simp) HS0.out ?_
    simp only [Act.put, List.setIfInBounds_toArray, List.set_cons_zero, List.set_cons_succ]
    refine takeH (i := 1) (v := .slice va T.vals.length vc) (d := 11) rfl rfl (by kernel_rfl) (by kernel_rfl) (by kernel_rfl) (fun _ _ _ h => h) (by rfl) (fun V hV => by have v1 := hV; clear hV; go_simp) HS0.out ?_
    simp only [Act.put, List.setIfInBounds_toArray, List.set_cons_zero, List.set_cons_succ]
    refine takeH (i := 2) (v := .int .i64 (m : Int)) (d := 12) rfl rfl (by kernel_rfl) (by kernel_rfl) (by kernel_rfl) (fun _ _ _ h => h) (by rfl) (fun V hV => by have v1 := hV; clear hV; go_simp) HS0.out ?_
    simp only [Act.put, List.setIfInBounds_toArray, List.set_cons_zero, List.set_cons_succ]
    refine takeH (i := 4) (v := .pointer (some ⟨w.heap.size + 1, 4, none⟩)) (d := 14) rfl rfl (by kernel_rfl) (by kernel_rfl) (by kernel_rfl) (fun _ _ _ h => h) (by rfl) (fun V hV => by have v1 := hV; clear hV; go_simp) HS0.out ?_
    simp only [Act.put, List.setIfInBounds_toArray, List.set_cons_zero, List.set_cons_succ]
    refine takeH (i := 5) (v := .slice va T.vals.length vc) (d := 15) rfl rfl (by kernel_rfl) (by kernel_rfl) (by kernel_rfl) (fun _ _ _ h => h) (by rfl) (fun V hV => by have v1 := hV; clear hV; go_simp) HS0.out ?_
    simp only [Act.put, List.setIfInBounds_toArray, List.set_cons_zero, List.set_cons_succ]
    refine takeH (i := 6) (v := .int .i64 (m : Int)) (d := 16) rfl rfl (by kernel_rfl) (by kernel_rfl) (by kernel_rfl) (fun _ _ _ h => h) (by rfl) (fun V hV => by have v1 := hV; clear hV; go_simp) HS0.out ?_
    simp only [Act.put, List.setIfInBounds_toArray, List.set_cons_zero, List.set_cons_succ]
    refine twoH (i := 3) (j := 7) rfl rfl (by kernel_rfl) rfl rfl ?wA ?wB
    case wA =>
      obtain ⟨X1, mk1, o1, hb1⟩ := make_vals W0.drew m (by omega)
      have a1 : Below W0.heap.size W0 X1 := (Below.refl _ W0).drew.trans hb1
      have HS1 : Hid (X1.cell? ⟨w.heap.size + 1, 4, none⟩ = some (.slice va T.vals.length vc)) := KEEP.out X1 a1
      refine op_run (d := 13) (v' := .slice (some ⟨W0.drew.heap.size, 0, none⟩) m m) (w' := X1) rfl (by go_simp) ⟨HS1.out, ?_⟩
      simp only [Act.put, List.setIfInBounds_toArray, List.set_cons_zero, List.set_cons_succ]
      refine takeH (i := 8) (v := .slice (some ⟨W0.drew.heap.size, 0, none⟩) m m) (d := 6) rfl rfl (by kernel_rfl) (by kernel_rfl) (by kernel_rfl) (fun _ _ _ h => h) (by rfl) (fun V hV => by have v1 := hV; clear hV; go_simp) HS1.out ?_
      simp only [Act.put, List.setIfInBounds_toArray, List.set_cons_zero, List.set_cons_succ]
      obtain ⟨X2, mk2, o2, hb2⟩ := make_bools X1 m (by omega)
      have a2 : Below W0.heap.size W0 X2 := a1.trans (hb2.mono a1.size)
      have HS2 : Hid (X2.cell? ⟨w.heap.size + 1, 4, none⟩ = some (.slice va T.vals.length vc)) := KEEP.out X2 a2
      refine oneH (i := 7) rfl (by kernel_rfl) rfl (op_run (d := 17) (v' := .slice (some ⟨X1.heap.size, 0, none⟩) m m) (w' := X2) rfl (by go_simp) ⟨HS2.out, ?_⟩)
      simp only [Act.put, List.setIfInBounds_toArray, List.set_cons_zero, List.set_cons_succ]
      refine takeH (i := 9) (v := .slice (some ⟨X1.heap.size, 0, none⟩) m m) (d := 7) rfl rfl (by kernel_rfl) (by kernel_rfl) (by kernel_rfl) (fun _ _ _ h => h) (by rfl) (fun V hV => by have v1 := hV; clear hV; go_simp) HS2.out ?_
      simp only [Act.put, List.setIfInBounds_toArray, List.set_cons_zero, List.set_cons_succ]
      have FV : Hid (X2.ownsRow W0.heap.size 53 2 (.slice (some ⟨W0.drew.heap.size, 0, none⟩) m m) m ((List.replicate m ((0, 0) : Ml)).flatMap encM)) := own_below o1 hb2 (Nat.le_refl _)
      have FB : Hid (X2.ownsRow W0.heap.size 4 1 (.slice (some ⟨X1.heap.size, 0, none⟩) m m) m ((List.replicate m false).flatMap encT)) := own_lower o2 a1.size
      have FA : Hid (Below W0.heap.size W0 X2) := a2
      refine wpAnyH_done (by kernel_rfl) ?_ _
      clear mk1 o1 hb1 HS1 mk2 o2 hb2 HS2
      clear a2
      clear a1
      generalize W0.drew.heap.size = g1 at *
      generalize X1.heap.size = g2 at *
      revert FA
      revert FB
      revert FV
      revert X2
      revert g2
      revert g1
      exact HG.out
    case wB =>
      obtain ⟨X1, mk1, o1, hb1⟩ := make_bools W0.drew m (by omega)
      have a1 : Below W0.heap.size W0 X1 := (Below.refl _ W0).drew.trans hb1
      have HS1 : Hid (X1.cell? ⟨w.heap.size + 1, 4, none⟩ = some (.slice va T.vals.length vc)) := KEEP.out X1 a1
      refine op_run (d := 17) (v' := .slice (some ⟨W0.drew.heap.size, 0, none⟩) m m) (w' := X1) rfl (by go_simp) ⟨HS1.out, ?_⟩
      simp only [Act.put, List.setIfInBounds_toArray, List.set_cons_zero, List.set_cons_succ]
      obtain ⟨X2, mk2, o2, hb2⟩ := make_vals X1 m (by omega)
      have a2 : Below W0.heap.size W0 X2 := a1.trans (hb2.mono a1.size)
      have HS2 : Hid (X2.cell? ⟨w.heap.size + 1, 4, none⟩ = some (.slice va T.vals.length vc)) := KEEP.out X2 a2
      refine oneH (i := 3) rfl (by kernel_rfl) rfl (op_run (d := 13) (v' := .slice (some ⟨X1.heap.size, 0, none⟩) m m) (w' := X2) rfl (by go_simp) ⟨HS2.out, ?_⟩)
      simp only [Act.put, List.setIfInBounds_toArray, List.set_cons_zero, List.set_cons_succ]
      refine takeH (i := 8) (v := .slice (some ⟨X1.heap.size, 0, none⟩) m m) (d := 6) rfl rfl (by kernel_rfl) (by kernel_rfl) (by kernel_rfl) (fun _ _ _ h => h) (by rfl) (fun V hV => by have v1 := hV; clear hV; go_simp) HS2.out ?_
      simp only [Act.put, List.setIfInBounds_toArray, List.set_cons_zero, List.set_cons_succ]
      refine takeH (i := 9) (v := .slice (some ⟨W0.drew.heap.size, 0, none⟩) m m) (d := 7) rfl rfl (by kernel_rfl) (by kernel_rfl) (by kernel_rfl) (fun _ _ _ h => h) (by rfl) (fun V hV => by have v1 := hV; clear hV; go_simp) HS2.out ?_
      simp only [Act.put, List.setIfInBounds_toArray, List.set_cons_zero, List.set_cons_succ]
      have FV : Hid (X2.ownsRow W0.heap.size 53 2 (.slice (some ⟨X1.heap.size, 0, none⟩) m m) m ((List.replicate m ((0, 0) : Ml)).flatMap encM)) := own_lower o2 a1.size
      have FB : Hid (X2.ownsRow W0.heap.size 4 1 (.slice (some ⟨W0.drew.heap.size, 0, none⟩) m m) m ((List.replicate m false).flatMap encT)) := own_below o1 hb2 (Nat.le_refl _)
      have FA : Hid (Below W0.heap.size W0 X2) := a2
      refine wpAnyH_done (by kernel_rfl) ?_ _
      exact HG.out _ _ _ FV FB FA
  case g =>
    intro g1 g2 X FV FB FA
    clear HS0 KEEP tl
    have hg1 := FV.out.lt g1 rfl
    have hg2 := FB.out.lt g2 rfl
    have hne : g1 ≠ g2 := by
      obtain ⟨cur, hc⟩ := own_cur FB.out
      exact own_block FV.out rfl hc (by decide)
    have FV0 : Hid (X.ownsRow W0.heap.size 53 2 (.slice (some ⟨g1, 0, none⟩) m m) m ((vpR m r 0).flatMap encM)) := by
      show World.ownsRow _ _ _ _ _ _ _
      rw [vpR_zero]; exact FV.out
    have FB0 : Hid (X.ownsRow W0.heap.size 4 1 (.slice (some ⟨g2, 0, none⟩) m m) m ((sdR m r 0).flatMap encT)) := by
      show World.ownsRow _ _ _ _ _ _ _
      rw [sdR_zero]; exact FB.out
    obtain ⟨_, T1, _⟩ := HK.out X FA.out
    obtain ⟨⟨c0, c1, c2, c3, c4, c5⟩, _⟩ := T1.all6
    clear FV FB T1
    go_wp2_with fail
    clear c0 c1 c2 c3 c4 c5
    go_loopw [21] (fun i wr => ∃ c : Nat, c ≤ m ∧ i = .int .i64 c ∧ wr.ownsRow W0.heap.size 53 2 (.slice (some ⟨g1, 0, none⟩) m m) m ((vpR m r c).flatMap encM) ∧ wr.ownsRow W0.heap.size 4 1 (.slice (some ⟨g2, 0, none⟩) m m) m ((sdR m r c).flatMap encT) ∧ Below W0.heap.size W0 wr) (fun i _ => m - (intOf i).toNat)
    case atStart => exact ⟨0, by omega, rfl, FV0.out, FB0.out, FA.out⟩
    case round =>
      obtain ⟨c, hc, rfl, hov, hob, hbel⟩ := hrel
      have OV : Hid (wr.ownsRow W0.heap.size 53 2 (.slice (some ⟨g1, 0, none⟩) m m) m ((vpR m r c).flatMap encM)) := hov
      have OB : Hid (wr.ownsRow W0.heap.size 4 1 (.slice (some ⟨g2, 0, none⟩) m m) m ((sdR m r c).flatMap encT)) := hob
      have AB : Hid (Below W0.heap.size W0 wr) := hbel
      have hsr := hbel.size
      clear hov hob hbel FV0 FB0 FA
      by_cases hlt : c < m
      · obtain ⟨b1, o1, cap1, e1, lt1, hv1⟩ := MlR.read (HVX.out _ AB.out).1 (by omega)
        injection e1 with e1 _ e3
        subst e1 e3
        obtain ⟨b2, o2, cap2, e2, lt2, hc1, hc2, hv2⟩ := (HVX.out _ AB.out).2.at (by omega)
        injection e2 with e2 _ e4
        subst e2 e4
        obtain ⟨x, hx⟩ := getX (show c < T.vals.length by omega)
        obtain ⟨l, hl⟩ := getX (show c < T.mail.length by omega)
        obtain ⟨d0, d1⟩ := hv1 c x hx
        obtain ⟨u, hu, hur⟩ := hv2 c l hl
        obtain ⟨ua, uc, rfl, huc, hum, _⟩ := hur
        unfold maxLen at hum
        have p0 : (0 : Int) ≤ (c : Int) := by omega
        have p1 : (c : Int) < (T.vals.length : Int) := by omega
        have p2 : (c : Int) < (T.mail.length : Int) := by omega
        have p3 : (c : Int) < (m : Int) := by omega
        have HY1 : Hid (T.fresh = true ∨ 0 < l.length → r (c : Int) = wakeV j (c : Int) s x T.fresh l) := RY.out c x l hx hl
        have HN1 : Hid (T.fresh = false → ¬ 0 < l.length → r (c : Int) = (x, false)) := RN.out c x l hx hl
        have HWC : Hid (∀ X, Below W0.heap.size W0 X → _) := fun X hX => HWK.out X c x l hX hx hl
        have HVS : Hid (∀ y, (vpR m r c).set c y = (vpR m r c).set c y) := fun _ => rfl
        have HVN : Hid (vpR m r (c + 1) = (vpR m r c).set c (r (c : Int)).1) := vpR_set hlt
        have HBN : Hid (sdR m r (c + 1) = (sdR m r c).set c (r (c : Int)).2) := sdR_set hlt
        have HBK : Hid ((r (c : Int)).2 = false → sdR m r (c + 1) = sdR m r c) := sdR_keep hlt
        have hvl : c < (vpR m r c).length := by rw [vpR_len hc]; exact hlt
        obtain ⟨y, hy⟩ := getX hvl
        obtain ⟨b0, hb0⟩ := getX (show c < (sdR m r c).length by rw [sdR_len]; exact hlt)
        obtain ⟨k0, k1⟩ := own_atV OV.out hy
        have k2 := own_atB OB.out hb0
        have f0 := frozenK OV.out (c * 2)
        have f1 := frozenK OV.out (c * 2 + 1)
        have f2 := frozenK OB.out c
        clear hv1 hv2 hx hl hy hb0 HVS
        -- the box of the old value
        obtain ⟨w1, hw1⟩ : ∃ w1, w1 = wr.alloc (.cells #[.int .i64 x.1, .int .i64 x.2] 53) := ⟨_, rfl⟩
        have X1 : BX 53 w1 wr.heap.size #[.int .i64 x.1, .int .i64 x.2] := by rw [hw1]; exact BX.new _ _ _
        have ba : Below wr.heap.size wr w1 := by rw [hw1]; exact below_alloc _ _
        have A1 : Hid (Below W0.heap.size W0 w1) := AB.out.trans (ba.mono hsr)
        have OV1 : Hid (w1.ownsRow W0.heap.size 53 2 (.slice (some ⟨g1, 0, none⟩) m m) m ((vpR m r c).flatMap encM)) := own_below OV.out ba (Nat.le_refl _)
        have OB1 : Hid (w1.ownsRow W0.heap.size 4 1 (.slice (some ⟨g2, 0, none⟩) m m) m ((sdR m r c).flatMap encT)) := own_below OB.out ba (Nat.le_refl _)
        obtain ⟨z0, z1, _⟩ := X1.all2
        have gx1 : wr.heap.size ≠ g1 := by have := (OV.out.lt g1 rfl).2; omega
        have gx2 : wr.heap.size ≠ g2 := by have := (OB.out.lt g2 rfl).2; omega
        -- its store
        obtain ⟨w2, hw2⟩ : ∃ w2, w2 = putV w1 g1 (c * 2) x := ⟨_, rfl⟩
        have kp2 : Kept (fun k => k = g1) w1 w2 := by rw [hw2]; exact kept_putV _ _ _ _
        have A2 : Hid (Below W0.heap.size W0 w2) := by show Below _ _ _; rw [hw2]; exact below_putV A1.out (by omega) _
        have OV2 : Hid (w2.ownsRow W0.heap.size 53 2 (.slice (some ⟨g1, 0, none⟩) m m) m (((vpR m r c).set c x).flatMap encM)) := by show World.ownsRow _ _ _ _ _ _ _; rw [hw2]; exact own_putV OV1.out hvl x
        have OB2 : Hid (w2.ownsRow W0.heap.size 4 1 (.slice (some ⟨g2, 0, none⟩) m m) m ((sdR m r c).flatMap encT)) := own_else OB1.out OV1.out (by decide) kp2
        have z2 := own_atV OV1.out (show (vpR m r c)[c]? = some (vpR m r c)[c] from List.getElem?_eq_getElem hvl)
        obtain ⟨z3, z4⟩ := z2
        have f3 := frozenK OV1.out (c * 2)
        have f4 := frozenK OV1.out (c * 2 + 1)
        clear k0 k1 k2 f0 f1 f2 y X1
        unfold putV at hw2
        have HW2 : Hid (w2 = (w1.setCell ⟨g1, c * 2, none⟩ (.int .i64 x.1)).setCell ⟨g1, c * 2 + 1, none⟩ (.int .i64 x.2)) := hw2
        clear hw2
        go_upto_region 5 with fail
        rw [← hw1]
        clear hw1
        go_upto_region 6 with fail
        rw [← HW2.out]
        clear HW2 z0 z1 z3 z4 f3 f4 d0 d1
        obtain ⟨Q2, T2, hbw⟩ := HK.out w2 A2.out
        obtain ⟨q0, q1, q2, q3⟩ := Q2.all4
        obtain ⟨⟨c0, c1, c2, c3, c4, c5⟩, _⟩ := T2.all6
        have hu2 : w2.cell? ⟨b2, o2 + c, none⟩ = some (.slice ua l.length uc) := by
          have h9 : b2 < W0.heap.size ∨ ¬ b2 < W0.heap.size := by omega
          rw [kp2.cell (p := ⟨b2, o2 + c, none⟩) (show b2 < w1.heap.size from Nat.lt_of_lt_of_le lt2 ba.size) (show ¬ b2 = g1 from ?_), ba.cell (p := ⟨b2, o2 + c, none⟩) lt2]
          · exact hu
          · intro e
            obtain ⟨bq, oq, cq, eq, ltq, _⟩ := HM.out.at (show 0 < T.mail.length by omega)
            injection eq with eq
            injection eq with eq
            injection eq with eq
            omega
        clear Q2 T2 hbw hu ba kp2
        rcases Bool.eq_false_or_eq_true T.fresh with hfr | hfr
        rotate_left
        · by_cases hll : 0 < l.length
          · have HR : Hid (r (c : Int) = wakeV j (c : Int) s x T.fresh l) := HY1.out (.inr hll)
            have t0 : (0 : Int) < (l.length : Int) := by omega
            have HW2 := HWC.out w2 A2.out
            generalize wakeV j (c : Int) s x T.fresh l = R at *
            obtain ⟨⟨R1, R2⟩, R3⟩ := R
            simp only at HW2
            rw [hfr] at c2 HW2
            clear hfr HWC HWK
            go_wp2_with fail
            refine HW2.mono ?_
            rintro e w3 ⟨rfl, hb3⟩
            have A3 : Hid (Below W0.heap.size W0 w3) := A2.out.trans (hb3.mono A2.out.size)
            have OV3 : Hid (w3.ownsRow W0.heap.size 53 2 (.slice (some ⟨g1, 0, none⟩) m m) m (((vpR m r c).set c x).flatMap encM)) := own_below OV2.out hb3 (Nat.le_refl _)
            have OB3 : Hid (w3.ownsRow W0.heap.size 4 1 (.slice (some ⟨g2, 0, none⟩) m m) m ((sdR m r c).flatMap encT)) := own_below OB2.out hb3 (Nat.le_refl _)
            have hvl3 : c < ((vpR m r c).set c x).length := by rw [List.length_set]; exact hvl
            obtain ⟨z3, z4⟩ := own_atV OV3.out (List.getElem?_eq_getElem hvl3)
            have f3 := frozenK OV3.out (c * 2)
            have f4 := frozenK OV3.out (c * 2 + 1)
            have OV4 : Hid ((putV w3 g1 (c * 2) (R1, R2)).ownsRow W0.heap.size 53 2 (.slice (some ⟨g1, 0, none⟩) m m) m ((vpR m r (c + 1)).flatMap encM)) := by
              show World.ownsRow _ _ _ _ _ _ _
              have := own_putV OV3.out hvl3 (R1, R2)
              rw [List.set_set] at this
              rw [HVN.out, HR.out]; exact this
            have OB4 : Hid ((putV w3 g1 (c * 2) (R1, R2)).ownsRow W0.heap.size 4 1 (.slice (some ⟨g2, 0, none⟩) m m) m ((sdR m r c).flatMap encT)) := own_else OB3.out OV3.out (by decide) (kept_putV _ _ _ _)
            have A4 : Hid (Below W0.heap.size W0 (putV w3 g1 (c * 2) (R1, R2))) := below_putV A3.out (by omega) _
            obtain ⟨y0, hy0⟩ := getX (show c < (sdR m r c).length by rw [sdR_len]; exact hlt)
            have z5 := own_atB OB4.out hy0
            have f5 := frozenK OB4.out c
            have OB5 : Hid (((putV w3 g1 (c * 2) (R1, R2)).setCell ⟨g2, c, none⟩ (.bool R3)).ownsRow W0.heap.size 4 1 (.slice (some ⟨g2, 0, none⟩) m m) m ((sdR m r (c + 1)).flatMap encT)) := by
              show World.ownsRow _ _ _ _ _ _ _
              rw [HBN.out, HR.out]; exact own_setB OB4.out
            have OV5 : Hid (((putV w3 g1 (c * 2) (R1, R2)).setCell ⟨g2, c, none⟩ (.bool R3)).ownsRow W0.heap.size 53 2 (.slice (some ⟨g1, 0, none⟩) m m) m ((vpR m r (c + 1)).flatMap encM)) := own_else OV4.out OB4.out (by decide) (Kept.box _ _ _ _)
            have A5 : Hid (Below W0.heap.size W0 ((putV w3 g1 (c * 2) (R1, R2)).setCell ⟨g2, c, none⟩ (.bool R3))) := A4.out.setCell (p := ⟨g2, c, none⟩) (by show W0.heap.size ≤ g2; omega) _
            unfold putV at z5 f5 OB5 OV5 A5
            clear q0 q1 q2 q3 c0 c1 c2 c3 c4 c5 hb3 hy0 hu2
            go_wp2_with fail
            go_roundw
            case rel => exact ⟨c + 1, by omega, by go_num, OV5.out, OB5.out, A5.out⟩
            case measure => simp [intOf]; omega
          · have HR : Hid (r (c : Int) = (x, false)) := HN1.out hfr hll
            have OVE : Hid (w2.ownsRow W0.heap.size 53 2 (.slice (some ⟨g1, 0, none⟩) m m) m ((vpR m r (c + 1)).flatMap encM)) := by
              show World.ownsRow _ _ _ _ _ _ _
              rw [HVN.out, HR.out]; exact OV2.out
            have OBE : Hid (w2.ownsRow W0.heap.size 4 1 (.slice (some ⟨g2, 0, none⟩) m m) m ((sdR m r (c + 1)).flatMap encT)) := by
              show World.ownsRow _ _ _ _ _ _ _
              rw [HBK.out (by rw [HR.out])]; exact OB2.out
            rw [hfr] at c2
            have t0 : ¬ (0 : Int) < (l.length : Int) := by omega
            clear hfr
            go_wp2_with fail
            go_roundw
            case rel => exact ⟨c + 1, by omega, by go_num, OVE.out, OBE.out, A2.out⟩
            case measure => simp [intOf]; omega
        · have hll := True.intro
          have HR : Hid (r (c : Int) = wakeV j (c : Int) s x T.fresh l) := HY1.out (.inl hfr)
          have t0 : True := hll
          have HW2 := HWC.out w2 A2.out
          generalize wakeV j (c : Int) s x T.fresh l = R at *
          obtain ⟨⟨R1, R2⟩, R3⟩ := R
          simp only at HW2
          rw [hfr] at c2 HW2
          clear hfr HWC HWK
          go_wp2_with fail
          refine HW2.mono ?_
          rintro e w3 ⟨rfl, hb3⟩
          have A3 : Hid (Below W0.heap.size W0 w3) := A2.out.trans (hb3.mono A2.out.size)
          have OV3 : Hid (w3.ownsRow W0.heap.size 53 2 (.slice (some ⟨g1, 0, none⟩) m m) m (((vpR m r c).set c x).flatMap encM)) := own_below OV2.out hb3 (Nat.le_refl _)
          have OB3 : Hid (w3.ownsRow W0.heap.size 4 1 (.slice (some ⟨g2, 0, none⟩) m m) m ((sdR m r c).flatMap encT)) := own_below OB2.out hb3 (Nat.le_refl _)
          have hvl3 : c < ((vpR m r c).set c x).length := by rw [List.length_set]; exact hvl
          obtain ⟨z3, z4⟩ := own_atV OV3.out (List.getElem?_eq_getElem hvl3)
          have f3 := frozenK OV3.out (c * 2)
          have f4 := frozenK OV3.out (c * 2 + 1)
          have OV4 : Hid ((putV w3 g1 (c * 2) (R1, R2)).ownsRow W0.heap.size 53 2 (.slice (some ⟨g1, 0, none⟩) m m) m ((vpR m r (c + 1)).flatMap encM)) := by
            show World.ownsRow _ _ _ _ _ _ _
            have := own_putV OV3.out hvl3 (R1, R2)
            rw [List.set_set] at this
            rw [HVN.out, HR.out]; exact this
          have OB4 : Hid ((putV w3 g1 (c * 2) (R1, R2)).ownsRow W0.heap.size 4 1 (.slice (some ⟨g2, 0, none⟩) m m) m ((sdR m r c).flatMap encT)) := own_else OB3.out OV3.out (by decide) (kept_putV _ _ _ _)
          have A4 : Hid (Below W0.heap.size W0 (putV w3 g1 (c * 2) (R1, R2))) := below_putV A3.out (by omega) _
          obtain ⟨y0, hy0⟩ := getX (show c < (sdR m r c).length by rw [sdR_len]; exact hlt)
          have z5 := own_atB OB4.out hy0
          have f5 := frozenK OB4.out c
          have OB5 : Hid (((putV w3 g1 (c * 2) (R1, R2)).setCell ⟨g2, c, none⟩ (.bool R3)).ownsRow W0.heap.size 4 1 (.slice (some ⟨g2, 0, none⟩) m m) m ((sdR m r (c + 1)).flatMap encT)) := by
            show World.ownsRow _ _ _ _ _ _ _
            rw [HBN.out, HR.out]; exact own_setB OB4.out
          have OV5 : Hid (((putV w3 g1 (c * 2) (R1, R2)).setCell ⟨g2, c, none⟩ (.bool R3)).ownsRow W0.heap.size 53 2 (.slice (some ⟨g1, 0, none⟩) m m) m ((vpR m r (c + 1)).flatMap encM)) := own_else OV4.out OB4.out (by decide) (Kept.box _ _ _ _)
          have A5 : Hid (Below W0.heap.size W0 ((putV w3 g1 (c * 2) (R1, R2)).setCell ⟨g2, c, none⟩ (.bool R3))) := A4.out.setCell (p := ⟨g2, c, none⟩) (by show W0.heap.size ≤ g2; omega) _
          unfold putV at z5 f5 OB5 OV5 A5
          clear q0 q1 q2 q3 c0 c1 c2 c3 c4 c5 hb3 hy0 hu2
          go_wp2_with fail
          go_roundw
          case rel => exact ⟨c + 1, by omega, by go_num, OV5.out, OB5.out, A5.out⟩
          case measure => simp [intOf]; omega
      · have ec : c = m := by omega
        have OVE : Hid (wr.ownsRow w.heap.size 53 2 (.slice (some ⟨g1, 0, none⟩) m m) m ((valsR m r).flatMap encM)) := by
          have := OV.out
          rw [ec, vpR_all] at this
          exact own_lower this (by omega)
        have OBE : Hid (wr.ownsRow w.heap.size 4 1 (.slice (some ⟨g2, 0, none⟩) m m) m ((sdR m r m).flatMap encT)) := by
          have := OB.out
          rw [ec] at this
          exact own_lower this (by omega)
        have BE : Hid (Below w.heap.size w wr) := (HK.out _ AB.out).2.2
        clear ec
        go_wp2_with fail
        exact bodyPost_ret (v := .tuple #[.slice (some ⟨g1, 0, none⟩) m m, .slice (some ⟨g2, 0, none⟩) m m]) (by simp [results, Try.results38, go_sem]) rfl ⟨_, _, rfl, OVE.out, OBE.out, BE.out⟩
end Go.Proofs.Ytinijeejfnehmaa

namespace Go.Proofs.Ytinijeejfnehmaa
set_option maxRecDepth 100000
open Go.ChangeShapes Go.WideShapes Go.ChangeAt Go.RowKit

/-- What an append of one new element comes to, and where the row lies. -/
theorem run_append_newL {α : Type} (K : ElK α) {w : World} (ty : TypeId) (base : Nat) (v : Value) (xs : List α) (hown : w.ownsRow base K.e K.k v xs.length (xs.flatMap K.enc))
    (B : Nat) (x : α) (cs : Array Value) (hcs : cs.toList = K.enc x) (fr : Nat × Nat) (hblk : w.heap[B]? = some (.cells cs K.e fr)) (hlen : (xs.length + 1) * K.bytes ≤ 140737488355328) (hmax : xs.length + 1 ≤ maxLen) (hbase : base ≤ w.heap.size) :
    ∃ g c w', (Builtin.append_ #[K.t, K.t] ty #[v, .slice (some ⟨B, 0, none⟩) 1 1]).run Try.prog w = .ok (.slice (some ⟨g, 0, none⟩) (xs.length + 1) c) w' ∧
      w'.ownsRow base K.e K.k (.slice (some ⟨g, 0, none⟩) (xs.length + 1) c) (xs ++ [x]).length ((xs ++ [x]).flatMap K.enc) ∧ w.grownBy w' v.ownBlock ∧ (v.ownBlock = some g ∨ g = w.heap.size) := by
  obtain ⟨i0, hi, hz0, hz1, hz2⟩ := info_parts K.hi
  obtain ⟨g, c, w', hrun, hown2, hgrow, hl, _⟩ := run_append_lies (P := Try.prog) w K.t ty base K.e i0 K.z K.k K.bytes K.ht hi hz0 hz1 hz2 K.hz K.hk0 v _ _ hown
    ⟨B, 0, none⟩ 1 1 (K.enc x) (by rw [K.hk, Nat.one_mul]) (by rw [← hcs]; exact World.news_of_block hblk) (K.h1 x) (by omega) hmax hlen hbase _ rfl
  refine ⟨g, c, w', hrun, ?_, hgrow, hl⟩
  rw [flat_snoc, List.length_append]
  exact hown2
theorem wpList_append_newL {α : Type} (K : ElK α) {w : World} {ops : Array Oper} {rest : List Oper} {o : Oper} {a : Act} {Q : Exit → Act → World → Prop} (hgd : o.guard = none) (s y : Operand)
    (ho : o.op = .call { callee := .builtin .append, args := #[s, y], argTypes := #[K.t, K.t] })
    (base : Nat) (v : Value) (xs : List α) (hs : a.eval s = v) (hown : w.ownsRow base K.e K.k v xs.length (xs.flatMap K.enc))
    (B : Nat) (x : α) (hy : a.eval y = .slice (some ⟨B, 0, none⟩) 1 1) (cs : Array Value) (hcs : cs.toList = K.enc x) (fr : Nat × Nat) (hblk : w.heap[B]? = some (.cells cs K.e fr)) (hlen : (xs.length + 1) * K.bytes ≤ 140737488355328) (hmax : xs.length + 1 ≤ maxLen) (hbase : base ≤ w.heap.size)
    (h : ∀ g c w', w'.ownsRow base K.e K.k (.slice (some ⟨g, 0, none⟩) (xs.length + 1) c) (xs ++ [x]).length ((xs ++ [x]).flatMap K.enc) → w.grownBy w' v.ownBlock → (v.ownBlock = some g ∨ g = w.heap.size) → wpList Try.prog ops Q rest (a.put o.dst (.slice (some ⟨g, 0, none⟩) (xs.length + 1) c)) w') :
    wpList Try.prog ops Q (o :: rest) a w := by
  obtain ⟨g, c, w', hrun, h1, h2, h3⟩ := run_append_newL K o.type base v xs hown B x cs hcs fr hblk hlen hmax hbase
  refine wpList_plain hgd fun K' hK => ?_
  unfold Oper.wp
  simp [execOp, ho, resolve, invoke, builtin, hs, hy, hrun, Result.andThen]
  exact hK _ _ (h g c w' h1 h2 h3)
end Go.Proofs.Ytinijeejfnehmaa

namespace Go.Proofs.Ytinijeejfnehmaa
set_option maxRecDepth 100000
open Go.ChangeShapes Go.WideShapes Go.ChangeAt Go.RowKit

/-- A table of lists of numbers: each grows by itself. -/
structure TbI (w : World) (base g n : Nat) (vs : List Value) (f : List (List Int)) : Prop where
  row : w.ownsRow base 57 1 (.slice (some ⟨g, 0, none⟩) n n) n vs
  lv : vs.length = n
  lf : f.length = n
  el : ∀ (j : Nat) (u : Value) (l : List Int), vs[j]? = some u → f[j]? = some l → w.ownsRow base 3 1 u l.length (l.flatMap encI)
  ap : ∀ (i j : Nat) (u v : Value), i ≠ j → vs[i]? = some u → vs[j]? = some v → Apt u v
theorem TbI.kept {w w' : World} {base g n : Nat} {vs : List Value} {f : List (List Int)} (h : TbI w base g n vs f) (hk : Kept (fun _ => False) w w') : TbI w' base g n vs f :=
  ⟨hk.own h.row fun _ _ h => h, h.lv, h.lf, fun j u l hu hl => hk.own (h.el j u l hu hl) fun _ _ h => h, h.ap⟩
theorem TbI.own {w : World} {base g n : Nat} {vs : List Value} {f : List (List Int)} (h : TbI w base g n vs f) : OwnLi w base (.slice (some ⟨g, 0, none⟩) n n) f :=
  ⟨vs, by rw [h.lv, h.lf], by rw [h.lf]; exact h.row, h.el⟩
theorem TbI.cell {w : World} {base g n j : Nat} {vs : List Value} {f : List (List Int)} {u : Value} (h : TbI w base g n vs f) (hu : vs[j]? = some u) : w.cell? ⟨g, j, none⟩ = some u := by
  have := h.row.cells rfl j u hu
  rwa [addr_add] at this
/-- One of the lists has grown. -/
theorem TbI.put {w w' : World} {base g n j g' m c : Nat} {vs : List Value} {f : List (List Int)} {u : Value} {l : List Int} {x : Int} (h : TbI w base g n vs f) (hu : vs[j]? = some u) (hl : f[j]? = some l)
    (hg : w.grownBy w' u.ownBlock) (ho : w'.ownsRow base 3 1 (.slice (some ⟨g', 0, none⟩) m c) (l ++ [x]).length ((l ++ [x]).flatMap encI)) (hli : u.ownBlock = some g' ∨ g' = w.heap.size) :
    TbI (w'.setCell ⟨g, j, none⟩ (.slice (some ⟨g', 0, none⟩) m c)) base g n (vs.set j (.slice (some ⟨g', 0, none⟩) m c)) (f.set j (l ++ [x])) ∧ w'.cell? ⟨g, j, none⟩ = some u ∧ w'.frozen? ⟨g, j, none⟩ = false := by
  have hel := h.el j u l hu hl
  have hrow : w'.ownsRow base 57 1 (.slice (some ⟨g, 0, none⟩) n n) n vs := h.row.kept hg (own_apart h.row hel (by decide))
  have hgb : ∃ cur, w'.heap[g]? = some (.cells cur 57 (0, 0)) := by
    rcases hrow.2 with ⟨hv, _⟩ | ⟨g2, c2, cur, hv, _, hgg, _⟩
    · cases hv
    · injection hv with hv
      injection hv with hv
      injection hv with hv
      subst hv
      exact ⟨cur, hgg⟩
  obtain ⟨cur, hgb⟩ := hgb
  have hjn : j < vs.length := (List.getElem?_eq_some_iff.1 hu).1
  refine ⟨⟨own_setRow hrow, by rw [List.length_set]; exact h.lv, by rw [List.length_set]; exact h.lf, ?_, ?_⟩, ?_, frozenK hrow j⟩
  · intro i v k hv hk
    have kb := Kept.box w' g j (.slice (some ⟨g', 0, none⟩) m c)
    by_cases hij : j = i
    · subst hij
      rw [List.getElem?_set_self hjn] at hv
      rw [List.getElem?_set_self (by rw [h.lf, ← h.lv]; exact hjn)] at hk
      injection hv with hv
      injection hk with hk
      subst hv hk
      exact kb.own ho fun q hq => own_block ho hq hgb (by decide)
    · rw [List.getElem?_set_ne hij] at hv hk
      have h1 := h.el i v k hv hk
      have h2 := h1.kept hg (h.ap i j v u (fun e => hij e.symm) hv hu).or
      exact kb.own h2 fun q hq => own_block h2 hq hgb (by decide)
  · intro i k a b hik ha hb
    by_cases h1 : j = i
    · subst h1
      rw [List.getElem?_set_self hjn] at ha
      injection ha with ha
      subst ha
      rw [List.getElem?_set_ne hik] at hb
      have hkf : k < f.length := by rw [h.lf, ← h.lv]; exact (List.getElem?_eq_some_iff.1 hb).1
      exact (h.ap j k u b hik hu hb).grown hli (h.el k b f[k] hb (List.getElem?_eq_getElem hkf))
    · rw [List.getElem?_set_ne h1] at ha
      by_cases h2 : j = k
      · subst h2
        rw [List.getElem?_set_self hjn] at hb
        injection hb with hb
        subst hb
        have hif : i < f.length := by rw [h.lf, ← h.lv]; exact (List.getElem?_eq_some_iff.1 ha).1
        exact ((h.ap j i u a (fun e => hik e.symm) hu ha).grown hli (h.el i a f[i] ha (List.getElem?_eq_getElem hif))).symm
      · rw [List.getElem?_set_ne h2] at hb
        exact h.ap i k a b hik ha hb
  · have := hrow.cells rfl j u hu
    rwa [addr_add] at this
theorem made_nilI (m : Nat) : (madeCells (Value.slice none 0 0).cells (m * 1)).toList = List.replicate m (.slice none 0 0) := by
  simp [madeCells, Value.cells]
  refine List.ext_getElem? fun v => ?_
  rcases Nat.lt_or_ge v m with hv | hv
  · rw [List.getElem?_map, List.getElem?_range hv, List.getElem?_replicate, if_pos hv]
    simp [Nat.mod_one]
  · rw [List.getElem?_eq_none (by simpa using hv), List.getElem?_eq_none (by simpa using hv)]
/-- make([][]int, m). -/
theorem make_tbi (w : World) (m : Nat) (hm : m ≤ 1000000) :
    ∃ w', (Instr.makeSlice 40 (.int .i64 (m : Int)) (.int .i64 (m : Int))).run Try.prog w = .ok (.slice (some ⟨w.heap.size, 0, none⟩) m m) w' ∧ TbI w' w.heap.size w.heap.size m (List.replicate m (.slice none 0 0)) (List.replicate m []) ∧ Below w.heap.size w w' := by
  obtain ⟨i0, hi, hz0, hz1, hz2⟩ := info_parts Try.infoLi
  obtain ⟨w', h1, h2, h3⟩ := run_makeSlice_full (P := Try.prog) w w.heap.size 40 57 i0 (.slice none 0 0) 1 Try.underlying40 hi hz0 hz1 .i64 .i64 m (by omega) (by rw [hz2]; omega) (by unfold maxLen; omega) (Nat.le_refl _)
  rw [made_nilI] at h2
  refine ⟨w', h1, ⟨h2, by simp, by simp, fun j u l hu hl => ?_, fun i j u v _ hu _ => ?_⟩, (Below.refl _ _).grown h3 (Nat.le_refl _) (fun k hk => by cases hk)⟩
  · rw [List.getElem?_replicate] at hu hl
    split at hu
    · injection hu with hu
      rw [if_pos (by assumption)] at hl
      injection hl with hl
      subst hu hl
      exact World.ownsRow_nil _ _ _ _
    · cases hu
  · rw [List.getElem?_replicate] at hu
    split at hu
    · injection hu with hu
      subst hu
      exact Apt.nil _
    · cases hu

theorem TbI.lower {w : World} {base b g n : Nat} {vs : List Value} {f : List (List Int)} (h : TbI w base g n vs f) (hb : b ≤ base) : TbI w b g n vs f :=
  ⟨own_lower h.row hb, h.lv, h.lf, fun j u l hu hl => own_lower (h.el j u l hu hl) hb, h.ap⟩
/-- Blocks of other types are written. -/
theorem TbI.off {S : Nat → Prop} {w w' : World} {base g n : Nat} {vs : List Value} {f : List (List Int)} (h : TbI w base g n vs f) (hk : Kept S w w') (hs : ∀ k, S k → ∃ cs t fr, w.heap[k]? = some (.cells cs t fr) ∧ 57 ≠ t ∧ 3 ≠ t) : TbI w' base g n vs f :=
  ⟨hk.own h.row fun q hq hS => by obtain ⟨cs, t, fr, h1, h2, h3⟩ := hs q hS; exact own_block h.row hq h1 h2 rfl, h.lv, h.lf, fun j u l hu hl => hk.own (h.el j u l hu hl) fun q hq hS => by obtain ⟨cs, t, fr, h1, h2, h3⟩ := hs q hS; exact own_block (h.el j u l hu hl) hq h1 h3 rfl, h.ap⟩
/-- One of the lists is written anew, in its place. -/
theorem TbI.turn {w w' : World} {base g n j : Nat} {vs : List Value} {f : List (List Int)} {u : Value} {l l' : List Int} (h : TbI w base g n vs f) (hu : vs[j]? = some u) (hl : f[j]? = some l)
    (hk : Kept (fun q => u.ownBlock = some q) w w') (ho : w'.ownsRow base 3 1 u l'.length (l'.flatMap encI)) : TbI w' base g n vs (f.set j l') := by
  have hel := h.el j u l hu hl
  refine ⟨hk.own h.row fun q hq hs => ?_, h.lv, by rw [List.length_set]; exact h.lf, ?_, h.ap⟩
  · rcases own_apart h.row hel (by decide) with e | e
    · rw [e] at hq; cases hq
    · exact e (hq.trans hs.symm)
  · intro i v k hv hk2
    by_cases hij : j = i
    · subst hij
      rw [List.getElem?_set_self (List.getElem?_eq_some_iff.1 hl).1] at hk2
      rw [hu] at hv
      injection hv with hv
      injection hk2 with hk2
      subst hv hk2
      exact ho
    · rw [List.getElem?_set_ne hij] at hk2
      exact hk.own (h.el i v k hv hk2) fun q hq hs => h.ap i j v u (fun e => hij e.symm) hv hu q hq hs
end Go.Proofs.Ytinijeejfnehmaa

namespace Go.Proofs.Ytinijeejfnehmaa
set_option maxRecDepth 100000
open Go.ChangeShapes Go.WideShapes Go.ChangeAt Go.RowKit

theorem own_setN {w : World} {base g n cap j : Nat} {xs : List Int} {x : Int} (h : w.ownsRow base 3 1 (.slice (some ⟨g, 0, none⟩) n cap) n (xs.flatMap encI)) : (w.setCell ⟨g, j, none⟩ (.int .i64 x)).ownsRow base 3 1 (.slice (some ⟨g, 0, none⟩) n cap) n ((xs.set j x).flatMap encI) := by
  have := own_setRow (j := j) (x := .int .i64 x) h
  rw [flatI] at this ⊢
  rwa [List.map_set]
theorem own_atN {w : World} {base g n cap : Nat} {xs : List Int} (h : w.ownsRow base 3 1 (.slice (some ⟨g, 0, none⟩) n cap) n (xs.flatMap encI)) {i : Nat} {x : Int} (hx : xs[i]? = some x) : w.cell? ⟨g, i, none⟩ = some (.int .i64 x) := by
  have := h.cells rfl i (.int .i64 x) (by rw [flatI, List.getElem?_map, hx]; rfl)
  rwa [addr_add] at this
end Go.Proofs.Ytinijeejfnehmaa

namespace Go.Proofs.Ytinijeejfnehmaa
open Go.Shelf
def Try.lays189_ren : Go.Shelf.Ren := ⟨fun | 189 => 50 | 125 => 60 | 257 => 59 | 128 => 74 | 129 => 75 | 294 => 66 | 295 => 67 | 296 => 68 | 297 => 69 | 298 => 70 | 299 => 71 | 216 => 55 | 300 => 72 | 301 => 73 | 328 => 76 | 329 => 77 | 330 => 78 | 331 => 79 | 332 => 80 | 215 => 63 | 343 => 81 | n => n, fun | 28 => 57 | 3 => 3 | 46 => 102 | 0 => 0 | 51 => 118 | 53 => 120 | 4 => 4 | 183 => 111 | 182 => 110 | 131 => 115 | 5 => 5 | 9 => 9 | 218 => 121 | 222 => 125 | 228 => 127 | 229 => 128 | n => n, fun | n => n⟩
theorem Try.lays189 : Go.Proofs.Lays.n189 Try.prog Try.lays189_ren := {
  mixed := by kernel_rfl
  f125 := Try.func60.trans (congrArg some (by kernel_rfl))
  f128 := Try.func74.trans (congrArg some (by kernel_rfl))
  f129 := Try.func75.trans (congrArg some (by kernel_rfl))
  f189 := Try.func50.trans (congrArg some (by kernel_rfl))
  f215 := Try.func63.trans (congrArg some (by kernel_rfl))
  f216 := Try.func55.trans (congrArg some (by kernel_rfl))
  f257 := Try.func59.trans (congrArg some (by kernel_rfl))
  f294 := Try.func66.trans (congrArg some (by kernel_rfl))
  f295 := Try.func67.trans (congrArg some (by kernel_rfl))
  f296 := Try.func68.trans (congrArg some (by kernel_rfl))
  f297 := Try.func69.trans (congrArg some (by kernel_rfl))
  f298 := Try.func70.trans (congrArg some (by kernel_rfl))
  f299 := Try.func71.trans (congrArg some (by kernel_rfl))
  f300 := Try.func72.trans (congrArg some (by kernel_rfl))
  f301 := Try.func73.trans (congrArg some (by kernel_rfl))
  f328 := Try.func76.trans (congrArg some (by kernel_rfl))
  f329 := Try.func77.trans (congrArg some (by kernel_rfl))
  f330 := Try.func78.trans (congrArg some (by kernel_rfl))
  f331 := Try.func79.trans (congrArg some (by kernel_rfl))
  f332 := Try.func80.trans (congrArg some (by kernel_rfl))
  f343 := Try.func81.trans (congrArg some (by kernel_rfl))
  t0 := Try.underlying0
  a0 := Try.isAgg0
  z0 := Try.sizeOf0
  v0 := Try.zeroValue0
  t3 := Try.underlying3
  a3 := Try.isAgg3
  z3 := Try.sizeOf3
  v3 := Try.zeroValue3
  t4 := Try.underlying4
  a4 := Try.isAgg4
  z4 := Try.sizeOf4
  v4 := Try.zeroValue4
  t5 := Try.underlying5
  a5 := Try.isAgg5
  z5 := Try.sizeOf5
  v5 := Try.zeroValue5
  t9 := Try.underlying9
  a9 := Try.isAgg9
  z9 := Try.sizeOf9
  v9 := Try.zeroValue9
  t28 := Try.underlying57
  a28 := Try.isAgg57
  z28 := Try.sizeOf57
  v28 := Try.zeroValue57
  t46 := Try.underlying102
  a46 := Try.isAgg102
  z46 := Try.sizeOf102
  v46 := Try.zeroValue102
  t51 := Try.underlying118
  a51 := Try.isAgg118
  z51 := Try.sizeOf118
  v51 := Try.zeroValue118
  t53 := Try.underlying120
  a53 := Try.isAgg120
  z53 := Try.sizeOf120
  v53 := Try.zeroValue120
  t131 := Try.underlying115
  a131 := Try.isAgg115
  z131 := Try.sizeOf115
  v131 := Try.zeroValue115
  t182 := Try.underlying110
  a182 := Try.isAgg110
  z182 := Try.sizeOf110
  v182 := Try.zeroValue110
  t183 := Try.underlying111
  a183 := Try.isAgg111
  z183 := Try.sizeOf111
  v183 := Try.zeroValue111
  t218 := Try.underlying121
  a218 := Try.isAgg121
  z218 := Try.sizeOf121
  v218 := Try.zeroValue121
  t222 := Try.underlying125
  a222 := Try.isAgg125
  z222 := Try.sizeOf125
  v222 := Try.zeroValue125
  t228 := Try.underlying127
  a228 := Try.isAgg127
  z228 := Try.sizeOf127
  v228 := Try.zeroValue127
  t229 := Try.underlying128
  a229 := Try.isAgg128
  z229 := Try.sizeOf128
  v229 := Try.zeroValue128 }
open Go.Sort Go.RowKit in
theorem Try.slices_Sort_int (blk off cap : Nat) (zs : List Int) (w : World) (hH : Holds (Value.int .i64) w blk off zs.toArray) (hblk : blk < w.heap.size) (hsz : zs.length < 4611686018427387904) :
    Calls Try.prog 50 #[.slice (some ⟨blk, off, none⟩) zs.length cap] w fun e w' =>
      e = .returned (.tuple #[]) ∧ ∃ n os, w' = grow (putRow (Value.int .i64) (Sort.ahead w n) blk off (zs.mergeSort fun x y => decide (x ≤ y)).toArray) os := Any.slices_Sort_int Try.lays189 blk off cap zs w hH hblk hsz
open Go.RowKit Go.Sort in
theorem Try.slices_Sort_int_none (p : Option Addr) (cap : Nat) (w : World) :
    Calls Try.prog 50 #[.slice p 0 cap] w fun e w' => e = .returned (.tuple #[]) ∧ w' = w := Any.slices_Sort_int_none Try.lays189 p cap w
end Go.Proofs.Ytinijeejfnehmaa

namespace Go.Proofs.Ytinijeejfnehmaa
set_option maxRecDepth 100000
open Go.ChangeShapes Go.WideShapes Go.ChangeAt Go.RowKit Go.Sort

theorem sortI_any (base : Nat) (v : Value) (l : List Int) (w : World) (h : w.ownsRow base 3 1 v l.length (l.flatMap encI)) (hl : l.length < 4611686018427387904) :
    Calls Try.prog 50 #[v] w fun e w' => e = .returned (.tuple #[]) ∧ w'.ownsRow base 3 1 v (sortN l).length ((sortN l).flatMap encI) ∧ Kept (fun q => v.ownBlock = some q) w w' := by
  rcases h.2 with ⟨rfl, h0⟩ | ⟨g, cap, cur, rfl, hg, hgg, hc, hm, hcur, htk⟩
  · have : l = [] := List.eq_nil_of_length_eq_zero h0
    subst this
    have e0 : sortN [] = [] := List.eq_nil_of_length_eq_zero (by rw [sortN_len]; rfl)
    refine (Try.slices_Sort_int_none none 0 w).mono ?_
    rintro e w' ⟨rfl, rfl⟩
    exact ⟨rfl, by rw [e0]; exact h, Kept.refl _ _⟩
  · have lt : g < w.heap.size := (Array.getElem?_eq_some_iff.1 hgg).1
    have hH : Holds (Value.int .i64) w g 0 l.toArray := fun j hj => by
      have hj' : j < l.length := by simpa using hj
      refine ⟨?_, ?_⟩
      · have := own_atN h (List.getElem?_eq_getElem hj')
        rw [Nat.zero_add, this, getElem!_pos _ _ (by simpa using hj')]
        simp
      · exact box_frozen hgg _
    refine (Try.slices_Sort_int g 0 cap l w hH lt hl).mono ?_
    rintro e w' ⟨rfl, n, os, rfl⟩
    have hsl : (sortN l).length = l.length := sortN_len l
    have hblk : (grow (putRow (Value.int .i64) (Sort.ahead w n) g 0 (l.mergeSort fun x y => decide (x ≤ y)).toArray) os).heap[g]? = some (.cells (putCells (Value.int .i64) 0 (sortN l).toArray cur) 3 (0, 0)) := by
      simp only [grow, putRow, mapBlock, Sort.ahead]
      rw [Array.getElem?_append_left (by simpa using lt), Array.getElem?_modify, if_pos rfl, hgg]
      rfl
    refine ⟨rfl, ⟨flat_len encI_len _, .inr ⟨g, cap, _, by rw [hsl], hg, hblk, by rw [hsl]; exact hc, hm, by simp [putCells, hcur], ?_⟩⟩, ?_⟩
    · rw [flatI]
      refine List.ext_getElem? fun t => ?_
      rcases Nat.lt_or_ge t (sortN l).length with ht | ht
      · rw [List.getElem?_take_of_lt (by omega), Array.getElem?_toList, List.getElem?_map, List.getElem?_eq_getElem ht]
        simp only [putCells, Array.getElem?_mapIdx]
        have hc2 : t < cur.size := by rw [hcur]; omega
        rw [Array.getElem?_eq_getElem hc2, Option.map_some, if_pos ⟨by omega, by simpa using ht⟩, Nat.sub_zero, getElem!_pos _ _ (by simpa using ht)]
        simp
      · rw [List.getElem?_eq_none (by rw [List.length_take]; omega), List.getElem?_eq_none (by simpa using ht)]
    · refine ⟨rfl, rfl, rfl, by simp [grow, putRow, mapBlock, Sort.ahead], fun k hk hne => ?_⟩
      have hkg : g ≠ k := fun e => hne (by rw [← e]; rfl)
      simp only [grow, putRow, mapBlock, Sort.ahead]
      rw [Array.getElem?_append_left (by simpa using hk), Array.getElem?_modify, if_neg hkg]
end Go.Proofs.Ytinijeejfnehmaa

namespace Go.Proofs.Ytinijeejfnehmaa
set_option maxRecDepth 100000
open Go.ChangeShapes Go.WideShapes Go.ChangeAt Go.RowKit
attribute [local go_sem ↓] exec_append

/-- What sent answers. -/
def SntP (w : World) (m : Nat) (j : Jb) (r : Int → Ml × Bool) (es : List Ed) (e : Ending) (w' : World) : Prop :=
  ((overR j r es = true ∧ e = .returned (.tuple #[.slice none 0 0, .int .i64 6])) ∨ (overR j r es = false ∧ ∃ vm, e = .returned (.tuple #[vm, .int .i64 0]) ∧ OwnLi w' w.heap.size vm (mailR m j r es))) ∧ Below w.heap.size w w'

theorem idx_zero (b c : Bool) (x y z u : Int) (X : World) : (Instr.index 92 (.agg #[.bool b, .int .i64 x, .int .i64 y, .bool c, .int .i64 z, .int .i64 u]) (.int .i64 0)).run Try.prog X = .ok (.agg #[.bool b, .int .i64 x, .int .i64 y]) X := by
  simp [Instr.index, run_underlying Try.underlying92, go_sem]
theorem idx_one (b c : Bool) (x y z u : Int) (X : World) : (Instr.index 92 (.agg #[.bool b, .int .i64 x, .int .i64 y, .bool c, .int .i64 z, .int .i64 u]) (.int .i64 1)).run Try.prog X = .ok (.agg #[.bool c, .int .i64 z, .int .i64 u]) X := by
  simp [Instr.index, run_underlying Try.underlying92, go_sem]

set_option maxHeartbeats 8000000 in
set_option maxRecDepth 100000 in
theorem sent_any (v : Value) (es : List Ed) (m : Nat) (k s ph : Int) (j : Jb) (r : Int → Ml × Bool) (vv vb : Value) (w : World) (h : EdR w v es) (hg : InG m es) (hwt : ∀ e ∈ es, 0 ≤ e.2.2 ∧ e.2.2 ≤ 1099511627776) (hk : k = Jb.k j) (hp : ph = Jb.p j) (hle : es.length ≤ 600) (hn : m ≤ 200)
    (hr : ∀ u : Int, 0 ≤ u ∧ u < (m : Int) → valB j (r u).1 = true ∧ ((r u).2 = true → 0 ≤ (r u).1.1)) (hv : MlR w vv (valsR m r)) (hb : BlR w vb (sdR m r m)) :
    Calls Try.prog 39 #[.agg #[.int .i64 (m : Int), v, .int .i64 k, .int .i64 s], .int .i64 ph, vv, vb] w (SntP w m j r es) := by
  have HR : Hid (EdR w v es) := h
  obtain ⟨ea, ec, rfl, _, hec, _, _⟩ := h
  unfold maxLen at hec
  have HPN : Hid (∀ w', overR j r es = true → Below w.heap.size w w' → SntP w m j r es (.returned (.tuple #[.slice none 0 0, .int .i64 6])) w') := fun w' h1 h2 => ⟨.inl ⟨h1, rfl⟩, h2⟩
  have HPY : Hid (∀ w' vm, overR j r es = false → OwnLi w' w.heap.size vm (mailR m j r es) → Below w.heap.size w w' → SntP w m j r es (.returned (.tuple #[vm, .int .i64 0])) w') := fun w' vm h1 h2 h3 => ⟨.inr ⟨h1, vm, rfl, h2⟩, h3⟩
  generalize SntP w m j r es = P at *
  have HG0 : Hid (InG m es) := hg
  have HWT : Hid (∀ e ∈ es, 0 ≤ e.2.2 ∧ e.2.2 ≤ 1099511627776) := hwt
  have HRR : Hid (∀ u : Int, 0 ≤ u ∧ u < (m : Int) → valB j (r u).1 = true ∧ ((r u).2 = true → 0 ≤ (r u).1.1)) := hr
  have HKJ : Hid (k = Jb.k j) := hk
  have HPJ : Hid (ph = Jb.p j) := hp
  have HLE : Hid (es.length ≤ 600) := hle
  have HV : Hid (MlR w vv (valsR m r)) := hv
  have HB : Hid (BlR w vb (sdR m r m)) := hb
  obtain ⟨va, cv, rfl, _, hcv, _, _⟩ := hv
  obtain ⟨ba, cb, rfl, _, hcb, _, _⟩ := hb
  rw [valsR_len] at HV ⊢
  rw [sdR_len] at HB ⊢
  have CW : Hid (∀ X, Calls Try.prog 20 #[.int .i64 k, .int .i64 ph] X fun e w' => e = .returned (.tuple #[.bool (wayJ j).1, .bool (wayJ j).2, .int .i64 0]) ∧ Below X.heap.size X w') := fun X => by rw [HKJ.out, HPJ.out]; exact waysP_any j X
  obtain ⟨wo, hwo⟩ : ∃ b, (wayJ j).1 = b := ⟨_, rfl⟩
  obtain ⟨wi, hwi⟩ : ∃ b, (wayJ j).2 = b := ⟨_, rfl⟩
  have HWO : Hid ((wayJ j).1 = wo) := hwo
  have HWI : Hid ((wayJ j).2 = wi) := hwi
  rw [hwo, hwi] at CW
  clear hwo hwi hg hwt hr hk hp
  obtain ⟨W0, hW0⟩ : ∃ W0, W0 = w.alloc (.cells #[.int .i64 (m : Int), .slice ea es.length ec, .int .i64 k, .int .i64 s] 26) := ⟨_, rfl⟩
  have Q0 : BX 26 W0 w.heap.size #[.int .i64 (m : Int), .slice ea es.length ec, .int .i64 k, .int .i64 s] := by rw [hW0]; exact BX.new _ _ _
  have BH : Hid (Below w.heap.size w W0) := by show Below _ _ _; rw [hW0]; exact below_alloc _ _
  have s1 : w.heap.size + 1 ≤ W0.heap.size := by rw [hW0]; simp
  have HK : Hid (∀ X, Below W0.heap.size W0 X → BX 26 X w.heap.size #[.int .i64 (m : Int), .slice ea es.length ec, .int .i64 k, .int .i64 s] ∧ Below w.heap.size w X) := fun X hX => ⟨Q0.below hX (by omega), BH.out.trans (hX.mono (by omega))⟩
  obtain ⟨q0, q1, q2, q3⟩ := Q0.all4
  clear Q0
  go_enter Try.func39, Try.ntmps39
  go_upto_region 1 with fail
  rw [← hW0]
  clear hW0
  go_wp2_with fail
  refine (CW.out _).mono ?_
  rintro e w1 ⟨rfl, hb1⟩
  have A1 : Hid (Below W0.heap.size W0 w1) := hb1
  obtain ⟨Q1, _⟩ := HK.out _ hb1
  clear q0 q1 q2 q3 CW hb1
  obtain ⟨q0, q1, q2, q3⟩ := Q1.all4
  obtain ⟨w2, hmk, htb, hb2⟩ := make_tbi w1 m (by omega)
  have A2 : Hid (Below W0.heap.size W0 w2) := A1.out.trans (hb2.mono A1.out.size)
  have TB : Hid (TbI w2 W0.heap.size w1.heap.size m (List.replicate m (.slice none 0 0)) (tabF m (t0F j r (es.take 0)))) := by
    show TbI _ _ _ _ _ _
    rw [List.take_zero, t0_nil]; exact htb.lower A1.out.size
  obtain ⟨Q2, _⟩ := HK.out _ A2.out
  obtain ⟨p0, p1, p2, p3⟩ := Q2.all4
  clear Q1 Q2 htb hb2
  generalize hg0 : w1.heap.size = g at *
  clear hg0
  go_wp2_with fail
  clear q0 q1 q2 q3 p0 p1 p2 p3 hmk
  go_loopw [42] (fun t wr => ∃ (i : Nat) (vs : List Value), i ≤ es.length ∧ t = .int .i64 i ∧ overR j r (es.take i) = false ∧ TbI wr W0.heap.size g m vs (tabF m (t0F j r (es.take i))) ∧ Below W0.heap.size W0 wr) (fun t _ => es.length - (intOf t).toNat)
  case atStart => exact ⟨0, _, by omega, rfl, rfl, TB.out, A2.out⟩
  case round =>
    obtain ⟨i, vs, hi, rfl, hov, htb, hbel⟩ := hrel
    have TR : Hid (TbI wr W0.heap.size g m vs (tabF m (t0F j r (es.take i)))) := htb
    have AB : Hid (Below W0.heap.size W0 wr) := hbel
    have HOV : Hid (overR j r (es.take i) = false) := hov
    have hsr := hbel.size
    clear htb hbel hov TB A2 A1
    by_cases hlt : i < es.length
    · obtain ⟨b1, o1, cap1, e1, _, _, lt1, hv1⟩ := EdR.at (HR.out.below (HK.out _ AB.out).2 (Nat.le_refl _)) (by omega)
      injection e1 with e1 _ e3
      subst e1 e3
      obtain ⟨x, hx⟩ := getE hlt
      obtain ⟨d1, d2, d3⟩ := hv1 i x hx
      have hin := HG0.out x (List.mem_of_getElem? hx)
      have hw3 := HWT.out x (List.mem_of_getElem? hx)
      obtain ⟨x1, x2, x3⟩ := x
      obtain ⟨x1, rfl⟩ : ∃ n : Nat, x1 = n := ⟨x1.toNat, by simp only at hin; omega⟩
      obtain ⟨x2, rfl⟩ : ∃ n : Nat, x2 = n := ⟨x2.toNat, by simp only at hin; omega⟩
      simp only at hin hw3 d1 d2 d3
      have HX : Hid (es[i]? = some ((x1 : Int), (x2 : Int), x3)) := hx
      have HW3 : Hid (0 ≤ x3 ∧ x3 ≤ 1099511627776) := hw3
      have hm0 : 0 < m := by omega
      have p0 : (0 : Int) ≤ (i : Int) := by omega
      have p1 : (i : Int) < (es.length : Int) := by omega
      obtain ⟨bv, ov, cv', e5, ltv, hvv⟩ := MlR.read HV.out (by rw [valsR_len]; omega)
      rw [valsR_len] at e5
      injection e5 with e5 _ e6
      subst e5 e6
      obtain ⟨bb, ob, cb', e7, _, _, ltb, hvb⟩ := BlR.at HB.out (by rw [sdR_len]; omega)
      rw [sdR_len] at e7
      injection e7 with e7 _ e8
      subst e7 e8
      have RV : Hid (∀ X (f : Nat), Below W0.heap.size W0 X → f < m → X.cell? ⟨bb, ob + f, none⟩ = some (.bool (r (f : Int)).2) ∧ X.cell? ⟨bv, ov + f * 2, none⟩ = some (.int .i64 (r (f : Int)).1.1) ∧ X.cell? ⟨bv, ov + f * 2 + 1, none⟩ = some (.int .i64 (r (f : Int)).1.2)) := fun X f hX hf => by
        have hbw := (HK.out _ hX).2
        obtain ⟨y0, y1⟩ := hvv f _ (valsR_at (r := r) hf)
        have yb := hvb f _ (sdR_at (i := m) (r := r) hf)
        rw [show (decide (f < m) && (r (f : Int)).2) = (r (f : Int)).2 from by rw [decide_eq_true hf]; rfl] at yb
        exact ⟨(hbw.cell (p := ⟨bb, ob + f, none⟩) ltb).trans yb, (hbw.cell (p := ⟨bv, ov + f * 2, none⟩) ltv).trans y0, (hbw.cell (p := ⟨bv, ov + f * 2 + 1, none⟩) ltv).trans y1⟩
      have W1 : Hid (TbI ((wr.alloc (.cells #[.int .i64 (x1 : Int), .int .i64 (x2 : Int), .int .i64 x3] 61)).alloc (.cells #[.bool wo, .int .i64 (x1 : Int), .int .i64 (x2 : Int), .bool wi, .int .i64 (x2 : Int), .int .i64 (x1 : Int)] 92)) W0.heap.size g m vs (tabF m (t0F j r (es.take i))) ∧ Below W0.heap.size W0 ((wr.alloc (.cells #[.int .i64 (x1 : Int), .int .i64 (x2 : Int), .int .i64 x3] 61)).alloc (.cells #[.bool wo, .int .i64 (x1 : Int), .int .i64 (x2 : Int), .bool wi, .int .i64 (x2 : Int), .int .i64 (x1 : Int)] 92)) ∧ BX 61 ((wr.alloc (.cells #[.int .i64 (x1 : Int), .int .i64 (x2 : Int), .int .i64 x3] 61)).alloc (.cells #[.bool wo, .int .i64 (x1 : Int), .int .i64 (x2 : Int), .bool wi, .int .i64 (x2 : Int), .int .i64 (x1 : Int)] 92)) wr.heap.size #[.int .i64 (x1 : Int), .int .i64 (x2 : Int), .int .i64 x3] ∧ BX 92 ((wr.alloc (.cells #[.int .i64 (x1 : Int), .int .i64 (x2 : Int), .int .i64 x3] 61)).alloc (.cells #[.bool wo, .int .i64 (x1 : Int), .int .i64 (x2 : Int), .bool wi, .int .i64 (x2 : Int), .int .i64 (x1 : Int)] 92)) (wr.heap.size + 1) #[.bool wo, .int .i64 (x1 : Int), .int .i64 (x2 : Int), .bool wi, .int .i64 (x2 : Int), .int .i64 (x1 : Int)]) := by
        refine ⟨TR.out.kept (((Kept.refl _ _).alloc _).alloc _), (AB.out.alloc hsr _).alloc (by simp; omega) _, (BX.new _ _ _).below (below_alloc _ _) (by simp), ?_⟩
        have := BX.new 92 (wr.alloc (.cells #[.int .i64 (x1 : Int), .int .i64 (x2 : Int), .int .i64 x3] 61)) #[.bool wo, .int .i64 (x1 : Int), .int .i64 (x2 : Int), .bool wi, .int .i64 (x2 : Int), .int .i64 (x1 : Int)]
        simpa using this
      clear hv1 hx hw3 hvv hvb
      go_upto_region 9 with fail
      generalize (wr.alloc (.cells #[.int .i64 (x1 : Int), .int .i64 (x2 : Int), .int .i64 x3] 61)).alloc (.cells #[.bool wo, .int .i64 (x1 : Int), .int .i64 (x2 : Int), .bool wi, .int .i64 (x2 : Int), .int .i64 (x1 : Int)] 92) = w3 at *
      generalize wr.heap.size = bx at *
      obtain ⟨TR3, AB3, EB3, ZB3⟩ := W1.out
      have T3 : Hid (TbI w3 W0.heap.size g m vs (tabF m (t0F j r (es.take i)))) := TR3
      have A3 : Hid (Below W0.heap.size W0 w3) := AB3
      have E3 : Hid (BX 61 w3 bx #[.int .i64 (x1 : Int), .int .i64 (x2 : Int), .int .i64 x3]) := EB3
      obtain ⟨⟨z0, z1, z2, z3, z4, z5⟩, _⟩ := ZB3.all6
      clear W1 TR3 AB3 EB3 ZB3 TR AB d1 d2 d3
      clear wr
      go_wp2_with fail
      clear z0 z1 z2 z3 z4 z5
      have ix0 : ∀ X, _ := idx_zero wo wi (x1 : Int) (x2 : Int) (x2 : Int) (x1 : Int)
      have ix1 : ∀ X, _ := idx_one wo wi (x1 : Int) (x2 : Int) (x2 : Int) (x1 : Int)
      go_loopw [60] (fun t wr => (Below W0.heap.size W0 wr ∧ BX 61 wr bx #[.int .i64 (x1 : Int), .int .i64 (x2 : Int), .int .i64 x3]) ∧ ((t = .int .i64 0 ∧ ∃ vs, TbI wr W0.heap.size g m vs (tabF m (t0F j r (es.take i)))) ∨ (t = .int .i64 1 ∧ overR j r (es.take (i + 1)) = false ∧ ∃ vs, TbI wr W0.heap.size g m vs (tabF m (t1F j r (es.take i) ((x1 : Int), (x2 : Int), x3)))) ∨ (t = .int .i64 2 ∧ overR j r (es.take (i + 1)) = false ∧ ∃ vs, TbI wr W0.heap.size g m vs (tabF m (t0F j r (es.take (i + 1))))))) (fun t _ => 2 - (intOf t).toNat)
      case atStart => exact ⟨⟨A3.out, E3.out⟩, .inl ⟨rfl, vs, T3.out⟩⟩
      case round =>
        clear T3 A3 E3
        obtain ⟨⟨hbel, heb⟩, hcase⟩ := hrel
        rcases hcase with ⟨rfl, vs, htb⟩ | ⟨rfl, hovn, vs, htb⟩ | ⟨rfl, hovn, vs, htb⟩
        · have TR : Hid (TbI wr W0.heap.size g m vs (tabF m (t0F j r (es.take i)))) := htb
          have AB : Hid (Below W0.heap.size W0 wr) := hbel
          have EB : Hid (BX 61 wr bx #[.int .i64 (x1 : Int), .int .i64 (x2 : Int), .int .i64 x3]) := heb
          have hsr := hbel.size
          have W1 : Hid (TbI (wr.alloc (.cells #[.bool wo, .int .i64 (x1 : Int), .int .i64 (x2 : Int)] 91)) W0.heap.size g m vs (tabF m (t0F j r (es.take i))) ∧ Below W0.heap.size W0 (wr.alloc (.cells #[.bool wo, .int .i64 (x1 : Int), .int .i64 (x2 : Int)] 91)) ∧ BX 61 (wr.alloc (.cells #[.bool wo, .int .i64 (x1 : Int), .int .i64 (x2 : Int)] 91)) bx #[.int .i64 (x1 : Int), .int .i64 (x2 : Int), .int .i64 x3] ∧ BX 91 (wr.alloc (.cells #[.bool wo, .int .i64 (x1 : Int), .int .i64 (x2 : Int)] 91)) wr.heap.size #[.bool wo, .int .i64 (x1 : Int), .int .i64 (x2 : Int)]) := ⟨TR.out.kept ((Kept.refl _ _).alloc _), AB.out.alloc hsr _, EB.out.below (below_alloc _ _) EB.out.lt, BX.new _ _ _⟩
          clear htb hbel heb
          have HN : Hid ((wo && (r (x1 : Int)).2) = false → (tabF m (t1F j r (es.take i) ((x1 : Int), (x2 : Int), x3))) = (tabF m (t0F j r (es.take i)))) := fun h => t1_no (e := ((x1 : Int), (x2 : Int), x3)) (by rw [HWO.out]; exact h)
          have HY : Hid ((wo && (r (x1 : Int)).2) = true → (tabF m (t1F j r (es.take i) ((x1 : Int), (x2 : Int), x3))) = (tabF m (t0F j r (es.take i))).set x2 ((t0F j r (es.take i) x2) ++ [(sayJ j (r (x1 : Int)).1.1 x3)])) := fun h => t1_yes (e := ((x1 : Int), (x2 : Int), x3)) (by rw [HWO.out]; exact h) rfl
          have HON : Hid ((wo && (r (x1 : Int)).2) = false → overR j r (es.take (i + 1)) = false) := fun h => by rw [over_take HX.out, HOV.out, HWO.out]; simp only [h, Bool.false_and, Bool.or_self]
          have HOY : Hid ((sayJ j (r (x1 : Int)).1.1 x3) ≤ Jb.top j → overR j r (es.take (i + 1)) = false) := fun h => by rw [over_take HX.out, HOV.out]; simp only [Bool.false_or, Bool.and_eq_false_iff, decide_eq_false_iff_not]; exact .inr (by omega)
          have HOX : Hid ((wo && (r (x1 : Int)).2) = true → ¬ (sayJ j (r (x1 : Int)).1.1 x3) ≤ Jb.top j → overR j r es = true) := fun h h2 => over_part (i := i + 1) (by rw [over_take HX.out, HWO.out]; simp only [h, Bool.true_and, Bool.or_eq_true, decide_eq_true_eq]; exact .inr (by omega))
          have HSAY : Hid ((r (x1 : Int)).2 = true → ∀ X, Calls Try.prog 49 #[.int .i64 k, .agg #[.int .i64 (r (x1 : Int)).1.1, .int .i64 (r (x1 : Int)).1.2], .int .i64 ph, .int .i64 x3] X fun e w' => ∃ v, e = .returned v ∧ (v = .tuple #[.int .i64 (if (sayJ j (r (x1 : Int)).1.1 x3) ≤ Jb.top j then ((sayJ j (r (x1 : Int)).1.1 x3), (0 : Int)) else (0, 6)).1, .int .i64 (if (sayJ j (r (x1 : Int)).1.1 x3) ≤ Jb.top j then ((sayJ j (r (x1 : Int)).1.1 x3), (0 : Int)) else (0, 6)).2] ∧ Below X.heap.size X w')) := fun hsd X => by
            have h1 := say_any k (r (x1 : Int)).1 ph x3 X
            have h2 := HRR.out (x1 : Int) (by omega)
            rw [HKJ.out, HPJ.out, saidF_of, said_fit h2.1 (h2.2 hsd) (inB_iff.2 HW3.out)] at h1
            rw [HKJ.out, HPJ.out]
            exact h1.mono fun e w' h => ⟨_, h.1, rfl, h.2⟩
          have VX : Hid (∀ X, Below W0.heap.size W0 X → X.cell? ⟨bb, ob + x1, none⟩ = some (.bool (r (x1 : Int)).2) ∧ X.cell? ⟨bv, ov + x1 * 2, none⟩ = some (.int .i64 (r (x1 : Int)).1.1) ∧ X.cell? ⟨bv, ov + x1 * 2 + 1, none⟩ = some (.int .i64 (r (x1 : Int)).1.2)) := fun X hX => RV.out X x1 hX (by omega)
          obtain ⟨u, hu⟩ := getX (show x2 < vs.length by rw [TR.out.lv]; omega)
          have HFL : Hid ((tabF m (t0F j r (es.take i)))[x2]? = some ((t0F j r (es.take i) x2))) := tabF_at (show x2 < m by omega)
          have hel := TR.out.el x2 u _ hu HFL.out
          obtain ⟨ua, un, uc, rfl⟩ : ∃ a n c, u = .slice a n c := by obtain ⟨a, c, e, _⟩ := RowK.own encI_len hel; exact ⟨_, _, _, e⟩
          have HU : Hid (vs[x2]? = some (.slice ua un uc)) := hu
          have hll : ((t0F j r (es.take i) x2)).length ≤ 1201 := (Nat.le_succ_of_le (t0_most HLE.out))
          clear hu hel
          generalize (t0F j r (es.take i) x2) = lst at *
          have q0 : (0 : Int) ≤ (x1 : Int) := by omega
          have q1 : (x1 : Int) < (m : Int) := by omega
          have q3 : (0 : Int) ≤ (x2 : Int) := by omega
          have q4 : (x2 : Int) < (m : Int) := by omega
          generalize (sayJ j (r (x1 : Int)).1.1 x3) = say at *
          generalize r (x1 : Int) = rv at *
          obtain ⟨⟨y1, y2⟩, sd⟩ := rv
          simp only at VX HSAY HN HY HON HOY HOX
          go_upto_region 12 with fail
          generalize wr.alloc (.cells #[.bool wo, .int .i64 (x1 : Int), .int .i64 (x2 : Int)] 91) = w3 at *
          generalize wr.heap.size = bw at *
          obtain ⟨TR3, AB3, EB3, WB3⟩ := W1.out
          obtain ⟨k0, k1, k2, _⟩ := WB3.all3
          obtain ⟨yb, _, _⟩ := VX.out _ AB3
          have hs3 := AB3.size
          cases wo
          · have T3 : Hid (TbI w3 W0.heap.size g m vs (tabF m (t1F j r (es.take i) ((x1 : Int), (x2 : Int), x3)))) := by
              show TbI _ _ _ _ _ _
              rw [HN.out rfl]; exact TR3
            have A3 : Hid (Below W0.heap.size W0 w3) := AB3
            have E3 : Hid (BX 61 w3 bx #[.int .i64 (x1 : Int), .int .i64 (x2 : Int), .int .i64 x3]) := EB3
            have OVN : Hid (overR j r (es.take (i + 1)) = false) := HON.out rfl
            clear TR3 AB3 EB3 WB3 W1 TR AB EB HN HY HSAY VX HFL HU
            go_wp2_with fail
            go_roundw
            case rel => exact ⟨⟨A3.out, E3.out⟩, .inr (.inl ⟨rfl, OVN.out, vs, T3.out⟩)⟩
            case measure => simp [intOf]
          · cases sd
            · have T3 : Hid (TbI w3 W0.heap.size g m vs (tabF m (t1F j r (es.take i) ((x1 : Int), (x2 : Int), x3)))) := by
                show TbI _ _ _ _ _ _
                rw [HN.out rfl]; exact TR3
              have A3 : Hid (Below W0.heap.size W0 w3) := AB3
              have E3 : Hid (BX 61 w3 bx #[.int .i64 (x1 : Int), .int .i64 (x2 : Int), .int .i64 x3]) := EB3
              have OVN : Hid (overR j r (es.take (i + 1)) = false) := HON.out rfl
              clear TR3 AB3 EB3 WB3 W1 TR AB EB HN HY HSAY VX HFL HU
              go_wp2_with fail
              go_roundw
              case rel => exact ⟨⟨A3.out, E3.out⟩, .inr (.inl ⟨rfl, OVN.out, vs, T3.out⟩)⟩
              case measure => simp [intOf]
            · have HS1 := HSAY.out rfl
              have KEEP : Hid (∀ V, Below w3.heap.size w3 V → (V.cell? ⟨w.heap.size, 2, none⟩ = some (.int .i64 k) ∧ V.cell? ⟨bw, 1, none⟩ = some (.int .i64 (x1 : Int)) ∧ V.cell? ⟨bx, 2, none⟩ = some (.int .i64 x3) ∧ V.cell? ⟨bv, ov + x1 * 2, none⟩ = some (.int .i64 y1) ∧ V.cell? ⟨bv, ov + x1 * 2 + 1, none⟩ = some (.int .i64 y2))) := fun V hV => by
                have hV2 : Below W0.heap.size W0 V := AB3.trans (hV.mono hs3)
                obtain ⟨Q4, _⟩ := HK.out V hV2
                obtain ⟨_, _, j2, _⟩ := Q4.all4
                obtain ⟨_, g1, _⟩ := (WB3.below hV WB3.lt).all3
                obtain ⟨_, _, g3, _⟩ := (EB3.below hV EB3.lt).all3
                obtain ⟨_, g4, g5⟩ := VX.out V hV2
                exact ⟨j2, g1, g3, g4, g5⟩
              have HS0 : Hid (w3.drew.cell? ⟨w.heap.size, 2, none⟩ = some (.int .i64 k) ∧ w3.drew.cell? ⟨bw, 1, none⟩ = some (.int .i64 (x1 : Int)) ∧ w3.drew.cell? ⟨bx, 2, none⟩ = some (.int .i64 x3) ∧ w3.drew.cell? ⟨bv, ov + x1 * 2, none⟩ = some (.int .i64 y1) ∧ w3.drew.cell? ⟨bv, ov + x1 * 2 + 1, none⟩ = some (.int .i64 y2)) := KEEP.out w3.drew (Below.refl _ _).drew
              obtain ⟨sr, hsr2⟩ : ∃ sr : Int × Int, (if say ≤ Jb.top j then (say, (0 : Int)) else (0, 6)) = sr := ⟨_, rfl⟩
              rw [hsr2] at HS1
              have HS2 : Hid (∀ X, Calls Try.prog 49 #[.int .i64 k, .agg #[.int .i64 y1, .int .i64 y2], .int .i64 ph, .int .i64 x3] X fun e w' => ∃ v, e = .returned v ∧ (v = .tuple #[.int .i64 sr.1, .int .i64 sr.2] ∧ Below X.heap.size X w')) := HS1
              have HSR : Hid ((if say ≤ Jb.top j then (say, (0 : Int)) else (0, 6)) = sr) := hsr2
              have TR3H : Hid (TbI w3 W0.heap.size g m vs (tabF m (t0F j r (es.take i)))) := TR3
              have AB3H : Hid (Below W0.heap.size W0 w3) := AB3
              have EB3H : Hid (BX 61 w3 bx #[.int .i64 (x1 : Int), .int .i64 (x2 : Int), .int .i64 x3]) := EB3
              have WB3H : Hid (BX 91 w3 bw #[.bool true, .int .i64 (x1 : Int), .int .i64 (x2 : Int)]) := WB3
              have esay : ∀ args w, (callFunc 49 args).run Try.prog w = .ok (.enter 49 args) w := enters_of Try.func49 (by kernel_rfl) rfl
              clear TR3 AB3 EB3 WB3 W1 TR AB EB HN HS1 hsr2 HSAY
              go_upto_region 13 with fail
              clear k0 k1 k2 yb
              refine wp_region_held (S := fun V => (V.cell? ⟨w.heap.size, 2, none⟩ = some (.int .i64 k) ∧ V.cell? ⟨bw, 1, none⟩ = some (.int .i64 (x1 : Int)) ∧ V.cell? ⟨bx, 2, none⟩ = some (.int .i64 x3) ∧ V.cell? ⟨bv, ov + x1 * 2, none⟩ = some (.int .i64 y1) ∧ V.cell? ⟨bv, ov + x1 * 2 + 1, none⟩ = some (.int .i64 y2))) (by kernel_rfl) ?_
              simp only [List.size_toArray, List.length_cons, List.length_nil, Nat.reduceAdd]
              refine takeH (i := 0) (v := .pointer (some ⟨w.heap.size, 2, none⟩)) (d := 75) rfl rfl (by kernel_rfl) (by kernel_rfl) (by kernel_rfl) (fun _ _ _ h => h) (by rfl) (fun V hV => by obtain ⟨v1, v2, v3, v4, v5⟩ := hV; go_simp) HS0.out ?_
              simp only [Act.put, List.setIfInBounds_toArray, List.set_cons_zero, List.set_cons_succ]
              refine takeH (i := 1) (v := .int .i64 k) (d := 76) rfl rfl (by kernel_rfl) (by kernel_rfl) (by kernel_rfl) (fun _ _ _ h => h) (by rfl) (fun V hV => by obtain ⟨v1, v2, v3, v4, v5⟩ := hV; go_simp) HS0.out ?_
              simp only [Act.put, List.setIfInBounds_toArray, List.set_cons_zero, List.set_cons_succ]
              refine takeH (i := 2) (v := .slice (some ⟨bv, ov, none⟩) m cv) (d := 77) rfl rfl (by kernel_rfl) (by kernel_rfl) (by kernel_rfl) (fun _ _ _ h => h) (by rfl) (fun V hV => by obtain ⟨v1, v2, v3, v4, v5⟩ := hV; go_simp) HS0.out ?_
              simp only [Act.put, List.setIfInBounds_toArray, List.set_cons_zero, List.set_cons_succ]
              refine takeH (i := 3) (v := .pointer (some ⟨bw, 1, none⟩)) (d := 78) rfl rfl (by kernel_rfl) (by kernel_rfl) (by kernel_rfl) (fun _ _ _ h => h) (by rfl) (fun V hV => by obtain ⟨v1, v2, v3, v4, v5⟩ := hV; go_simp) HS0.out ?_
              simp only [Act.put, List.setIfInBounds_toArray, List.set_cons_zero, List.set_cons_succ]
              refine takeH (i := 4) (v := .int .i64 (x1 : Int)) (d := 79) rfl rfl (by kernel_rfl) (by kernel_rfl) (by kernel_rfl) (fun _ _ _ h => h) (by rfl) (fun V hV => by obtain ⟨v1, v2, v3, v4, v5⟩ := hV; go_simp) HS0.out ?_
              simp only [Act.put, List.setIfInBounds_toArray, List.set_cons_zero, List.set_cons_succ]
              refine takeH (i := 5) (v := .pointer (some ⟨bv, ov + x1 * 2, none⟩)) (d := 80) rfl rfl (by kernel_rfl) (by kernel_rfl) (by kernel_rfl) (fun _ _ _ h => h) (by rfl) (fun V hV => by obtain ⟨v1, v2, v3, v4, v5⟩ := hV; go_simp) HS0.out ?_
              simp only [Act.put, List.setIfInBounds_toArray, List.set_cons_zero, List.set_cons_succ]
              refine takeH (i := 6) (v := .agg #[.int .i64 y1, .int .i64 y2]) (d := 81) rfl rfl (by kernel_rfl) (by kernel_rfl) (by kernel_rfl) (fun _ _ _ h => h) (by rfl) (fun V hV => by obtain ⟨v1, v2, v3, v4, v5⟩ := hV; go_simp) HS0.out ?_
              simp only [Act.put, List.setIfInBounds_toArray, List.set_cons_zero, List.set_cons_succ]
              refine takeH (i := 7) (v := .int .i64 ph) (d := 82) rfl rfl (by kernel_rfl) (by kernel_rfl) (by kernel_rfl) (fun _ _ _ h => h) (by rfl) (fun V hV => by obtain ⟨v1, v2, v3, v4, v5⟩ := hV; go_simp) HS0.out ?_
              simp only [Act.put, List.setIfInBounds_toArray, List.set_cons_zero, List.set_cons_succ]
              refine takeH (i := 8) (v := .pointer (some ⟨bx, 2, none⟩)) (d := 83) rfl rfl (by kernel_rfl) (by kernel_rfl) (by kernel_rfl) (fun _ _ _ h => h) (by rfl) (fun V hV => by obtain ⟨v1, v2, v3, v4, v5⟩ := hV; go_simp) HS0.out ?_
              simp only [Act.put, List.setIfInBounds_toArray, List.set_cons_zero, List.set_cons_succ]
              refine takeH (i := 9) (v := .int .i64 x3) (d := 84) rfl rfl (by kernel_rfl) (by kernel_rfl) (by kernel_rfl) (fun _ _ _ h => h) (by rfl) (fun V hV => by obtain ⟨v1, v2, v3, v4, v5⟩ := hV; go_simp) HS0.out ?_
              simp only [Act.put, List.setIfInBounds_toArray, List.set_cons_zero, List.set_cons_succ]
              refine oneH (i := 10) rfl (by kernel_rfl) rfl (call_gets (d := 85) (f := 49) (xs := #[.tmp 76, .tmp 81, .tmp 82, .tmp 84]) (ats := #[3, 53, 3, 3]) rfl rfl esay (vs := #[.int .i64 k, .agg #[.int .i64 y1, .int .i64 y2], .int .i64 ph, .int .i64 x3]) (by simp [Act.eval]) (HS2.out w3.drew) ?_)
              rintro vr w4 ⟨rfl, hb4⟩
              have b4 : Below w3.heap.size w3 w4 := (Below.refl _ _).drew.trans hb4
              have HS4 : Hid (w4.cell? ⟨w.heap.size, 2, none⟩ = some (.int .i64 k) ∧ w4.cell? ⟨bw, 1, none⟩ = some (.int .i64 (x1 : Int)) ∧ w4.cell? ⟨bx, 2, none⟩ = some (.int .i64 x3) ∧ w4.cell? ⟨bv, ov + x1 * 2, none⟩ = some (.int .i64 y1) ∧ w4.cell? ⟨bv, ov + x1 * 2 + 1, none⟩ = some (.int .i64 y2)) := KEEP.out w4 b4
              refine ⟨HS4.out, ?_⟩
              simp only [Act.put, List.setIfInBounds_toArray, List.set_cons_zero, List.set_cons_succ]
              refine takeH (i := 11) (v := .tuple #[.int .i64 sr.1, .int .i64 sr.2]) (d := 74) rfl rfl (by kernel_rfl) (by kernel_rfl) (by kernel_rfl) (fun _ _ _ h => h) (by rfl) (fun V hV => by obtain ⟨v1, v2, v3, v4, v5⟩ := hV; go_simp) HS4.out ?_
              simp only [Act.put, List.setIfInBounds_toArray, List.set_cons_zero, List.set_cons_succ]
              refine takeH (i := 12) (v := .int .i64 sr.1) (d := 86) rfl rfl (by kernel_rfl) (by kernel_rfl) (by kernel_rfl) (fun _ _ _ h => h) (by rfl) (fun V hV => by obtain ⟨v1, v2, v3, v4, v5⟩ := hV; go_simp) HS4.out ?_
              simp only [Act.put, List.setIfInBounds_toArray, List.set_cons_zero, List.set_cons_succ]
              refine takeH (i := 13) (v := .int .i64 sr.2) (d := 87) rfl rfl (by kernel_rfl) (by kernel_rfl) (by kernel_rfl) (fun _ _ _ h => h) (by rfl) (fun V hV => by obtain ⟨v1, v2, v3, v4, v5⟩ := hV; go_simp) HS4.out ?_
              simp only [Act.put, List.setIfInBounds_toArray, List.set_cons_zero, List.set_cons_succ]
              refine takeH (i := 14) (v := .int .i64 sr.1) (d := 19) rfl rfl (by kernel_rfl) (by kernel_rfl) (by kernel_rfl) (fun _ _ _ h => h) (by rfl) (fun V hV => by obtain ⟨v1, v2, v3, v4, v5⟩ := hV; go_simp) HS4.out ?_
              simp only [Act.put, List.setIfInBounds_toArray, List.set_cons_zero, List.set_cons_succ]
              refine takeH (i := 15) (v := .int .i64 sr.2) (d := 20) rfl rfl (by kernel_rfl) (by kernel_rfl) (by kernel_rfl) (fun _ _ _ h => h) (by rfl) (fun V hV => by obtain ⟨v1, v2, v3, v4, v5⟩ := hV; go_simp) HS4.out ?_
              simp only [Act.put, List.setIfInBounds_toArray, List.set_cons_zero, List.set_cons_succ]
              refine wpAnyH_done (by kernel_rfl) ?_ _
              have TR4 := TR3H.out.kept (Kept.of b4)
              have AB4 : Below W0.heap.size W0 w4 := AB3H.out.trans (b4.mono hs3)
              have EB4 := EB3H.out.below b4 EB3H.out.lt
              have WB4 := WB3H.out.below b4 WB3H.out.lt
              clear HS4 HS0 KEEP hb4 HS2 esay
              by_cases hfit : say ≤ Jb.top j
              · have OVN : Hid (overR j r (es.take (i + 1)) = false) := HOY.out hfit
                rw [if_pos hfit] at HSR
                obtain ⟨s1', s2'⟩ := sr
                have hs12 := HSR.out
                injection hs12 with e5 e6
                subst e5 e6
                simp only
                obtain ⟨k0, k1, k2, _⟩ := WB4.all3
                have k3 := TR4.cell HU.out
                have hbx := WB4.lt
                have hg4 : g < w4.heap.size := (TR4.row.lt g rfl).2
                have hgw : W0.heap.size ≤ g := (TR4.row.lt g rfl).1
                have m0 : ∀ X, (w4.alloc X).cell? ⟨bw, 2, none⟩ = some (.int .i64 (x2 : Int)) := fun X => ((below_alloc w4 X).cell (p := ⟨bw, 2, none⟩) hbx).trans k2
                have m1 : ∀ X, (w4.alloc X).cell? ⟨g, x2, none⟩ = some (.slice ua un uc) := fun X => ((below_alloc w4 X).cell (p := ⟨g, x2, none⟩) hg4).trans k3
                have hel := TR4.el x2 _ lst HU.out HFL.out
                have hs4 := AB4.size
                obtain ⟨g5, c5, w5, hrun, ho5, hgr5, hli5⟩ := run_append_newL kI (w := (w4.alloc (.cells #[.int .i64 say] 3)).drew) 57 W0.heap.size (.slice ua un uc) lst ((hel.alloc _).drew) w4.heap.size say #[.int .i64 say] rfl (0, 0) (heap_alloc_new w4 _) (by simp only [kI]; omega) (by unfold maxLen; omega) (by show W0.heap.size ≤ (w4.alloc _).heap.size; simp; omega)
                obtain ⟨a1, a2, a3⟩ := appOk_of hrun
                have TR5 : TbI (w4.alloc (.cells #[.int .i64 say] 3)).drew W0.heap.size g m vs (tabF m (t0F j r (es.take i))) := TR4.kept ((Kept.refl _ _).alloc _).drew
                obtain ⟨T5, k4, k5⟩ := TR5.put HU.out HFL.out hgr5 ho5 hli5
                have T6 : Hid (TbI (w5.setCell ⟨g, x2, none⟩ (.slice (some ⟨g5, 0, none⟩) (lst.length + 1) c5)) W0.heap.size g m (vs.set x2 (.slice (some ⟨g5, 0, none⟩) (lst.length + 1) c5)) (tabF m (t1F j r (es.take i) ((x1 : Int), (x2 : Int), x3)))) := by
                  show TbI _ _ _ _ _ _
                  rw [HY.out rfl]; exact T5
                have AB6 : Hid (Below W0.heap.size W0 (w5.setCell ⟨g, x2, none⟩ (.slice (some ⟨g5, 0, none⟩) (lst.length + 1) c5))) := by
                  have h5 : Below W0.heap.size W0 w5 := ((AB4.alloc hs4 _).drew).trans ((Below.refl _ _).grown hgr5 (by show W0.heap.size ≤ (w4.alloc _).heap.size; simp; omega) (fun q hq => (own_ge hel hq).1))
                  exact h5.setCell (p := ⟨g, x2, none⟩) hgw _
                have eb5 : ∀ (t : TypeId) (q : Nat) (cs : Array Value), BX t w4 q cs → 3 ≠ t → BX t w5 q cs := fun t q cs hq hne => by
                  have h7 := hq.lt
                  show w5.heap[q]? = _
                  rw [hgr5.block q (by show q < (w4.alloc _).heap.size; simp; omega) (fun e => own_block hel e.symm hq hne rfl)]
                  exact ((below_alloc w4 _).block q h7).trans hq
                have m2 : w5.cell? ⟨bw, 2, none⟩ = some (.int .i64 (x2 : Int)) := (eb5 _ _ _ WB4 (by decide)).all3.2.2.1
                have EB6 : Hid (BX 61 (w5.setCell ⟨g, x2, none⟩ (.slice (some ⟨g5, 0, none⟩) (lst.length + 1) c5)) bx #[.int .i64 (x1 : Int), .int .i64 (x2 : Int), .int .i64 x3]) := (eb5 _ _ _ EB4 (by decide)).other (by
                  obtain ⟨cur, hc⟩ := own_cur TR4.row
                  exact fun e => by
                    have h8 : w4.heap[bx]? = _ := EB4
                    rw [e, hc] at h8
                    injection h8 with h8
                    injection h8 with _ h8
                    exact absurd h8 (by decide))
                unfold kI at a1 a2 a3
                simp only at a1 a2 a3
                clear hel hrun ho5 hgr5 hli5 TR5 T5 TR4 AB4 EB4 WB4 TR3H AB3H EB3H WB3H eb5 HY HFL HU VX HSR b4
                go_upto_region 16 with fail
                go_region
                generalize w5.setCell ⟨g, x2, none⟩ (.slice (some ⟨g5, 0, none⟩) (lst.length + 1) c5) = w6 at *
                clear a1 a2 a3 m0 m1 m2 k0 k1 k2 k3 k4 k5
                go_wp2_with fail
                go_roundw
                case rel => exact ⟨⟨AB6.out, EB6.out⟩, .inr (.inl ⟨rfl, OVN.out, _, T6.out⟩)⟩
                case measure => simp [intOf]
              · have HOE : Hid (overR j r es = true) := HOX.out rfl hfit
                rw [if_neg hfit] at HSR
                obtain ⟨s1', s2'⟩ := sr
                have hs12 := HSR.out
                injection hs12 with e5 e6
                subst e5 e6
                simp only
                have BE : Hid (Below w.heap.size w w4) := (HK.out _ AB4).2
                clear TR4 AB4 EB4 WB4 TR3H AB3H EB3H WB3H HSR hfit b4
                go_wp2_with fail
                exact HPN.out _ HOE.out BE.out
        · have OVN : Hid (overR j r (es.take (i + 1)) = false) := hovn
          clear hovn
          have TR : Hid (TbI wr W0.heap.size g m vs (tabF m (t1F j r (es.take i) ((x1 : Int), (x2 : Int), x3)))) := htb
          have AB : Hid (Below W0.heap.size W0 wr) := hbel
          have EB : Hid (BX 61 wr bx #[.int .i64 (x1 : Int), .int .i64 (x2 : Int), .int .i64 x3]) := heb
          have hsr := hbel.size
          have W1 : Hid (TbI (wr.alloc (.cells #[.bool wi, .int .i64 (x2 : Int), .int .i64 (x1 : Int)] 91)) W0.heap.size g m vs (tabF m (t1F j r (es.take i) ((x1 : Int), (x2 : Int), x3))) ∧ Below W0.heap.size W0 (wr.alloc (.cells #[.bool wi, .int .i64 (x2 : Int), .int .i64 (x1 : Int)] 91)) ∧ BX 61 (wr.alloc (.cells #[.bool wi, .int .i64 (x2 : Int), .int .i64 (x1 : Int)] 91)) bx #[.int .i64 (x1 : Int), .int .i64 (x2 : Int), .int .i64 x3] ∧ BX 91 (wr.alloc (.cells #[.bool wi, .int .i64 (x2 : Int), .int .i64 (x1 : Int)] 91)) wr.heap.size #[.bool wi, .int .i64 (x2 : Int), .int .i64 (x1 : Int)]) := ⟨TR.out.kept ((Kept.refl _ _).alloc _), AB.out.alloc hsr _, EB.out.below (below_alloc _ _) EB.out.lt, BX.new _ _ _⟩
          clear htb hbel heb
          have HN : Hid ((wi && (r (x2 : Int)).2) = false → (tabF m (t0F j r (es.take (i + 1)))) = (tabF m (t1F j r (es.take i) ((x1 : Int), (x2 : Int), x3)))) := fun h => t2_no HX.out (by rw [HWI.out]; exact h)
          have HY : Hid ((wi && (r (x2 : Int)).2) = true → (tabF m (t0F j r (es.take (i + 1)))) = (tabF m (t1F j r (es.take i) ((x1 : Int), (x2 : Int), x3))).set x1 ((t1F j r (es.take i) ((x1 : Int), (x2 : Int), x3) x1) ++ [(sayJ j (r (x2 : Int)).1.1 x3)])) := fun h => t2_yes HX.out (by rw [HWI.out]; exact h) rfl
          have HFIT : Hid ((wi && (r (x2 : Int)).2) = true → (sayJ j (r (x2 : Int)).1.1 x3) ≤ Jb.top j) := fun h => by
            rw [Bool.and_eq_true] at h
            rw [way_say j (by rw [HWI.out]; exact h.1)]
            have h2 := (valB_iff.1 (HRR.out (x2 : Int) (by omega)).1).1.2
            exact h2
          have HSAY : Hid ((r (x2 : Int)).2 = true → ∀ X, Calls Try.prog 49 #[.int .i64 k, .agg #[.int .i64 (r (x2 : Int)).1.1, .int .i64 (r (x2 : Int)).1.2], .int .i64 ph, .int .i64 x3] X fun e w' => ∃ v, e = .returned v ∧ (v = .tuple #[.int .i64 (if (sayJ j (r (x2 : Int)).1.1 x3) ≤ Jb.top j then ((sayJ j (r (x2 : Int)).1.1 x3), (0 : Int)) else (0, 6)).1, .int .i64 (if (sayJ j (r (x2 : Int)).1.1 x3) ≤ Jb.top j then ((sayJ j (r (x2 : Int)).1.1 x3), (0 : Int)) else (0, 6)).2] ∧ Below X.heap.size X w')) := fun hsd X => by
            have h1 := say_any k (r (x2 : Int)).1 ph x3 X
            have h2 := HRR.out (x2 : Int) (by omega)
            rw [HKJ.out, HPJ.out, saidF_of, said_fit h2.1 (h2.2 hsd) (inB_iff.2 HW3.out)] at h1
            rw [HKJ.out, HPJ.out]
            exact h1.mono fun e w' h => ⟨_, h.1, rfl, h.2⟩
          have VX : Hid (∀ X, Below W0.heap.size W0 X → X.cell? ⟨bb, ob + x2, none⟩ = some (.bool (r (x2 : Int)).2) ∧ X.cell? ⟨bv, ov + x2 * 2, none⟩ = some (.int .i64 (r (x2 : Int)).1.1) ∧ X.cell? ⟨bv, ov + x2 * 2 + 1, none⟩ = some (.int .i64 (r (x2 : Int)).1.2)) := fun X hX => RV.out X x2 hX (by omega)
          obtain ⟨u, hu⟩ := getX (show x1 < vs.length by rw [TR.out.lv]; omega)
          have HFL : Hid ((tabF m (t1F j r (es.take i) ((x1 : Int), (x2 : Int), x3)))[x1]? = some ((t1F j r (es.take i) ((x1 : Int), (x2 : Int), x3) x1))) := tabF_at (show x1 < m by omega)
          have hel := TR.out.el x1 u _ hu HFL.out
          obtain ⟨ua, un, uc, rfl⟩ : ∃ a n c, u = .slice a n c := by obtain ⟨a, c, e, _⟩ := RowK.own encI_len hel; exact ⟨_, _, _, e⟩
          have HU : Hid (vs[x1]? = some (.slice ua un uc)) := hu
          have hll : ((t1F j r (es.take i) ((x1 : Int), (x2 : Int), x3) x1)).length ≤ 1201 := t1_most HLE.out
          clear hu hel
          generalize (t1F j r (es.take i) ((x1 : Int), (x2 : Int), x3) x1) = lst at *
          have q0 : (0 : Int) ≤ (x2 : Int) := by omega
          have q1 : (x2 : Int) < (m : Int) := by omega
          have q3 : (0 : Int) ≤ (x1 : Int) := by omega
          have q4 : (x1 : Int) < (m : Int) := by omega
          generalize (sayJ j (r (x2 : Int)).1.1 x3) = say at *
          generalize r (x2 : Int) = rv at *
          obtain ⟨⟨y1, y2⟩, sd⟩ := rv
          simp only at VX HSAY HN HY HFIT
          go_upto_region 12 with fail
          generalize wr.alloc (.cells #[.bool wi, .int .i64 (x2 : Int), .int .i64 (x1 : Int)] 91) = w3 at *
          generalize wr.heap.size = bw at *
          obtain ⟨TR3, AB3, EB3, WB3⟩ := W1.out
          obtain ⟨k0, k1, k2, _⟩ := WB3.all3
          obtain ⟨yb, _, _⟩ := VX.out _ AB3
          have hs3 := AB3.size
          cases wi
          · have T3 : Hid (TbI w3 W0.heap.size g m vs (tabF m (t0F j r (es.take (i + 1))))) := by
              show TbI _ _ _ _ _ _
              rw [HN.out rfl]; exact TR3
            have A3 : Hid (Below W0.heap.size W0 w3) := AB3
            have E3 : Hid (BX 61 w3 bx #[.int .i64 (x1 : Int), .int .i64 (x2 : Int), .int .i64 x3]) := EB3
            clear TR3 AB3 EB3 WB3 W1 TR AB EB HN HY HSAY VX HFL HU
            go_wp2_with fail
            go_roundw
            case rel => exact ⟨⟨A3.out, E3.out⟩, .inr (.inr ⟨rfl, OVN.out, vs, T3.out⟩)⟩
            case measure => simp [intOf]
          · cases sd
            · have T3 : Hid (TbI w3 W0.heap.size g m vs (tabF m (t0F j r (es.take (i + 1))))) := by
                show TbI _ _ _ _ _ _
                rw [HN.out rfl]; exact TR3
              have A3 : Hid (Below W0.heap.size W0 w3) := AB3
              have E3 : Hid (BX 61 w3 bx #[.int .i64 (x1 : Int), .int .i64 (x2 : Int), .int .i64 x3]) := EB3
              clear TR3 AB3 EB3 WB3 W1 TR AB EB HN HY HSAY VX HFL HU
              go_wp2_with fail
              go_roundw
              case rel => exact ⟨⟨A3.out, E3.out⟩, .inr (.inr ⟨rfl, OVN.out, vs, T3.out⟩)⟩
              case measure => simp [intOf]
            · have HS1 := HSAY.out rfl
              have KEEP : Hid (∀ V, Below w3.heap.size w3 V → (V.cell? ⟨w.heap.size, 2, none⟩ = some (.int .i64 k) ∧ V.cell? ⟨bw, 1, none⟩ = some (.int .i64 (x2 : Int)) ∧ V.cell? ⟨bx, 2, none⟩ = some (.int .i64 x3) ∧ V.cell? ⟨bv, ov + x2 * 2, none⟩ = some (.int .i64 y1) ∧ V.cell? ⟨bv, ov + x2 * 2 + 1, none⟩ = some (.int .i64 y2))) := fun V hV => by
                have hV2 : Below W0.heap.size W0 V := AB3.trans (hV.mono hs3)
                obtain ⟨Q4, _⟩ := HK.out V hV2
                obtain ⟨_, _, j2, _⟩ := Q4.all4
                obtain ⟨_, g1, _⟩ := (WB3.below hV WB3.lt).all3
                obtain ⟨_, _, g3, _⟩ := (EB3.below hV EB3.lt).all3
                obtain ⟨_, g4, g5⟩ := VX.out V hV2
                exact ⟨j2, g1, g3, g4, g5⟩
              have HS0 : Hid (w3.drew.cell? ⟨w.heap.size, 2, none⟩ = some (.int .i64 k) ∧ w3.drew.cell? ⟨bw, 1, none⟩ = some (.int .i64 (x2 : Int)) ∧ w3.drew.cell? ⟨bx, 2, none⟩ = some (.int .i64 x3) ∧ w3.drew.cell? ⟨bv, ov + x2 * 2, none⟩ = some (.int .i64 y1) ∧ w3.drew.cell? ⟨bv, ov + x2 * 2 + 1, none⟩ = some (.int .i64 y2)) := KEEP.out w3.drew (Below.refl _ _).drew
              obtain ⟨sr, hsr2⟩ : ∃ sr : Int × Int, (if say ≤ Jb.top j then (say, (0 : Int)) else (0, 6)) = sr := ⟨_, rfl⟩
              rw [hsr2] at HS1
              have HS2 : Hid (∀ X, Calls Try.prog 49 #[.int .i64 k, .agg #[.int .i64 y1, .int .i64 y2], .int .i64 ph, .int .i64 x3] X fun e w' => ∃ v, e = .returned v ∧ (v = .tuple #[.int .i64 sr.1, .int .i64 sr.2] ∧ Below X.heap.size X w')) := HS1
              have HSR : Hid ((if say ≤ Jb.top j then (say, (0 : Int)) else (0, 6)) = sr) := hsr2
              have TR3H : Hid (TbI w3 W0.heap.size g m vs (tabF m (t1F j r (es.take i) ((x1 : Int), (x2 : Int), x3)))) := TR3
              have AB3H : Hid (Below W0.heap.size W0 w3) := AB3
              have EB3H : Hid (BX 61 w3 bx #[.int .i64 (x1 : Int), .int .i64 (x2 : Int), .int .i64 x3]) := EB3
              have WB3H : Hid (BX 91 w3 bw #[.bool true, .int .i64 (x2 : Int), .int .i64 (x1 : Int)]) := WB3
              have esay : ∀ args w, (callFunc 49 args).run Try.prog w = .ok (.enter 49 args) w := enters_of Try.func49 (by kernel_rfl) rfl
              clear TR3 AB3 EB3 WB3 W1 TR AB EB HN HS1 hsr2 HSAY
              go_upto_region 13 with fail
              clear k0 k1 k2 yb
              refine wp_region_held (S := fun V => (V.cell? ⟨w.heap.size, 2, none⟩ = some (.int .i64 k) ∧ V.cell? ⟨bw, 1, none⟩ = some (.int .i64 (x2 : Int)) ∧ V.cell? ⟨bx, 2, none⟩ = some (.int .i64 x3) ∧ V.cell? ⟨bv, ov + x2 * 2, none⟩ = some (.int .i64 y1) ∧ V.cell? ⟨bv, ov + x2 * 2 + 1, none⟩ = some (.int .i64 y2))) (by kernel_rfl) ?_
              simp only [List.size_toArray, List.length_cons, List.length_nil, Nat.reduceAdd]
              refine takeH (i := 0) (v := .pointer (some ⟨w.heap.size, 2, none⟩)) (d := 75) rfl rfl (by kernel_rfl) (by kernel_rfl) (by kernel_rfl) (fun _ _ _ h => h) (by rfl) (fun V hV => by obtain ⟨v1, v2, v3, v4, v5⟩ := hV; go_simp) HS0.out ?_
              simp only [Act.put, List.setIfInBounds_toArray, List.set_cons_zero, List.set_cons_succ]
              refine takeH (i := 1) (v := .int .i64 k) (d := 76) rfl rfl (by kernel_rfl) (by kernel_rfl) (by kernel_rfl) (fun _ _ _ h => h) (by rfl) (fun V hV => by obtain ⟨v1, v2, v3, v4, v5⟩ := hV; go_simp) HS0.out ?_
              simp only [Act.put, List.setIfInBounds_toArray, List.set_cons_zero, List.set_cons_succ]
              refine takeH (i := 2) (v := .slice (some ⟨bv, ov, none⟩) m cv) (d := 77) rfl rfl (by kernel_rfl) (by kernel_rfl) (by kernel_rfl) (fun _ _ _ h => h) (by rfl) (fun V hV => by obtain ⟨v1, v2, v3, v4, v5⟩ := hV; go_simp) HS0.out ?_
              simp only [Act.put, List.setIfInBounds_toArray, List.set_cons_zero, List.set_cons_succ]
              refine takeH (i := 3) (v := .pointer (some ⟨bw, 1, none⟩)) (d := 78) rfl rfl (by kernel_rfl) (by kernel_rfl) (by kernel_rfl) (fun _ _ _ h => h) (by rfl) (fun V hV => by obtain ⟨v1, v2, v3, v4, v5⟩ := hV; go_simp) HS0.out ?_
              simp only [Act.put, List.setIfInBounds_toArray, List.set_cons_zero, List.set_cons_succ]
              refine takeH (i := 4) (v := .int .i64 (x2 : Int)) (d := 79) rfl rfl (by kernel_rfl) (by kernel_rfl) (by kernel_rfl) (fun _ _ _ h => h) (by rfl) (fun V hV => by obtain ⟨v1, v2, v3, v4, v5⟩ := hV; go_simp) HS0.out ?_
              simp only [Act.put, List.setIfInBounds_toArray, List.set_cons_zero, List.set_cons_succ]
              refine takeH (i := 5) (v := .pointer (some ⟨bv, ov + x2 * 2, none⟩)) (d := 80) rfl rfl (by kernel_rfl) (by kernel_rfl) (by kernel_rfl) (fun _ _ _ h => h) (by rfl) (fun V hV => by obtain ⟨v1, v2, v3, v4, v5⟩ := hV; go_simp) HS0.out ?_
              simp only [Act.put, List.setIfInBounds_toArray, List.set_cons_zero, List.set_cons_succ]
              refine takeH (i := 6) (v := .agg #[.int .i64 y1, .int .i64 y2]) (d := 81) rfl rfl (by kernel_rfl) (by kernel_rfl) (by kernel_rfl) (fun _ _ _ h => h) (by rfl) (fun V hV => by obtain ⟨v1, v2, v3, v4, v5⟩ := hV; go_simp) HS0.out ?_
              simp only [Act.put, List.setIfInBounds_toArray, List.set_cons_zero, List.set_cons_succ]
              refine takeH (i := 7) (v := .int .i64 ph) (d := 82) rfl rfl (by kernel_rfl) (by kernel_rfl) (by kernel_rfl) (fun _ _ _ h => h) (by rfl) (fun V hV => by obtain ⟨v1, v2, v3, v4, v5⟩ := hV; go_simp) HS0.out ?_
              simp only [Act.put, List.setIfInBounds_toArray, List.set_cons_zero, List.set_cons_succ]
              refine takeH (i := 8) (v := .pointer (some ⟨bx, 2, none⟩)) (d := 83) rfl rfl (by kernel_rfl) (by kernel_rfl) (by kernel_rfl) (fun _ _ _ h => h) (by rfl) (fun V hV => by obtain ⟨v1, v2, v3, v4, v5⟩ := hV; go_simp) HS0.out ?_
              simp only [Act.put, List.setIfInBounds_toArray, List.set_cons_zero, List.set_cons_succ]
              refine takeH (i := 9) (v := .int .i64 x3) (d := 84) rfl rfl (by kernel_rfl) (by kernel_rfl) (by kernel_rfl) (fun _ _ _ h => h) (by rfl) (fun V hV => by obtain ⟨v1, v2, v3, v4, v5⟩ := hV; go_simp) HS0.out ?_
              simp only [Act.put, List.setIfInBounds_toArray, List.set_cons_zero, List.set_cons_succ]
              refine oneH (i := 10) rfl (by kernel_rfl) rfl (call_gets (d := 85) (f := 49) (xs := #[.tmp 76, .tmp 81, .tmp 82, .tmp 84]) (ats := #[3, 53, 3, 3]) rfl rfl esay (vs := #[.int .i64 k, .agg #[.int .i64 y1, .int .i64 y2], .int .i64 ph, .int .i64 x3]) (by simp [Act.eval]) (HS2.out w3.drew) ?_)
              rintro vr w4 ⟨rfl, hb4⟩
              have b4 : Below w3.heap.size w3 w4 := (Below.refl _ _).drew.trans hb4
              have HS4 : Hid (w4.cell? ⟨w.heap.size, 2, none⟩ = some (.int .i64 k) ∧ w4.cell? ⟨bw, 1, none⟩ = some (.int .i64 (x2 : Int)) ∧ w4.cell? ⟨bx, 2, none⟩ = some (.int .i64 x3) ∧ w4.cell? ⟨bv, ov + x2 * 2, none⟩ = some (.int .i64 y1) ∧ w4.cell? ⟨bv, ov + x2 * 2 + 1, none⟩ = some (.int .i64 y2)) := KEEP.out w4 b4
              refine ⟨HS4.out, ?_⟩
              simp only [Act.put, List.setIfInBounds_toArray, List.set_cons_zero, List.set_cons_succ]
              refine takeH (i := 11) (v := .tuple #[.int .i64 sr.1, .int .i64 sr.2]) (d := 74) rfl rfl (by kernel_rfl) (by kernel_rfl) (by kernel_rfl) (fun _ _ _ h => h) (by rfl) (fun V hV => by obtain ⟨v1, v2, v3, v4, v5⟩ := hV; go_simp) HS4.out ?_
              simp only [Act.put, List.setIfInBounds_toArray, List.set_cons_zero, List.set_cons_succ]
              refine takeH (i := 12) (v := .int .i64 sr.1) (d := 86) rfl rfl (by kernel_rfl) (by kernel_rfl) (by kernel_rfl) (fun _ _ _ h => h) (by rfl) (fun V hV => by obtain ⟨v1, v2, v3, v4, v5⟩ := hV; go_simp) HS4.out ?_
              simp only [Act.put, List.setIfInBounds_toArray, List.set_cons_zero, List.set_cons_succ]
              refine takeH (i := 13) (v := .int .i64 sr.2) (d := 87) rfl rfl (by kernel_rfl) (by kernel_rfl) (by kernel_rfl) (fun _ _ _ h => h) (by rfl) (fun V hV => by obtain ⟨v1, v2, v3, v4, v5⟩ := hV; go_simp) HS4.out ?_
              simp only [Act.put, List.setIfInBounds_toArray, List.set_cons_zero, List.set_cons_succ]
              refine takeH (i := 14) (v := .int .i64 sr.1) (d := 19) rfl rfl (by kernel_rfl) (by kernel_rfl) (by kernel_rfl) (fun _ _ _ h => h) (by rfl) (fun V hV => by obtain ⟨v1, v2, v3, v4, v5⟩ := hV; go_simp) HS4.out ?_
              simp only [Act.put, List.setIfInBounds_toArray, List.set_cons_zero, List.set_cons_succ]
              refine takeH (i := 15) (v := .int .i64 sr.2) (d := 20) rfl rfl (by kernel_rfl) (by kernel_rfl) (by kernel_rfl) (fun _ _ _ h => h) (by rfl) (fun V hV => by obtain ⟨v1, v2, v3, v4, v5⟩ := hV; go_simp) HS4.out ?_
              simp only [Act.put, List.setIfInBounds_toArray, List.set_cons_zero, List.set_cons_succ]
              refine wpAnyH_done (by kernel_rfl) ?_ _
              have TR4 := TR3H.out.kept (Kept.of b4)
              have AB4 : Below W0.heap.size W0 w4 := AB3H.out.trans (b4.mono hs3)
              have EB4 := EB3H.out.below b4 EB3H.out.lt
              have WB4 := WB3H.out.below b4 WB3H.out.lt
              clear HS4 HS0 KEEP hb4 HS2 esay
              have hfit := HFIT.out rfl
              rw [if_pos hfit] at HSR
              obtain ⟨s1', s2'⟩ := sr
              have hs12 := HSR.out
              injection hs12 with e5 e6
              subst e5 e6
              simp only
              obtain ⟨k0, k1, k2, _⟩ := WB4.all3
              have k3 := TR4.cell HU.out
              have hbx := WB4.lt
              have hg4 : g < w4.heap.size := (TR4.row.lt g rfl).2
              have hgw : W0.heap.size ≤ g := (TR4.row.lt g rfl).1
              have m0 : ∀ X, (w4.alloc X).cell? ⟨bw, 2, none⟩ = some (.int .i64 (x1 : Int)) := fun X => ((below_alloc w4 X).cell (p := ⟨bw, 2, none⟩) hbx).trans k2
              have m1 : ∀ X, (w4.alloc X).cell? ⟨g, x1, none⟩ = some (.slice ua un uc) := fun X => ((below_alloc w4 X).cell (p := ⟨g, x1, none⟩) hg4).trans k3
              have hel := TR4.el x1 _ lst HU.out HFL.out
              have hs4 := AB4.size
              obtain ⟨g5, c5, w5, hrun, ho5, hgr5, hli5⟩ := run_append_newL kI (w := (w4.alloc (.cells #[.int .i64 say] 3)).drew) 57 W0.heap.size (.slice ua un uc) lst ((hel.alloc _).drew) w4.heap.size say #[.int .i64 say] rfl (0, 0) (heap_alloc_new w4 _) (by simp only [kI]; omega) (by unfold maxLen; omega) (by show W0.heap.size ≤ (w4.alloc _).heap.size; simp; omega)
              obtain ⟨a1, a2, a3⟩ := appOk_of hrun
              have TR5 : TbI (w4.alloc (.cells #[.int .i64 say] 3)).drew W0.heap.size g m vs (tabF m (t1F j r (es.take i) ((x1 : Int), (x2 : Int), x3))) := TR4.kept ((Kept.refl _ _).alloc _).drew
              obtain ⟨T5, k4, k5⟩ := TR5.put HU.out HFL.out hgr5 ho5 hli5
              have T6 : Hid (TbI (w5.setCell ⟨g, x1, none⟩ (.slice (some ⟨g5, 0, none⟩) (lst.length + 1) c5)) W0.heap.size g m (vs.set x1 (.slice (some ⟨g5, 0, none⟩) (lst.length + 1) c5)) (tabF m (t0F j r (es.take (i + 1))))) := by
                show TbI _ _ _ _ _ _
                rw [HY.out rfl]; exact T5
              have AB6 : Hid (Below W0.heap.size W0 (w5.setCell ⟨g, x1, none⟩ (.slice (some ⟨g5, 0, none⟩) (lst.length + 1) c5))) := by
                have h5 : Below W0.heap.size W0 w5 := ((AB4.alloc hs4 _).drew).trans ((Below.refl _ _).grown hgr5 (by show W0.heap.size ≤ (w4.alloc _).heap.size; simp; omega) (fun q hq => (own_ge hel hq).1))
                exact h5.setCell (p := ⟨g, x1, none⟩) hgw _
              have eb5 : ∀ (t : TypeId) (q : Nat) (cs : Array Value), BX t w4 q cs → 3 ≠ t → BX t w5 q cs := fun t q cs hq hne => by
                have h7 := hq.lt
                show w5.heap[q]? = _
                rw [hgr5.block q (by show q < (w4.alloc _).heap.size; simp; omega) (fun e => own_block hel e.symm hq hne rfl)]
                exact ((below_alloc w4 _).block q h7).trans hq
              have m2 : w5.cell? ⟨bw, 2, none⟩ = some (.int .i64 (x1 : Int)) := (eb5 _ _ _ WB4 (by decide)).all3.2.2.1
              have EB6 : Hid (BX 61 (w5.setCell ⟨g, x1, none⟩ (.slice (some ⟨g5, 0, none⟩) (lst.length + 1) c5)) bx #[.int .i64 (x1 : Int), .int .i64 (x2 : Int), .int .i64 x3]) := (eb5 _ _ _ EB4 (by decide)).other (by
                obtain ⟨cur, hc⟩ := own_cur TR4.row
                exact fun e => by
                  have h8 : w4.heap[bx]? = _ := EB4
                  rw [e, hc] at h8
                  injection h8 with h8
                  injection h8 with _ h8
                  exact absurd h8 (by decide))
              unfold kI at a1 a2 a3
              simp only at a1 a2 a3
              clear hel hrun ho5 hgr5 hli5 TR5 T5 TR4 AB4 EB4 WB4 TR3H AB3H EB3H WB3H eb5 HY HFL HU VX HSR b4
              go_upto_region 16 with fail
              go_region
              generalize w5.setCell ⟨g, x1, none⟩ (.slice (some ⟨g5, 0, none⟩) (lst.length + 1) c5) = w6 at *
              clear a1 a2 a3 m0 m1 m2 k0 k1 k2 k3 k4 k5
              go_wp2_with fail
              go_roundw
              case rel => exact ⟨⟨AB6.out, EB6.out⟩, .inr (.inr ⟨rfl, OVN.out, _, T6.out⟩)⟩
              case measure => simp [intOf]
        · have OVN : Hid (overR j r (es.take (i + 1)) = false) := hovn
          have T3 : Hid (TbI wr W0.heap.size g m vs (tabF m (t0F j r (es.take (i + 1))))) := htb
          have A3 : Hid (Below W0.heap.size W0 wr) := hbel
          clear hovn htb hbel heb
          go_wp2_with fail
          go_roundw
          case rel => exact ⟨i + 1, vs, by omega, by go_num, OVN.out, T3.out, A3.out⟩
          case measure => simp [intOf]; omega
    · have ei : es.take i = es := List.take_of_length_le (by omega)
      rw [ei] at TR HOV
      have TS : Hid (TbI wr W0.heap.size g m vs (tabF m (t2F j r es 0))) := by show TbI _ _ _ _ _ _; rw [s2_zero]; exact TR.out
      have HMS : Hid (∀ c : Nat, (msgs j r es (c : Int)).length < 4611686018427387904) := fun c => by have := msgs_most j r es (c : Int); have := HLE.out; omega
      clear ei TR
      go_wp2_with fail
      go_loopw [107] (fun t wr => ∃ c : Nat, c ≤ m ∧ t = .int .i64 c ∧ TbI wr W0.heap.size g m vs (tabF m (t2F j r es c)) ∧ Below W0.heap.size W0 wr) (fun t _ => m - (intOf t).toNat)
      case atStart => exact ⟨0, by omega, rfl, TS.out, AB.out⟩
      case round =>
        obtain ⟨c, hc, rfl, htb, hbel⟩ := hrel
        have TR : Hid (TbI wr W0.heap.size g m vs (tabF m (t2F j r es c))) := htb
        have AC : Hid (Below W0.heap.size W0 wr) := hbel
        clear htb hbel TS
        by_cases hlt : c < m
        · obtain ⟨u, hu⟩ := getX (show c < vs.length by rw [TR.out.lv]; omega)
          have HFL : Hid ((tabF m (t2F j r es c))[c]? = some (msgs j r es (c : Int))) := by
            show _ = _
            rw [tabF_at hlt, s2_at]
          have hel := TR.out.el c u _ hu HFL.out
          have hcell := TR.out.cell hu
          have CS : Hid (∀ X, X.ownsRow W0.heap.size 3 1 u (msgs j r es (c : Int)).length ((msgs j r es (c : Int)).flatMap encI) → Calls Try.prog 50 #[u] X fun e w' => e = .returned (.tuple #[]) ∧ w'.ownsRow W0.heap.size 3 1 u (sortN (msgs j r es (c : Int))).length ((sortN (msgs j r es (c : Int))).flatMap encI) ∧ Kept (fun q => u.ownBlock = some q) X w') := fun X hX => sortI_any _ u _ X hX (HMS.out c)
          have EL : Hid (wr.ownsRow W0.heap.size 3 1 u (msgs j r es (c : Int)).length ((msgs j r es (c : Int)).flatMap encI)) := hel
          have HU : Hid (vs[c]? = some u) := hu
          obtain ⟨ua, un, uc, rfl⟩ : ∃ a n c, u = .slice a n c := by obtain ⟨a, c, e, _⟩ := RowK.own encI_len hel; exact ⟨_, _, _, e⟩
          have p0 : (0 : Int) ≤ (c : Int) := by omega
          have p1 : (c : Int) < (m : Int) := by omega
          clear hu hel
          go_wp2_with fail
          refine (CS.out _ EL.out).mono ?_
          rintro e w4 ⟨rfl, ho4, hk4⟩
          have T4 : Hid (TbI w4 W0.heap.size g m vs (tabF m (t2F j r es (c + 1)))) := by
            show TbI _ _ _ _ _ _
            rw [s2_next]; exact TR.out.turn HU.out HFL.out hk4 ho4
          have A4 : Hid (Below W0.heap.size W0 w4) := AC.out.trans (hk4.below AC.out.size (fun q hq => (own_ge EL.out hq).1))
          clear hcell ho4 hk4
          go_wp2_with fail
          go_roundw
          case rel => exact ⟨c + 1, by omega, by go_num, T4.out, A4.out⟩
          case measure => simp [intOf]; omega
        · have ec : c = m := by omega
          have OE : Hid (OwnLi wr w.heap.size (.slice (some ⟨g, 0, none⟩) m m) (mailR m j r es)) := by
            have := TR.out.own
            rw [ec, s2_all] at this
            exact this.lower (by omega)
          have BE : Hid (Below w.heap.size w wr) := (HK.out _ AC.out).2
          clear ec
          go_wp2_with fail
          exact HPY.out _ _ HOV.out OE.out BE.out
end Go.Proofs.Ytinijeejfnehmaa

namespace Go.Proofs.Ytinijeejfnehmaa
set_option maxRecDepth 100000
open Go.ChangeShapes Go.WideShapes Go.ChangeAt Go.RowKit

def hasL (l : List Int) : Bool := decide (0 < l.length)
theorem many_any (ms : List (List Int)) : ms.any hasL = decide (0 < manyL ms) := by
  rw [Bool.eq_iff_iff, List.any_eq_true, decide_eq_true_eq]
  constructor
  · rintro ⟨l, hl, h⟩
    have := manyL_mem hl
    unfold hasL at h
    have := of_decide_eq_true h
    omega
  · intro h
    apply Classical.byContradiction
    intro g
    have : manyL ms = 0 := manyL_zero.2 fun l hl => List.eq_nil_of_length_eq_zero (by
      apply Classical.byContradiction
      intro h2
      exact g ⟨l, hl, decide_eq_true (by omega)⟩)
    omega
set_option maxHeartbeats 400000 in
theorem waits_any (a : Option Addr) (c : Nat) (l : List Int) (w : World) (hl : l.length ≤ 9223372036854775807) : Calls Try.prog 51 #[.slice a l.length c] w fun e w' => e = .returned (.bool (hasL l)) ∧ w' = w := by
  by_cases h : 0 < l.length
  · have H : Hid (hasL l = true) := decide_eq_true h
    generalize hasL l = b at *
    have t : (0 : Int) < (l.length : Int) := by omega
    go_enter Try.func51, Try.ntmps51
    go_wp2_with fail
    go_ret
    exact ⟨ret_bool H.out.symm, rfl⟩
  · have H : Hid (hasL l = false) := decide_eq_false h
    generalize hasL l = b at *
    have t : ¬ (0 : Int) < (l.length : Int) := by omega
    go_enter Try.func51, Try.ntmps51
    go_wp2_with fail
    go_ret
    exact ⟨ret_bool H.out.symm, rfl⟩
def opnB (x : Ml) : Bool := x.2 == -1
theorem open_any {vs : List Ml} (h : ∀ x ∈ vs, -1 ≤ x.2) : vs.any opnB = openV vs := by
  unfold openV
  rw [Bool.eq_iff_iff, List.any_eq_true, List.any_eq_true]
  constructor
  · rintro ⟨x, hx, hb⟩
    refine ⟨x, hx, ?_⟩
    unfold opnB at hb
    have := eq_of_beq hb
    exact decide_eq_true (by omega)
  · rintro ⟨x, hx, hb⟩
    refine ⟨x, hx, ?_⟩
    have h1 := of_decide_eq_true hb
    have h2 := h x hx
    unfold opnB
    exact beq_iff_eq.2 (by omega)
set_option maxHeartbeats 400000 in
theorem opens_any (x : Ml) (w : World) : Calls Try.prog 52 #[.agg #[.int .i64 x.1, .int .i64 x.2]] w fun e w' => e = .returned (.bool (opnB x)) ∧ Below w.heap.size w w' := by
  have H : Hid ((x.2 == -1) = opnB x) := rfl
  obtain ⟨b, hb⟩ : ∃ b, (x.2 == -1) = b := ⟨_, rfl⟩
  rw [hb] at H
  generalize opnB x = ob at *
  have BH : Hid (Below w.heap.size w (w.alloc (.cells #[.int .i64 x.1, .int .i64 x.2] 53))) := below_alloc _ _
  go_enter Try.func52, Try.ntmps52
  go_wp2_with fail
  go_ret
  exact ⟨ret_bool (by rw [← H.out]), BH.out⟩

theorem any_take {α : Type} {l : List α} {p : α → Bool} {k : Nat} {x : α} (h : l[k]? = some x) : (l.take (k + 1)).any p = ((l.take k).any p || p x) := by
  rw [take_snoc h, List.any_append]; simp
theorem any_hitX {α : Type} {l : List α} {p : α → Bool} {k : Nat} {x : α} (h : l[k]? = some x) (hp : p x = true) : l.any p = true := List.any_eq_true.2 ⟨x, List.mem_of_getElem? h, hp⟩

set_option maxHeartbeats 800000 in
theorem indexL_any (v : Value) (ms : List (List Int)) (w : World) (h : LiR w v ms) :
    Calls Try.prog 61 #[v, .func (.func 51) #[] #[]] w fun e w' => ∃ r : Int, e = .returned (.int .i64 r) ∧ (0 ≤ r ↔ ms.any hasL = true) ∧ w' = w := by
  have HM : Hid (LiR w v ms) := h
  obtain ⟨ma, mc, rfl, hmc, hmm, _⟩ := h
  unfold maxLen at hmm
  have HH : Hid (∀ (k : Nat) (l : List Int), ms[k]? = some l → hasL l = true → ms.any hasL = true) := fun k l h1 h2 => any_hitX h1 h2
  have HN : Hid ((ms.take ms.length).any hasL = ms.any hasL) := by show List.any _ _ = _; rw [List.take_of_length_le (Nat.le_refl _)]
  have HT : Hid (∀ (k : Nat) (l : List Int), ms[k]? = some l → (ms.take (k + 1)).any hasL = ((ms.take k).any hasL || hasL l)) := fun k l h1 => any_take h1
  generalize ms.any hasL = ab at *
  go_enter Try.func61, Try.ntmps61
  go_wp2_with fail
  go_loop [8] (fun i => ∃ k : Nat, k ≤ ms.length ∧ i = .int .i64 k ∧ (ms.take k).any hasL = false) (fun i => ms.length - (intOf i).toNat)
  case atStart => exact ⟨0, by omega, rfl, rfl⟩
  case round =>
    obtain ⟨k, hk, rfl, hs⟩ := hrel
    have HS : Hid ((ms.take k).any hasL = false) := hs
    clear hs
    by_cases hlt : k < ms.length
    · obtain ⟨b1, o1, cap1, e1, lt1, hc1, hc2, hv1⟩ := HM.out.at (by omega)
      injection e1 with e1 _ e3
      subst e1 e3
      obtain ⟨l, hl⟩ := getX hlt
      obtain ⟨u, hu, hur⟩ := hv1 k l hl
      obtain ⟨ua, uc, rfl, huc, hum, _⟩ := hur
      unfold maxLen at hum
      have HY : Hid (hasL l = true → ab = true) := HH.out k l hl
      have HX : Hid (hasL l = false → (ms.take (k + 1)).any hasL = false) := fun h => by rw [HT.out k l hl, HS.out, h]; rfl
      have CC : Hid (∀ X, Calls Try.prog 51 #[.slice ua l.length uc] X fun e w' => e = .returned (.bool (hasL l)) ∧ w' = X) := fun X => waits_any ua uc l X (by omega)
      have p0 : (0 : Int) ≤ (k : Int) := by omega
      have p1 : (k : Int) < (ms.length : Int) := by omega
      clear hv1 hl
      generalize hasL l = hb at *
      go_wp2_with fail
      refine (CC.out _).mono ?_
      rintro e w' ⟨rfl, rfl⟩
      cases hb
      · have HX2 : Hid _ := HX.out rfl
        go_wp2_with fail
        go_round
        case rel => exact ⟨k + 1, by omega, by go_num, HX2.out⟩
        case measure => simp [intOf]; omega
      · have HY2 : Hid (ab = true) := HY.out rfl
        go_wp2_with fail
        go_ret
        exact ⟨_, rfl, ⟨fun _ => HY2.out, fun _ => by omega⟩, rfl⟩
    · have ek : k = ms.length := by omega
      have HE : Hid (ab = false) := by
        have := HS.out
        rw [ek, HN.out] at this
        exact this
      clear ek
      go_wp2_with fail
      go_ret
      exact ⟨_, rfl, ⟨fun h => by omega, fun h => by rw [HE.out] at h; cases h⟩, rfl⟩

set_option maxHeartbeats 400000 in
theorem containsL_any (v : Value) (ms : List (List Int)) (w : World) (h : LiR w v ms) :
    Calls Try.prog 53 #[v, .func (.func 51) #[] #[]] w fun e w' => e = .returned (.bool (decide (0 < manyL ms))) ∧ w' = w := by
  rw [← many_any]
  have CC : Hid (∀ X, LiR X v ms → Calls Try.prog 61 #[v, .func (.func 51) #[] #[]] X fun e w' => ∃ r : Int, e = .returned (.int .i64 r) ∧ (0 ≤ r ↔ ms.any hasL = true) ∧ w' = X) := fun X hX => indexL_any v ms X hX
  have HL : Hid (LiR w v ms) := h
  obtain ⟨ma, mc, rfl, hmc, hmm, _⟩ := h
  generalize ms.any hasL = ab at *
  go_enter Try.func53, Try.ntmps53
  go_wp2_with fail
  refine (CC.out _ HL.out).mono ?_
  rintro e w1 ⟨r, rfl, hr, hw⟩
  have HR : Hid (0 ≤ r ↔ ab = true) := hr
  have HW : Hid (w1 = w) := hw
  clear hr hw
  by_cases h0 : 0 ≤ r
  · have HA : Hid (ab = true) := HR.out.1 h0
    go_wp2_with fail
    go_ret
    exact ⟨by rw [HA.out]; rfl, HW.out⟩
  · have HA : Hid (ab = false) := by
      show ab = false
      cases hab : ab
      · rfl
      · exact absurd (HR.out.2 hab) h0
    have td : decide (0 ≤ r) = false := decide_eq_false h0
    go_wp2_with fail
    go_ret
    exact ⟨by rw [HA.out]; rfl, HW.out⟩

set_option maxHeartbeats 800000 in
theorem indexV_any (v : Value) (vs : List Ml) (w : World) (h : MlR w v vs) :
    Calls Try.prog 62 #[v, .func (.func 52) #[] #[]] w fun e w' => ∃ r : Int, e = .returned (.int .i64 r) ∧ (0 ≤ r ↔ vs.any opnB = true) ∧ Below w.heap.size w w' := by
  have HM : Hid (MlR w v vs) := h
  obtain ⟨ma, mc, rfl, hmc, hmm, _⟩ := h
  unfold maxLen at hmm
  have HH : Hid (∀ (k : Nat) (l : Ml), vs[k]? = some l → opnB l = true → vs.any opnB = true) := fun k l h1 h2 => any_hitX h1 h2
  have HN : Hid ((vs.take vs.length).any opnB = vs.any opnB) := by show List.any _ _ = _; rw [List.take_of_length_le (Nat.le_refl _)]
  have HT : Hid (∀ (k : Nat) (l : Ml), vs[k]? = some l → (vs.take (k + 1)).any opnB = ((vs.take k).any opnB || opnB l)) := fun k l h1 => any_take h1
  generalize vs.any opnB = ab at *
  go_enter Try.func62, Try.ntmps62
  go_wp2_with fail
  go_loopw [8] (fun i wr => ∃ k : Nat, k ≤ vs.length ∧ i = .int .i64 k ∧ (vs.take k).any opnB = false ∧ Below w.heap.size w wr) (fun i _ => vs.length - (intOf i).toNat)
  case atStart => exact ⟨0, by omega, rfl, rfl, Below.refl _ _⟩
  case round =>
    obtain ⟨k, hk, rfl, hs, hbel⟩ := hrel
    have HS : Hid ((vs.take k).any opnB = false) := hs
    have AB : Hid (Below w.heap.size w wr) := hbel
    clear hs hbel
    by_cases hlt : k < vs.length
    · obtain ⟨b1, o1, cap1, e1, lt1, hv1⟩ := MlR.read (HM.out.below AB.out (Nat.le_refl _)) (by omega)
      injection e1 with e1 _ e3
      subst e1 e3
      obtain ⟨x, hx⟩ := getX hlt
      obtain ⟨d0, d1⟩ := hv1 k x hx
      have HY : Hid (opnB x = true → ab = true) := HH.out k x hx
      have HX : Hid (opnB x = false → (vs.take (k + 1)).any opnB = false) := fun h => by rw [HT.out k x hx, HS.out, h]; rfl
      have CC : Hid (∀ X, Calls Try.prog 52 #[.agg #[.int .i64 x.1, .int .i64 x.2]] X fun e w' => e = .returned (.bool (opnB x)) ∧ Below X.heap.size X w') := fun X => opens_any x X
      have p0 : (0 : Int) ≤ (k : Int) := by omega
      have p1 : (k : Int) < (vs.length : Int) := by omega
      clear hv1 hx
      generalize opnB x = hb at *
      go_wp2_with fail
      refine (CC.out _).mono ?_
      rintro e w1 ⟨rfl, hb1⟩
      have A1 : Hid (Below w.heap.size w w1) := AB.out.trans (hb1.mono AB.out.size)
      clear hb1 d0 d1
      cases hb
      · have HX2 : Hid _ := HX.out rfl
        go_wp2_with fail
        go_roundw
        case rel => exact ⟨k + 1, by omega, by go_num, HX2.out, A1.out⟩
        case measure => simp [intOf]; omega
      · have HY2 : Hid (ab = true) := HY.out rfl
        go_wp2_with fail
        go_ret
        exact ⟨_, rfl, ⟨fun _ => HY2.out, fun _ => by omega⟩, A1.out⟩
    · have ek : k = vs.length := by omega
      have HE : Hid (ab = false) := by
        have := HS.out
        rw [ek, HN.out] at this
        exact this
      clear ek
      go_wp2_with fail
      go_ret
      exact ⟨_, rfl, ⟨fun h => by omega, fun h => by rw [HE.out] at h; cases h⟩, AB.out⟩

set_option maxHeartbeats 400000 in
theorem containsV_any (v : Value) (vs : List Ml) (w : World) (h : MlR w v vs) :
    Calls Try.prog 54 #[v, .func (.func 52) #[] #[]] w fun e w' => e = .returned (.bool (vs.any opnB)) ∧ Below w.heap.size w w' := by
  have CC : Hid (∀ X, MlR X v vs → Calls Try.prog 62 #[v, .func (.func 52) #[] #[]] X fun e w' => ∃ r : Int, e = .returned (.int .i64 r) ∧ (0 ≤ r ↔ vs.any opnB = true) ∧ Below X.heap.size X w') := fun X hX => indexV_any v vs X hX
  have HL : Hid (MlR w v vs) := h
  obtain ⟨ma, mc, rfl, hmc, hmm, _⟩ := h
  generalize vs.any opnB = ab at *
  go_enter Try.func54, Try.ntmps54
  go_wp2_with fail
  refine (CC.out _ HL.out).mono ?_
  rintro e w1 ⟨r, rfl, hr, hw⟩
  have HR : Hid (0 ≤ r ↔ ab = true) := hr
  have HW : Hid (Below w.heap.size w w1) := hw
  clear hr hw
  by_cases h0 : 0 ≤ r
  · have HA : Hid (ab = true) := HR.out.1 h0
    go_wp2_with fail
    go_ret
    exact ⟨by rw [HA.out]; rfl, HW.out⟩
  · have HA : Hid (ab = false) := by
      show ab = false
      cases hab : ab
      · rfl
      · exact absurd (HR.out.2 hab) h0
    have td : decide (0 ≤ r) = false := decide_eq_false h0
    go_wp2_with fail
    go_ret
    exact ⟨by rw [HA.out]; rfl, HW.out⟩
end Go.Proofs.Ytinijeejfnehmaa

namespace Go.Proofs.Ytinijeejfnehmaa
set_option maxRecDepth 100000
open Go.ChangeShapes Go.WideShapes Go.ChangeAt Go.RowKit

/-- A state that is answered, its lists those that were handed in. -/
def SetP (w : World) (t : StS) (vv vm : Value) (e : Ending) (w' : World) : Prop :=
  e = .returned (.agg #[.int .i64 t.step, .int .i64 t.phase, .bool t.fresh, .bool t.done, vv, vm]) ∧ Below w.heap.size w w'
theorem beh_mail {j : Jb} {a p : Int} {vs : List Ml} {ms : List (List Int)} (h : 0 < manyL ms) : behR j a p vs ms = ⟨a + 1, p, false, false, vs, ms⟩ := by unfold behR; rw [if_pos h]
theorem beh_done {j : Jb} {a p : Int} {vs : List Ml} {ms : List (List Int)} (h : ¬ 0 < manyL ms) (h2 : (!j.1 || (j.2 && !openV vs)) = true) : behR j a p vs ms = ⟨a + 1, p, false, true, vs, ms⟩ := by unfold behR; rw [if_neg h, if_pos h2]
theorem beh_turn {j : Jb} {a p : Int} {vs : List Ml} {ms : List (List Int)} (h : ¬ 0 < manyL ms) (h2 : (!j.1 || (j.2 && !openV vs)) = false) : behR j a p vs ms = ⟨a + 1, 1 - p, true, false, vs, ms⟩ := by unfold behR; rw [if_neg h, if_neg (by rw [h2]; simp)]

set_option maxHeartbeats 4000000 in
set_option maxRecDepth 100000 in
theorem settled_any (j : Jb) (k a step ph : Int) (vs : List Ml) (ms : List (List Int)) (vv vm : Value) (w : World) (hk : k = Jb.k j) (hp : ph = Jb.p j) (hst : step = a + 1) (hv : MlR w vv vs) (hm : LiR w vm ms) (hlab : ∀ x ∈ vs, -1 ≤ x.2) :
    Calls Try.prog 40 #[.int .i64 k, .agg #[.int .i64 step, .int .i64 ph, .bool false, .bool false, vv, vm]] w (SetP w (behR j a ph vs ms) vv vm) := by
  have HV : Hid (MlR w vv vs) := hv
  have HM : Hid (LiR w vm ms) := hm
  obtain ⟨va, vc, rfl, hvc, hvm, _, _⟩ := hv
  obtain ⟨ma, mc, rfl, hmc, hmm, _⟩ := hm
  have HO : Hid (vs.any opnB = openV vs) := open_any hlab
  clear hlab
  obtain ⟨W0, hW0⟩ : ∃ W0, W0 = (w.alloc (.cells #[.int .i64 step, .int .i64 ph, .bool false, .bool false, .slice va vs.length vc, .slice ma ms.length mc] 42)).alloc (.cells #[.int .i64 0, .int .i64 0, .bool false, .bool false, .slice none 0 0, .slice none 0 0] 42) := ⟨_, rfl⟩
  obtain ⟨Q0, T0, B0, s1, s2⟩ := boxes2 w #[.int .i64 step, .int .i64 ph, .bool false, .bool false, .slice va vs.length vc, .slice ma ms.length mc] #[.int .i64 0, .int .i64 0, .bool false, .bool false, .slice none 0 0, .slice none 0 0] 42 42 W0 hW0
  have BH : Hid (Below w.heap.size w W0) := B0
  have X0 : Hid (BX 42 W0 w.heap.size #[.int .i64 step, .int .i64 ph, .bool false, .bool false, .slice va vs.length vc, .slice ma ms.length mc]) := Q0
  have Z0 : Hid (BX 42 W0 (w.heap.size + 1) #[.int .i64 0, .int .i64 0, .bool false, .bool false, .slice none 0 0, .slice none 0 0]) := T0
  have CL : Hid (∀ X, LiR X (.slice ma ms.length mc) ms → Calls Try.prog 53 #[.slice ma ms.length mc, .func (.func 51) #[] #[]] X fun e w' => e = .returned (.bool (decide (0 < manyL ms))) ∧ w' = X) := fun X hX => containsL_any _ ms X hX
  have CV : Hid (∀ X, MlR X (.slice va vs.length vc) vs → Calls Try.prog 54 #[.slice va vs.length vc, .func (.func 52) #[] #[]] X fun e w' => e = .returned (.bool (openV vs)) ∧ Below X.heap.size X w') := fun X hX => by rw [← HO.out]; exact containsV_any _ vs X hX
  have HML : Hid (LiR W0 (.slice ma ms.length mc) ms) := HM.out.below BH.out (Nat.le_refl _)
  have HVL : Hid (MlR W0 (.slice va vs.length vc) vs) := HV.out.below BH.out (Nat.le_refl _)
  obtain ⟨⟨c0, c1, c2, c3, c4, c5⟩, f0, f1, f2, f3, f4, f5⟩ := Q0.all6
  obtain ⟨⟨d0, d1, d2, d3, d4, d5⟩, e0, e1, e2, e3, e4, e5⟩ := T0.all6
  clear Q0 T0 B0
  by_cases hmy : 0 < manyL ms
  · have HE : Hid (behR j a ph vs ms = ⟨step, ph, false, false, vs, ms⟩) := by show behR j a ph vs ms = _; rw [hst]; exact beh_mail hmy
    rw [show decide (0 < manyL ms) = true from decide_eq_true hmy] at CL
    generalize behR j a ph vs ms = R at *
    clear hmy hk hp hst
    go_enter Try.func40, Try.ntmps40
    go_upto_region 4 with fail
    rw [← hW0]
    clear hW0
    go_wp2_with fail
    refine (CL.out _ HML.out).mono ?_
    rintro e w1 ⟨rfl, hw⟩
    replace hw := hw.symm
    subst hw
    have XX := X0.out
    have ZZ := Z0.out
    have BB := BH.out
    have hsz : w.heap.size + 2 ≤ W0.heap.size := s2
    have x2 : BX 42 W0 w.heap.size #[.int .i64 step, .int .i64 ph, .bool false, .bool false, .slice va vs.length vc, .slice ma ms.length mc] := XX
    have kp : Kept (fun k => k = w.heap.size) W0 W0 := Kept.refl _ _
    have z2 : BX 42 W0 (w.heap.size + 1) #[.int .i64 0, .int .i64 0, .bool false, .bool false, .slice none 0 0, .slice none 0 0] := ZZ.kept kp (by omega)
    have RX : Hid (BX 42 (put6 W0 (w.heap.size + 1) (.int .i64 step) (.int .i64 ph) (.bool false) (.bool false) (.slice va vs.length vc) (.slice ma ms.length mc)) (w.heap.size + 1) #[.int .i64 step, .int .i64 ph, .bool false, .bool false, .slice va vs.length vc, .slice ma ms.length mc]) := z2.put6
    have HP : Hid (SetP w R (.slice va vs.length vc) (.slice ma ms.length mc) (.returned (.agg #[.int .i64 step, .int .i64 ph, .bool false, .bool false, .slice va vs.length vc, .slice ma ms.length mc])) (put6 W0 (w.heap.size + 1) (.int .i64 step) (.int .i64 ph) (.bool false) (.bool false) (.slice va vs.length vc) (.slice ma ms.length mc))) := by
      show SetP _ _ _ _ _ _
      rw [HE.out]
      exact ⟨rfl, below_put6 (BB.trans (kp.below (by omega) (fun k hk => by omega))) (by omega) z2.lt _ _ _ _ _ _⟩
    clear c0 c1 c2 c3 c4 c5 f0 f1 f2 f3 f4 f5 d0 d1 d2 d3 d4 d5 e0 e1 e2 e3 e4 e5
    obtain ⟨⟨c0, c1, c2, c3, c4, c5⟩, _⟩ := x2.all6
    obtain ⟨⟨d0, d1, d2, d3, d4, d5⟩, e0, e1, e2, e3, e4, e5⟩ := z2.all6
    obtain ⟨⟨r0, r1, r2, r3, r4, r5⟩, _⟩ := RX.out.all6
    unfold put6 at r0 r1 r2 r3 r4 r5
    obtain ⟨⟨m0, m1, m2, m3, m4, m5⟩, g0, g1, g2, g3, g4, g5⟩ := XX.all6
    go_wp2_with fail
    exact bodyPost_ret (v := .agg #[.int .i64 step, .int .i64 ph, .bool false, .bool false, .slice va vs.length vc, .slice ma ms.length mc]) (by simp [results, Try.results40, go_sem, r0, r1, r2, r3, r4, r5]) rfl HP.out
  · rw [show decide (0 < manyL ms) = false from decide_eq_false hmy] at CL
    rcases j with ⟨j1, j2⟩
    cases j1
    · have HE : Hid (behR (false, j2) a ph vs ms = ⟨step, ph, false, true, vs, ms⟩) := by show behR (false, j2) a ph vs ms = _; rw [hst]; exact beh_done hmy rfl
      have t3 : (k == 3) = false := by
        rw [hk]; cases j2 <;> rfl
      generalize behR (false, j2) a ph vs ms = R at *
      clear hmy hk hp hst
      go_enter Try.func40, Try.ntmps40
      go_upto_region 4 with fail
      rw [← hW0]
      clear hW0
      go_wp2_with fail
      refine (CL.out _ HML.out).mono ?_
      rintro e w1 ⟨rfl, hw⟩
      replace hw := hw.symm
      subst hw
      have XX := X0.out
      have ZZ := Z0.out
      have BB := BH.out
      have hsz : w.heap.size + 2 ≤ W0.heap.size := s2
      have x2 : BX 42 (W0.setCell ⟨w.heap.size, 3, none⟩ (.bool true)) w.heap.size #[.int .i64 step, .int .i64 ph, .bool false, .bool true, .slice va vs.length vc, .slice ma ms.length mc] := XX.set 3 _
      have kp : Kept (fun k => k = w.heap.size) W0 (W0.setCell ⟨w.heap.size, 3, none⟩ (.bool true)) := Kept.box _ _ _ _
      have z2 : BX 42 (W0.setCell ⟨w.heap.size, 3, none⟩ (.bool true)) (w.heap.size + 1) #[.int .i64 0, .int .i64 0, .bool false, .bool false, .slice none 0 0, .slice none 0 0] := ZZ.kept kp (by omega)
      have RX : Hid (BX 42 (put6 (W0.setCell ⟨w.heap.size, 3, none⟩ (.bool true)) (w.heap.size + 1) (.int .i64 step) (.int .i64 ph) (.bool false) (.bool true) (.slice va vs.length vc) (.slice ma ms.length mc)) (w.heap.size + 1) #[.int .i64 step, .int .i64 ph, .bool false, .bool true, .slice va vs.length vc, .slice ma ms.length mc]) := z2.put6
      have HP : Hid (SetP w R (.slice va vs.length vc) (.slice ma ms.length mc) (.returned (.agg #[.int .i64 step, .int .i64 ph, .bool false, .bool true, .slice va vs.length vc, .slice ma ms.length mc])) (put6 (W0.setCell ⟨w.heap.size, 3, none⟩ (.bool true)) (w.heap.size + 1) (.int .i64 step) (.int .i64 ph) (.bool false) (.bool true) (.slice va vs.length vc) (.slice ma ms.length mc))) := by
        show SetP _ _ _ _ _ _
        rw [HE.out]
        exact ⟨rfl, below_put6 (BB.trans (kp.below (by omega) (fun k hk => by omega))) (by omega) z2.lt _ _ _ _ _ _⟩
      clear c0 c1 c2 c3 c4 c5 f0 f1 f2 f3 f4 f5 d0 d1 d2 d3 d4 d5 e0 e1 e2 e3 e4 e5
      obtain ⟨⟨c0, c1, c2, c3, c4, c5⟩, _⟩ := x2.all6
      obtain ⟨⟨d0, d1, d2, d3, d4, d5⟩, e0, e1, e2, e3, e4, e5⟩ := z2.all6
      obtain ⟨⟨r0, r1, r2, r3, r4, r5⟩, _⟩ := RX.out.all6
      unfold put6 at r0 r1 r2 r3 r4 r5
      obtain ⟨⟨m0, m1, m2, m3, m4, m5⟩, g0, g1, g2, g3, g4, g5⟩ := XX.all6
      go_wp2_with fail
      exact bodyPost_ret (v := .agg #[.int .i64 step, .int .i64 ph, .bool false, .bool true, .slice va vs.length vc, .slice ma ms.length mc]) (by simp [results, Try.results40, go_sem, r0, r1, r2, r3, r4, r5]) rfl HP.out
    · cases j2
      · have HE : Hid (behR (true, false) a ph vs ms = ⟨step, 1, true, false, vs, ms⟩) := by
          show behR (true, false) a ph vs ms = _
          rw [hst, beh_turn hmy rfl, show ph = 0 from hp]; rfl
        have t3 : (k == 3) = true := by rw [hk]; rfl
        have t0 : (ph == 0) = true := by rw [hp]; rfl
        generalize behR (true, false) a ph vs ms = R at *
        clear hmy hk hp hst
        go_enter Try.func40, Try.ntmps40
        go_upto_region 4 with fail
        rw [← hW0]
        clear hW0
        go_wp2_with fail
        refine (CL.out _ HML.out).mono ?_
        rintro e w1 ⟨rfl, hw⟩
        replace hw := hw.symm
        subst hw
        have XX := X0.out
        have ZZ := Z0.out
        have BB := BH.out
        have hsz : w.heap.size + 2 ≤ W0.heap.size := s2
        have x2 : BX 42 ((W0.setCell ⟨w.heap.size, 1, none⟩ (.int .i64 1)).setCell ⟨w.heap.size, 2, none⟩ (.bool true)) w.heap.size #[.int .i64 step, .int .i64 1, .bool true, .bool false, .slice va vs.length vc, .slice ma ms.length mc] := (XX.set 1 _).set 2 _
        have kp : Kept (fun k => k = w.heap.size) W0 ((W0.setCell ⟨w.heap.size, 1, none⟩ (.int .i64 1)).setCell ⟨w.heap.size, 2, none⟩ (.bool true)) := (Kept.box _ _ _ _).trans (Kept.box _ _ _ _)
        have z2 : BX 42 ((W0.setCell ⟨w.heap.size, 1, none⟩ (.int .i64 1)).setCell ⟨w.heap.size, 2, none⟩ (.bool true)) (w.heap.size + 1) #[.int .i64 0, .int .i64 0, .bool false, .bool false, .slice none 0 0, .slice none 0 0] := ZZ.kept kp (by omega)
        have RX : Hid (BX 42 (put6 ((W0.setCell ⟨w.heap.size, 1, none⟩ (.int .i64 1)).setCell ⟨w.heap.size, 2, none⟩ (.bool true)) (w.heap.size + 1) (.int .i64 step) (.int .i64 1) (.bool true) (.bool false) (.slice va vs.length vc) (.slice ma ms.length mc)) (w.heap.size + 1) #[.int .i64 step, .int .i64 1, .bool true, .bool false, .slice va vs.length vc, .slice ma ms.length mc]) := z2.put6
        have HP : Hid (SetP w R (.slice va vs.length vc) (.slice ma ms.length mc) (.returned (.agg #[.int .i64 step, .int .i64 1, .bool true, .bool false, .slice va vs.length vc, .slice ma ms.length mc])) (put6 ((W0.setCell ⟨w.heap.size, 1, none⟩ (.int .i64 1)).setCell ⟨w.heap.size, 2, none⟩ (.bool true)) (w.heap.size + 1) (.int .i64 step) (.int .i64 1) (.bool true) (.bool false) (.slice va vs.length vc) (.slice ma ms.length mc))) := by
          show SetP _ _ _ _ _ _
          rw [HE.out]
          exact ⟨rfl, below_put6 (BB.trans (kp.below (by omega) (fun k hk => by omega))) (by omega) z2.lt _ _ _ _ _ _⟩
        clear c0 c1 c2 c3 c4 c5 f0 f1 f2 f3 f4 f5 d0 d1 d2 d3 d4 d5 e0 e1 e2 e3 e4 e5
        obtain ⟨⟨c0, c1, c2, c3, c4, c5⟩, _⟩ := x2.all6
        obtain ⟨⟨d0, d1, d2, d3, d4, d5⟩, e0, e1, e2, e3, e4, e5⟩ := z2.all6
        obtain ⟨⟨r0, r1, r2, r3, r4, r5⟩, _⟩ := RX.out.all6
        unfold put6 at r0 r1 r2 r3 r4 r5
        obtain ⟨⟨m0, m1, m2, m3, m4, m5⟩, g0, g1, g2, g3, g4, g5⟩ := XX.all6
        go_wp2_with fail
        exact bodyPost_ret (v := .agg #[.int .i64 step, .int .i64 1, .bool true, .bool false, .slice va vs.length vc, .slice ma ms.length mc]) (by simp [results, Try.results40, go_sem, r0, r1, r2, r3, r4, r5]) rfl HP.out
      · have t3 : (k == 3) = true := by rw [hk]; rfl
        have t0 : (ph == 0) = false := by rw [hp]; rfl
        cases ho : openV vs
        · have HE : Hid (behR (true, true) a ph vs ms = ⟨step, ph, false, true, vs, ms⟩) := by
            show behR (true, true) a ph vs ms = _
            rw [hst]; exact beh_done hmy (by rw [ho]; rfl)
          rw [ho] at CV
          generalize behR (true, true) a ph vs ms = R at *
          clear hmy hk hp hst ho
          go_enter Try.func40, Try.ntmps40
          go_upto_region 4 with fail
          rw [← hW0]
          clear hW0
          go_wp2_with fail
          refine (CL.out _ HML.out).mono ?_
          rintro e w1 ⟨rfl, hw⟩
          replace hw := hw.symm
          subst hw
          go_wp2_with fail
          refine (CV.out _ HVL.out).mono ?_
          rintro e w1 ⟨rfl, hb1⟩
          have XX := X0.out.below hb1 (by omega)
          have ZZ := Z0.out.below hb1 (by omega)
          have BB : Below w.heap.size w w1 := BH.out.trans (hb1.mono (by omega))
          have hsz : w.heap.size + 2 ≤ w1.heap.size := Nat.le_trans s2 hb1.size
          have x2 : BX 42 (w1.setCell ⟨w.heap.size, 3, none⟩ (.bool true)) w.heap.size #[.int .i64 step, .int .i64 ph, .bool false, .bool true, .slice va vs.length vc, .slice ma ms.length mc] := XX.set 3 _
          have kp : Kept (fun k => k = w.heap.size) w1 (w1.setCell ⟨w.heap.size, 3, none⟩ (.bool true)) := Kept.box _ _ _ _
          have z2 : BX 42 (w1.setCell ⟨w.heap.size, 3, none⟩ (.bool true)) (w.heap.size + 1) #[.int .i64 0, .int .i64 0, .bool false, .bool false, .slice none 0 0, .slice none 0 0] := ZZ.kept kp (by omega)
          have RX : Hid (BX 42 (put6 (w1.setCell ⟨w.heap.size, 3, none⟩ (.bool true)) (w.heap.size + 1) (.int .i64 step) (.int .i64 ph) (.bool false) (.bool true) (.slice va vs.length vc) (.slice ma ms.length mc)) (w.heap.size + 1) #[.int .i64 step, .int .i64 ph, .bool false, .bool true, .slice va vs.length vc, .slice ma ms.length mc]) := z2.put6
          have HP : Hid (SetP w R (.slice va vs.length vc) (.slice ma ms.length mc) (.returned (.agg #[.int .i64 step, .int .i64 ph, .bool false, .bool true, .slice va vs.length vc, .slice ma ms.length mc])) (put6 (w1.setCell ⟨w.heap.size, 3, none⟩ (.bool true)) (w.heap.size + 1) (.int .i64 step) (.int .i64 ph) (.bool false) (.bool true) (.slice va vs.length vc) (.slice ma ms.length mc))) := by
            show SetP _ _ _ _ _ _
            rw [HE.out]
            exact ⟨rfl, below_put6 (BB.trans (kp.below (by omega) (fun k hk => by omega))) (by omega) z2.lt _ _ _ _ _ _⟩
          clear c0 c1 c2 c3 c4 c5 f0 f1 f2 f3 f4 f5 d0 d1 d2 d3 d4 d5 e0 e1 e2 e3 e4 e5
          obtain ⟨⟨c0, c1, c2, c3, c4, c5⟩, _⟩ := x2.all6
          obtain ⟨⟨d0, d1, d2, d3, d4, d5⟩, e0, e1, e2, e3, e4, e5⟩ := z2.all6
          obtain ⟨⟨r0, r1, r2, r3, r4, r5⟩, _⟩ := RX.out.all6
          unfold put6 at r0 r1 r2 r3 r4 r5
          obtain ⟨⟨m0, m1, m2, m3, m4, m5⟩, g0, g1, g2, g3, g4, g5⟩ := XX.all6
          go_wp2_with fail
          exact bodyPost_ret (v := .agg #[.int .i64 step, .int .i64 ph, .bool false, .bool true, .slice va vs.length vc, .slice ma ms.length mc]) (by simp [results, Try.results40, go_sem, r0, r1, r2, r3, r4, r5]) rfl HP.out
        · have HE : Hid (behR (true, true) a ph vs ms = ⟨step, 0, true, false, vs, ms⟩) := by
            show behR (true, true) a ph vs ms = _
            rw [hst, beh_turn hmy (by rw [ho]; rfl), show ph = 1 from hp]; rfl
          rw [ho] at CV
          generalize behR (true, true) a ph vs ms = R at *
          clear hmy hk hp hst ho
          go_enter Try.func40, Try.ntmps40
          go_upto_region 4 with fail
          rw [← hW0]
          clear hW0
          go_wp2_with fail
          refine (CL.out _ HML.out).mono ?_
          rintro e w1 ⟨rfl, hw⟩
          replace hw := hw.symm
          subst hw
          go_wp2_with fail
          refine (CV.out _ HVL.out).mono ?_
          rintro e w1 ⟨rfl, hb1⟩
          have XX := X0.out.below hb1 (by omega)
          have ZZ := Z0.out.below hb1 (by omega)
          have BB : Below w.heap.size w w1 := BH.out.trans (hb1.mono (by omega))
          have hsz : w.heap.size + 2 ≤ w1.heap.size := Nat.le_trans s2 hb1.size
          have x2 : BX 42 ((w1.setCell ⟨w.heap.size, 1, none⟩ (.int .i64 0)).setCell ⟨w.heap.size, 2, none⟩ (.bool true)) w.heap.size #[.int .i64 step, .int .i64 0, .bool true, .bool false, .slice va vs.length vc, .slice ma ms.length mc] := (XX.set 1 _).set 2 _
          have kp : Kept (fun k => k = w.heap.size) w1 ((w1.setCell ⟨w.heap.size, 1, none⟩ (.int .i64 0)).setCell ⟨w.heap.size, 2, none⟩ (.bool true)) := (Kept.box _ _ _ _).trans (Kept.box _ _ _ _)
          have z2 : BX 42 ((w1.setCell ⟨w.heap.size, 1, none⟩ (.int .i64 0)).setCell ⟨w.heap.size, 2, none⟩ (.bool true)) (w.heap.size + 1) #[.int .i64 0, .int .i64 0, .bool false, .bool false, .slice none 0 0, .slice none 0 0] := ZZ.kept kp (by omega)
          have RX : Hid (BX 42 (put6 ((w1.setCell ⟨w.heap.size, 1, none⟩ (.int .i64 0)).setCell ⟨w.heap.size, 2, none⟩ (.bool true)) (w.heap.size + 1) (.int .i64 step) (.int .i64 0) (.bool true) (.bool false) (.slice va vs.length vc) (.slice ma ms.length mc)) (w.heap.size + 1) #[.int .i64 step, .int .i64 0, .bool true, .bool false, .slice va vs.length vc, .slice ma ms.length mc]) := z2.put6
          have HP : Hid (SetP w R (.slice va vs.length vc) (.slice ma ms.length mc) (.returned (.agg #[.int .i64 step, .int .i64 0, .bool true, .bool false, .slice va vs.length vc, .slice ma ms.length mc])) (put6 ((w1.setCell ⟨w.heap.size, 1, none⟩ (.int .i64 0)).setCell ⟨w.heap.size, 2, none⟩ (.bool true)) (w.heap.size + 1) (.int .i64 step) (.int .i64 0) (.bool true) (.bool false) (.slice va vs.length vc) (.slice ma ms.length mc))) := by
            show SetP _ _ _ _ _ _
            rw [HE.out]
            exact ⟨rfl, below_put6 (BB.trans (kp.below (by omega) (fun k hk => by omega))) (by omega) z2.lt _ _ _ _ _ _⟩
          clear c0 c1 c2 c3 c4 c5 f0 f1 f2 f3 f4 f5 d0 d1 d2 d3 d4 d5 e0 e1 e2 e3 e4 e5
          obtain ⟨⟨c0, c1, c2, c3, c4, c5⟩, _⟩ := x2.all6
          obtain ⟨⟨d0, d1, d2, d3, d4, d5⟩, e0, e1, e2, e3, e4, e5⟩ := z2.all6
          obtain ⟨⟨r0, r1, r2, r3, r4, r5⟩, _⟩ := RX.out.all6
          unfold put6 at r0 r1 r2 r3 r4 r5
          obtain ⟨⟨m0, m1, m2, m3, m4, m5⟩, g0, g1, g2, g3, g4, g5⟩ := XX.all6
          go_wp2_with fail
          exact bodyPost_ret (v := .agg #[.int .i64 step, .int .i64 0, .bool true, .bool false, .slice va vs.length vc, .slice ma ms.length mc]) (by simp [results, Try.results40, go_sem, r0, r1, r2, r3, r4, r5]) rfl HP.out
end Go.Proofs.Ytinijeejfnehmaa

namespace Go.Proofs.Ytinijeejfnehmaa
set_option maxRecDepth 100000
open Go.ChangeShapes Go.WideShapes Go.ChangeAt Go.RowKit

theorem setRow_kept (w : World) (g : Nat) (cur : Array Value) : Kept (fun k => k = g) w (w.setRow g cur) := by
  refine ⟨rfl, rfl, rfl, by simp [World.setRow], fun k _ hk => ?_⟩
  unfold World.setRow
  simp only [Array.getElem?_modify]
  rw [if_neg (fun e => hk e.symm)]
theorem copy_vals {w : World} {base g m cap : Nat} {xs zs : List Ml} {v : Value} (ty : TypeId) (hd : w.ownsRow base 53 2 (.slice (some ⟨g, 0, none⟩) m cap) m (zs.flatMap encM)) (hr : MlR w v xs) (hx : xs.length = m) :
    ∃ w', (Builtin.copy_ #[39, 39] ty #[.slice (some ⟨g, 0, none⟩) m cap, v]).run Try.prog w = .ok (goInt xs.length) w' ∧ w'.ownsRow base 53 2 (.slice (some ⟨g, 0, none⟩) m cap) m (xs.flatMap encM) ∧ Kept (fun k => k = g) w w' := by
  obtain ⟨i0, hi, hz0, hz1, hz2⟩ := info_parts Try.infoV
  have hdc := hd
  rcases hd.2 with ⟨hv, _⟩ | ⟨g', cap', cur, hv, hg, hgg, hc, hm, hcur, htk⟩
  · cases hv
  injection hv with h1 h2 h3
  injection h1 with h1
  injection h1 with h1
  subst h1 h3
  have hlen : (xs.flatMap encM).length = m * 2 := by rw [flat_len encM_len, hx]
  have hfit : 0 + (xs.flatMap encM).length ≤ cur.size := by
    have h5 := hdc.1
    rw [hlen, hcur]
    omega
  have hone : ∀ u ∈ xs.flatMap encM, u.oneCell' = true := flat_one kV xs
  have hst := run_storeCells_at Try.prog g 0 53 (xs.flatMap encM) 0 cur w hgg (by simpa using hfit) hone
  refine ⟨w.setRow g (cur.toList.take 0 ++ xs.flatMap encM ++ cur.toList.drop (0 + (xs.flatMap encM).length)).toArray, ?_, ?_, setRow_kept _ _ _⟩
  · have hld : ∃ a c, v = .slice a m c ∧ (m = 0 ∨ ∃ b off, a = some ⟨b, off, none⟩ ∧ ∀ j u, (xs.flatMap encM)[j]? = some u → w.cell? ((⟨b, off, none⟩ : Addr).add j) = some u) := by
      obtain ⟨a, c, rfl, _, _, _, hel⟩ := hr
      refine ⟨a, c, by rw [hx], ?_⟩
      rcases Nat.eq_zero_or_pos m with h0 | h0
      · exact .inl h0
      · obtain ⟨b, off, rfl, _, hv⟩ := hel (by omega)
        refine .inr ⟨b, off, rfl, fun j u hu => ?_⟩
        have hj : j < m * 2 := by rw [← hlen]; exact (List.getElem?_eq_some_iff.1 hu).1
        obtain ⟨y, hy⟩ := getX (show j / 2 < xs.length by omega)
        have hz : j % 2 < (encM y).length := by rw [encM_len]; omega
        have h6 := flat_at encM_len hy (List.getElem?_eq_getElem hz)
        rw [show j / 2 * 2 + j % 2 = j by omega, hu] at h6
        injection h6 with h6
        have := hv (j / 2) y hy (j % 2) _ (List.getElem?_eq_getElem hz)
        have ea : (⟨b, off, none⟩ : Addr).add j = ⟨b, off + j, none⟩ := by unfold Addr.add; split <;> simp_all
        rw [ea, h6]
        rw [show off + j / 2 * 2 + j % 2 = off + j by omega] at this
        exact this
    obtain ⟨a, c, rfl, hz⟩ := hld
    rcases hz with h0 | ⟨b, off, rfl, hcell⟩
    · subst h0
      have hx0 : xs = [] := List.eq_nil_of_length_eq_zero hx
      subst hx0
      simp only [List.flatMap_nil, List.append_nil, List.length_nil, List.take_zero, List.nil_append, Nat.add_zero, List.drop_zero, Array.toArray_toList] at *
      rw [setRow_self w g cur _ _ hgg]
      cases a with
      | none => simp [Builtin.copy_, run_underlying Try.underlying39, Builtin.lenOf, Builtin.firstCells, sizeOf, typeInfo, hi, storeCells]
      | some a =>
        have hl := run_loadCells_list (P := Try.prog) w a [] (fun j v h => by simp at h)
        simp only [List.length_nil] at hl
        simp [Builtin.copy_, run_underlying Try.underlying39, Builtin.lenOf, Builtin.firstCells, sizeOf, typeInfo, hi, storeCells, hl]
    · have hl := run_loadCells_list (P := Try.prog) w ⟨b, off, none⟩ (xs.flatMap encM) hcell
      rw [hlen] at hl
      simp only [Nat.zero_add] at hst
      simp [Builtin.copy_, run_underlying Try.underlying39, Builtin.lenOf, Builtin.firstCells, sizeOf, typeInfo, hi, hz1, hl, hst, hx]
  · refine ⟨by rw [hlen], .inr ⟨g, cap, (cur.toList.take 0 ++ xs.flatMap encM ++ cur.toList.drop (0 + (xs.flatMap encM).length)).toArray, rfl, hg, ?_, hc, hm, ?_, ?_⟩⟩
    · exact _root_.Go.setRow_heap w g cur _ _ _ hgg
    · simp only [List.take_zero, List.nil_append, Nat.zero_add, List.size_toArray, List.length_append, List.length_drop, Array.length_toList]
      omega
    · simp only [List.take_zero, List.nil_append, Nat.zero_add]
      rw [List.take_append_of_le_length (by omega), List.take_of_length_le (by omega)]
end Go.Proofs.Ytinijeejfnehmaa

namespace Go.Proofs.Ytinijeejfnehmaa
set_option maxRecDepth 100000
open Go.ChangeShapes Go.WideShapes Go.ChangeAt Go.RowKit

/-- A state that is answered alone. -/
def StoP (w : World) (t : StS) (e : Ending) (w' : World) : Prop :=
  ∃ vv vm, e = .returned (.agg #[.int .i64 t.step, .int .i64 t.phase, .bool t.fresh, .bool t.done, vv, vm]) ∧ w'.ownsRow w.heap.size 53 2 vv t.vals.length (t.vals.flatMap encM) ∧ OwnLi w' w.heap.size vm t.mail ∧ Below w.heap.size w w'
/-- So many values are told, the others not yet. -/
def fstV (m i : Nat) : List Ml := List.replicate i (-1, -1) ++ List.replicate (m - i) (0, 0)
theorem fstV_len {m i : Nat} (h : i ≤ m) : (fstV m i).length = m := by simp [fstV]; omega
theorem fstV_zero (m : Nat) : fstV m 0 = List.replicate m (0, 0) := by simp [fstV]
theorem fstV_all (m : Nat) : fstV m m = List.replicate m (-1, -1) := by simp [fstV]
theorem fstV_set {m i : Nat} (h : i < m) : fstV m (i + 1) = (fstV m i).set i (-1, -1) := by
  unfold fstV
  rw [List.replicate_succ', List.append_assoc, show m - i = (m - (i + 1)) + 1 by omega, List.replicate_succ, List.set_append_right _ _ (by simp)]
  simp

set_option maxHeartbeats 2000000 in
set_option maxRecDepth 100000 in
theorem first_any (m : Nat) (w : World) (hm : m ≤ 200) :
    Calls Try.prog 23 #[.int .i64 m] w (StoP w (beginS m)) := by
  obtain ⟨bf, hbf⟩ : ∃ b, decide (0 < m) = b := ⟨_, rfl⟩
  obtain ⟨bd, hbd⟩ : ∃ b, decide (m = 0) = b := ⟨_, rfl⟩
  have td : ((m : Int) == 0) = bd := by
    rw [← hbd, Bool.eq_iff_iff]
    simp
  have HP : Hid (∀ (w' : World) vv vm, w'.ownsRow w.heap.size 53 2 vv m ((List.replicate m ((-1, -1) : Ml)).flatMap encM) → OwnLi w' w.heap.size vm (List.replicate m []) → Below w.heap.size w w' → StoP w (beginS m) (.returned (.agg #[.int .i64 0, .int .i64 0, .bool bf, .bool bd, vv, vm])) w') := fun w' vv vm h1 h2 h3 => by
    rw [← hbf, ← hbd]
    exact ⟨vv, vm, rfl, by simpa [beginS] using h1, h2, h3⟩
  generalize StoP w (beginS m) = P at *
  obtain ⟨W0, hW0⟩ : ∃ W0, W0 = (w.alloc (.cells #[.int .i64 0, .int .i64 0, .bool false, .bool false, .slice none 0 0, .slice none 0 0] 42)).alloc (.cells #[.int .i64 0, .int .i64 0, .bool bf, .bool bd, .slice none 0 0, .slice none 0 0] 42) := ⟨_, rfl⟩
  obtain ⟨Q0, T0, B0, s1, s2⟩ := boxes2 w #[.int .i64 0, .int .i64 0, .bool false, .bool false, .slice none 0 0, .slice none 0 0] #[.int .i64 0, .int .i64 0, .bool bf, .bool bd, .slice none 0 0, .slice none 0 0] 42 42 W0 hW0
  have BH : Hid (Below w.heap.size w W0) := B0
  have X0 : Hid (BX 42 W0 (w.heap.size + 1) #[.int .i64 0, .int .i64 0, .bool bf, .bool bd, .slice none 0 0, .slice none 0 0]) := T0
  have R0 : Hid (BX 42 W0 w.heap.size #[.int .i64 0, .int .i64 0, .bool false, .bool false, .slice none 0 0, .slice none 0 0]) := Q0
  clear Q0 T0 B0 hbd
  go_enter Try.func23, Try.ntmps23
  go_upto_region 2 with fail
  rw [← hW0]
  clear hW0
  apply Hid.cut
  case h =>
    intro HG
    refine region_lastF (S := fun _ => True) (by kernel_rfl) rfl (by kernel_rfl) (by kernel_rfl) ?_
    simp only [List.pop_toArray, List.dropLast_cons_cons, List.dropLast_singleton, List.size_toArray, List.length_cons, List.length_nil, Nat.reduceAdd]
    refine takeH (i := 0) (v := .int .i64 (m : Int)) (d := 10) rfl rfl (by kernel_rfl) (by kernel_rfl) (by kernel_rfl) (fun _ _ _ h => h) (by rfl) (fun V hV => by clear hV; go_simp) trivial ?_
    simp only [Act.put, List.setIfInBounds_toArray, List.set_cons_zero, List.set_cons_succ]
    refine takeH (i := 2) (v := .int .i64 (m : Int)) (d := 12) rfl rfl (by kernel_rfl) (by kernel_rfl) (by kernel_rfl) (fun _ _ _ h => h) (by rfl) (fun V hV => by clear hV; go_simp) trivial ?_
    simp only [Act.put, List.setIfInBounds_toArray, List.set_cons_zero, List.set_cons_succ]
    refine twoH (i := 1) (j := 3) rfl rfl (by kernel_rfl) rfl rfl ?wA ?wB
    case wA =>
      obtain ⟨X1, mk1, ov1, hb1⟩ := make_vals W0.drew m (by omega)
      have z1 : W0.drew.heap.size = W0.heap.size := rfl
      have k1 : Kept (fun k => k = (w.heap.size + 1)) W0 X1 := (Kept.refl _ W0).drew.trans (.of hb1)
      have x1 : BX 42 X1 (w.heap.size + 1) #[.int .i64 0, .int .i64 0, .bool bf, .bool bd, .slice none 0 0, .slice none 0 0] := X0.out.below ((Below.refl _ W0).drew.trans hb1) (by omega)
      refine op_run (d := 11) (v' := .slice (some ⟨W0.drew.heap.size, 0, none⟩) m m) (w' := X1) rfl (by go_simp) ⟨trivial, ?_⟩
      simp only [Act.put, List.setIfInBounds_toArray, List.set_cons_zero, List.set_cons_succ]
      refine takeH (i := 4) (v := .pointer (some ⟨(w.heap.size + 1), 4, none⟩)) (d := 14) rfl rfl (by kernel_rfl) (by kernel_rfl) (by kernel_rfl) (fun _ _ _ h => h) (by rfl) (fun V hV => by clear hV; go_simp) trivial ?_
      simp only [Act.put, List.setIfInBounds_toArray, List.set_cons_zero, List.set_cons_succ]
      refine twoH (i := 3) (j := 5) rfl rfl (by kernel_rfl) rfl rfl ?wA1 ?wA2
      case wA1 =>
        obtain ⟨X2, mk2, ot2, hb2⟩ := make_tbi X1 m (by omega)
        have k2 : Kept (fun k => k = (w.heap.size + 1)) W0 X2 := k1.trans (.of hb2)
        have x2 : BX 42 X2 (w.heap.size + 1) #[.int .i64 0, .int .i64 0, .bool bf, .bool bd, .slice none 0 0, .slice none 0 0] := x1.below hb2 x1.lt
        have v2 : X2.ownsRow W0.heap.size 53 2 (.slice (some ⟨W0.drew.heap.size, 0, none⟩) m m) m ((List.replicate m ((0, 0) : Ml)).flatMap encM) := own_below ov1 hb2 (Nat.le_refl _)
        refine op_run (d := 13) (v' := .slice (some ⟨X1.heap.size, 0, none⟩) m m) (w' := X2) rfl (by go_simp) ⟨trivial, ?_⟩
        simp only [Act.put, List.setIfInBounds_toArray, List.set_cons_zero, List.set_cons_succ]
        obtain ⟨⟨c0, c1, c2, c3, c4, c5⟩, e0, e1, e2, e3, e4, e5⟩ := x2.all6
        refine oneH (i := 5) rfl (by kernel_rfl) rfl (op_skip (w' := X2.setCell ⟨(w.heap.size + 1), 4, none⟩ (.slice (some ⟨W0.drew.heap.size, 0, none⟩) m m)) rfl (by go_simp) ⟨trivial, ?_⟩)
        clear c0 c1 c2 c3 c4 c5 e0 e1 e2 e3 e4 e5
        have x3 : BX 42 (X2.setCell ⟨(w.heap.size + 1), 4, none⟩ (.slice (some ⟨W0.drew.heap.size, 0, none⟩) m m)) (w.heap.size + 1) #[.int .i64 0, .int .i64 0, .bool bf, .bool bd, .slice (some ⟨W0.drew.heap.size, 0, none⟩) m m, .slice none 0 0] := x2.set 4 _
        have k3 : Kept (fun k => k = (w.heap.size + 1)) W0 (X2.setCell ⟨(w.heap.size + 1), 4, none⟩ (.slice (some ⟨W0.drew.heap.size, 0, none⟩) m m)) := k2.trans (Kept.box _ _ _ _)
        have v3 : (X2.setCell ⟨(w.heap.size + 1), 4, none⟩ (.slice (some ⟨W0.drew.heap.size, 0, none⟩) m m)).ownsRow W0.heap.size 53 2 (.slice (some ⟨W0.drew.heap.size, 0, none⟩) m m) m ((List.replicate m ((0, 0) : Ml)).flatMap encM) := own_off v2 x2 (by decide) (Kept.box _ _ _ _)
        have t3 : TbI (X2.setCell ⟨(w.heap.size + 1), 4, none⟩ (.slice (some ⟨W0.drew.heap.size, 0, none⟩) m m)) W0.heap.size X1.heap.size m (List.replicate m (.slice none 0 0)) (List.replicate m []) := (ot2.lower k1.size).off (Kept.box _ _ _ _) (fun k hk => by subst hk; exact ⟨_, _, _, x2, by decide, by decide⟩)
        generalize X2.setCell ⟨(w.heap.size + 1), 4, none⟩ (.slice (some ⟨W0.drew.heap.size, 0, none⟩) m m) = X3 at *
        refine takeH (i := 6) (v := .pointer (some ⟨(w.heap.size + 1), 5, none⟩)) (d := 15) rfl rfl (by kernel_rfl) (by kernel_rfl) (by kernel_rfl) (fun _ _ _ h => h) (by rfl) (fun V hV => by clear hV; go_simp) trivial ?_
        simp only [Act.put, List.setIfInBounds_toArray, List.set_cons_zero, List.set_cons_succ]
        refine wpAnyH_done (by kernel_rfl) ?_ _
        show Oper.wp _ _ _ _ _ _
        obtain ⟨⟨c0, c1, c2, c3, c4, c5⟩, e0, e1, e2, e3, e4, e5⟩ := x3.all6
        refine op_skip (w' := X3.setCell ⟨(w.heap.size + 1), 5, none⟩ (.slice (some ⟨X1.heap.size, 0, none⟩) m m)) rfl (by go_simp) ?_
        clear c0 c1 c2 c3 c4 c5 e0 e1 e2 e3 e4 e5
        have FX : Hid (BX 42 (X3.setCell ⟨(w.heap.size + 1), 5, none⟩ (.slice (some ⟨X1.heap.size, 0, none⟩) m m)) (w.heap.size + 1) #[.int .i64 0, .int .i64 0, .bool bf, .bool bd, .slice (some ⟨W0.drew.heap.size, 0, none⟩) m m, .slice (some ⟨X1.heap.size, 0, none⟩) m m]) := x3.set 5 _
        have FK : Hid (Kept (fun k => k = (w.heap.size + 1)) W0 (X3.setCell ⟨(w.heap.size + 1), 5, none⟩ (.slice (some ⟨X1.heap.size, 0, none⟩) m m))) := k3.trans (Kept.box _ _ _ _)
        have FV : Hid ((X3.setCell ⟨(w.heap.size + 1), 5, none⟩ (.slice (some ⟨X1.heap.size, 0, none⟩) m m)).ownsRow W0.heap.size 53 2 (.slice (some ⟨W0.drew.heap.size, 0, none⟩) m m) m ((List.replicate m ((0, 0) : Ml)).flatMap encM)) := own_off v3 x3 (by decide) (Kept.box _ _ _ _)
        have FT : Hid (TbI (X3.setCell ⟨(w.heap.size + 1), 5, none⟩ (.slice (some ⟨X1.heap.size, 0, none⟩) m m)) W0.heap.size X1.heap.size m (List.replicate m (.slice none 0 0)) (List.replicate m [])) := t3.off (Kept.box _ _ _ _) (fun k hk => by subst hk; exact ⟨_, _, _, x3, by decide, by decide⟩)
        clear x3 k3 v3 t3
        clear mk1 mk2 ov1 hb1 z1 k1 x1 ot2 hb2 k2 x2 v2
        generalize X3.setCell ⟨(w.heap.size + 1), 5, none⟩ (.slice (some ⟨X1.heap.size, 0, none⟩) m m) = XX at *
        generalize W0.drew.heap.size = g1 at *
        generalize X1.heap.size = g2 at *
        revert FT
        revert FV
        revert FK
        revert FX
        revert XX
        revert g2
        revert g1
        exact HG.out
      case wA2 =>
        obtain ⟨⟨c0, c1, c2, c3, c4, c5⟩, e0, e1, e2, e3, e4, e5⟩ := x1.all6
        refine op_skip (w' := X1.setCell ⟨(w.heap.size + 1), 4, none⟩ (.slice (some ⟨W0.drew.heap.size, 0, none⟩) m m)) rfl (by go_simp) ⟨trivial, ?_⟩
        clear c0 c1 c2 c3 c4 c5 e0 e1 e2 e3 e4 e5
        have x2 : BX 42 (X1.setCell ⟨(w.heap.size + 1), 4, none⟩ (.slice (some ⟨W0.drew.heap.size, 0, none⟩) m m)) (w.heap.size + 1) #[.int .i64 0, .int .i64 0, .bool bf, .bool bd, .slice (some ⟨W0.drew.heap.size, 0, none⟩) m m, .slice none 0 0] := x1.set 4 _
        have k2 : Kept (fun k => k = (w.heap.size + 1)) W0 (X1.setCell ⟨(w.heap.size + 1), 4, none⟩ (.slice (some ⟨W0.drew.heap.size, 0, none⟩) m m)) := k1.trans (Kept.box _ _ _ _)
        have v2 : (X1.setCell ⟨(w.heap.size + 1), 4, none⟩ (.slice (some ⟨W0.drew.heap.size, 0, none⟩) m m)).ownsRow W0.heap.size 53 2 (.slice (some ⟨W0.drew.heap.size, 0, none⟩) m m) m ((List.replicate m ((0, 0) : Ml)).flatMap encM) := own_off ov1 x1 (by decide) (Kept.box _ _ _ _)
        generalize X1.setCell ⟨(w.heap.size + 1), 4, none⟩ (.slice (some ⟨W0.drew.heap.size, 0, none⟩) m m) = X2 at *
        obtain ⟨X3, mk3, ot3, hb3⟩ := make_tbi X2 m (by omega)
        have x3 : BX 42 X3 (w.heap.size + 1) #[.int .i64 0, .int .i64 0, .bool bf, .bool bd, .slice (some ⟨W0.drew.heap.size, 0, none⟩) m m, .slice none 0 0] := x2.below hb3 x2.lt
        have k3 : Kept (fun k => k = (w.heap.size + 1)) W0 X3 := k2.trans (.of hb3)
        have v3 : X3.ownsRow W0.heap.size 53 2 (.slice (some ⟨W0.drew.heap.size, 0, none⟩) m m) m ((List.replicate m ((0, 0) : Ml)).flatMap encM) := own_below v2 hb3 (Nat.le_refl _)
        have t3 : TbI X3 W0.heap.size X2.heap.size m (List.replicate m (.slice none 0 0)) (List.replicate m []) := ot3.lower k2.size
        refine oneH (i := 3) rfl (by kernel_rfl) rfl (op_run (d := 13) (v' := .slice (some ⟨X2.heap.size, 0, none⟩) m m) (w' := X3) rfl (by go_simp) ⟨trivial, ?_⟩)
        simp only [Act.put, List.setIfInBounds_toArray, List.set_cons_zero, List.set_cons_succ]
        refine takeH (i := 6) (v := .pointer (some ⟨(w.heap.size + 1), 5, none⟩)) (d := 15) rfl rfl (by kernel_rfl) (by kernel_rfl) (by kernel_rfl) (fun _ _ _ h => h) (by rfl) (fun V hV => by clear hV; go_simp) trivial ?_
        simp only [Act.put, List.setIfInBounds_toArray, List.set_cons_zero, List.set_cons_succ]
        refine wpAnyH_done (by kernel_rfl) ?_ _
        show Oper.wp _ _ _ _ _ _
        obtain ⟨⟨c0, c1, c2, c3, c4, c5⟩, e0, e1, e2, e3, e4, e5⟩ := x3.all6
        refine op_skip (w' := X3.setCell ⟨(w.heap.size + 1), 5, none⟩ (.slice (some ⟨X2.heap.size, 0, none⟩) m m)) rfl (by go_simp) ?_
        clear c0 c1 c2 c3 c4 c5 e0 e1 e2 e3 e4 e5
        have FX : Hid (BX 42 (X3.setCell ⟨(w.heap.size + 1), 5, none⟩ (.slice (some ⟨X2.heap.size, 0, none⟩) m m)) (w.heap.size + 1) #[.int .i64 0, .int .i64 0, .bool bf, .bool bd, .slice (some ⟨W0.drew.heap.size, 0, none⟩) m m, .slice (some ⟨X2.heap.size, 0, none⟩) m m]) := x3.set 5 _
        have FK : Hid (Kept (fun k => k = (w.heap.size + 1)) W0 (X3.setCell ⟨(w.heap.size + 1), 5, none⟩ (.slice (some ⟨X2.heap.size, 0, none⟩) m m))) := k3.trans (Kept.box _ _ _ _)
        have FV : Hid ((X3.setCell ⟨(w.heap.size + 1), 5, none⟩ (.slice (some ⟨X2.heap.size, 0, none⟩) m m)).ownsRow W0.heap.size 53 2 (.slice (some ⟨W0.drew.heap.size, 0, none⟩) m m) m ((List.replicate m ((0, 0) : Ml)).flatMap encM)) := own_off v3 x3 (by decide) (Kept.box _ _ _ _)
        have FT : Hid (TbI (X3.setCell ⟨(w.heap.size + 1), 5, none⟩ (.slice (some ⟨X2.heap.size, 0, none⟩) m m)) W0.heap.size X2.heap.size m (List.replicate m (.slice none 0 0)) (List.replicate m [])) := t3.off (Kept.box _ _ _ _) (fun k hk => by subst hk; exact ⟨_, _, _, x3, by decide, by decide⟩)
        exact HG.out _ _ _ FX FK FV FT
    case wB =>
      obtain ⟨X1, mk1, ot1, hb1⟩ := make_tbi W0.drew m (by omega)
      have z1 : W0.drew.heap.size = W0.heap.size := rfl
      have k1 : Kept (fun k => k = (w.heap.size + 1)) W0 X1 := (Kept.refl _ W0).drew.trans (.of hb1)
      have x1 : BX 42 X1 (w.heap.size + 1) #[.int .i64 0, .int .i64 0, .bool bf, .bool bd, .slice none 0 0, .slice none 0 0] := X0.out.below ((Below.refl _ W0).drew.trans hb1) (by omega)
      refine op_run (d := 13) (v' := .slice (some ⟨W0.drew.heap.size, 0, none⟩) m m) (w' := X1) rfl (by go_simp) ⟨trivial, ?_⟩
      simp only [Act.put, List.setIfInBounds_toArray, List.set_cons_zero, List.set_cons_succ]
      obtain ⟨X2, mk2, ov2, hb2⟩ := make_vals X1 m (by omega)
      have k2 : Kept (fun k => k = (w.heap.size + 1)) W0 X2 := k1.trans (.of hb2)
      have x2 : BX 42 X2 (w.heap.size + 1) #[.int .i64 0, .int .i64 0, .bool bf, .bool bd, .slice none 0 0, .slice none 0 0] := x1.below hb2 x1.lt
      have t2 : TbI X2 W0.heap.size W0.drew.heap.size m (List.replicate m (.slice none 0 0)) (List.replicate m []) := ot1.kept (.of hb2)
      refine oneH (i := 1) rfl (by kernel_rfl) rfl (op_run (d := 11) (v' := .slice (some ⟨X1.heap.size, 0, none⟩) m m) (w' := X2) rfl (by go_simp) ⟨trivial, ?_⟩)
      simp only [Act.put, List.setIfInBounds_toArray, List.set_cons_zero, List.set_cons_succ]
      refine takeH (i := 4) (v := .pointer (some ⟨(w.heap.size + 1), 4, none⟩)) (d := 14) rfl rfl (by kernel_rfl) (by kernel_rfl) (by kernel_rfl) (fun _ _ _ h => h) (by rfl) (fun V hV => by clear hV; go_simp) trivial ?_
      simp only [Act.put, List.setIfInBounds_toArray, List.set_cons_zero, List.set_cons_succ]
      obtain ⟨⟨c0, c1, c2, c3, c4, c5⟩, e0, e1, e2, e3, e4, e5⟩ := x2.all6
      refine oneH (i := 5) rfl (by kernel_rfl) rfl (op_skip (w' := X2.setCell ⟨(w.heap.size + 1), 4, none⟩ (.slice (some ⟨X1.heap.size, 0, none⟩) m m)) rfl (by go_simp) ⟨trivial, ?_⟩)
      clear c0 c1 c2 c3 c4 c5 e0 e1 e2 e3 e4 e5
      have x3 : BX 42 (X2.setCell ⟨(w.heap.size + 1), 4, none⟩ (.slice (some ⟨X1.heap.size, 0, none⟩) m m)) (w.heap.size + 1) #[.int .i64 0, .int .i64 0, .bool bf, .bool bd, .slice (some ⟨X1.heap.size, 0, none⟩) m m, .slice none 0 0] := x2.set 4 _
      have k3 : Kept (fun k => k = (w.heap.size + 1)) W0 (X2.setCell ⟨(w.heap.size + 1), 4, none⟩ (.slice (some ⟨X1.heap.size, 0, none⟩) m m)) := k2.trans (Kept.box _ _ _ _)
      have v3 : (X2.setCell ⟨(w.heap.size + 1), 4, none⟩ (.slice (some ⟨X1.heap.size, 0, none⟩) m m)).ownsRow W0.heap.size 53 2 (.slice (some ⟨X1.heap.size, 0, none⟩) m m) m ((List.replicate m ((0, 0) : Ml)).flatMap encM) := own_off (own_lower ov2 k1.size) x2 (by decide) (Kept.box _ _ _ _)
      have t3 : TbI (X2.setCell ⟨(w.heap.size + 1), 4, none⟩ (.slice (some ⟨X1.heap.size, 0, none⟩) m m)) W0.heap.size W0.drew.heap.size m (List.replicate m (.slice none 0 0)) (List.replicate m []) := t2.off (Kept.box _ _ _ _) (fun k hk => by subst hk; exact ⟨_, _, _, x2, by decide, by decide⟩)
      generalize X2.setCell ⟨(w.heap.size + 1), 4, none⟩ (.slice (some ⟨X1.heap.size, 0, none⟩) m m) = X3 at *
      refine takeH (i := 6) (v := .pointer (some ⟨(w.heap.size + 1), 5, none⟩)) (d := 15) rfl rfl (by kernel_rfl) (by kernel_rfl) (by kernel_rfl) (fun _ _ _ h => h) (by rfl) (fun V hV => by clear hV; go_simp) trivial ?_
      simp only [Act.put, List.setIfInBounds_toArray, List.set_cons_zero, List.set_cons_succ]
      refine wpAnyH_done (by kernel_rfl) ?_ _
      show Oper.wp _ _ _ _ _ _
      obtain ⟨⟨c0, c1, c2, c3, c4, c5⟩, e0, e1, e2, e3, e4, e5⟩ := x3.all6
      refine op_skip (w' := X3.setCell ⟨(w.heap.size + 1), 5, none⟩ (.slice (some ⟨W0.drew.heap.size, 0, none⟩) m m)) rfl (by go_simp) ?_
      clear c0 c1 c2 c3 c4 c5 e0 e1 e2 e3 e4 e5
      have FX : Hid (BX 42 (X3.setCell ⟨(w.heap.size + 1), 5, none⟩ (.slice (some ⟨W0.drew.heap.size, 0, none⟩) m m)) (w.heap.size + 1) #[.int .i64 0, .int .i64 0, .bool bf, .bool bd, .slice (some ⟨X1.heap.size, 0, none⟩) m m, .slice (some ⟨W0.drew.heap.size, 0, none⟩) m m]) := x3.set 5 _
      have FK : Hid (Kept (fun k => k = (w.heap.size + 1)) W0 (X3.setCell ⟨(w.heap.size + 1), 5, none⟩ (.slice (some ⟨W0.drew.heap.size, 0, none⟩) m m))) := k3.trans (Kept.box _ _ _ _)
      have FV : Hid ((X3.setCell ⟨(w.heap.size + 1), 5, none⟩ (.slice (some ⟨W0.drew.heap.size, 0, none⟩) m m)).ownsRow W0.heap.size 53 2 (.slice (some ⟨X1.heap.size, 0, none⟩) m m) m ((List.replicate m ((0, 0) : Ml)).flatMap encM)) := own_off v3 x3 (by decide) (Kept.box _ _ _ _)
      have FT : Hid (TbI (X3.setCell ⟨(w.heap.size + 1), 5, none⟩ (.slice (some ⟨W0.drew.heap.size, 0, none⟩) m m)) W0.heap.size W0.drew.heap.size m (List.replicate m (.slice none 0 0)) (List.replicate m [])) := t3.off (Kept.box _ _ _ _) (fun k hk => by subst hk; exact ⟨_, _, _, x3, by decide, by decide⟩)
      exact HG.out _ _ _ FX FK FV FT
  case g =>
    intro g1 g2 X FX FK FV FT
    have hx := FX.out
    obtain ⟨⟨c0, c1, c2, c3, c4, c5⟩, e0, e1, e2, e3, e4, e5⟩ := hx.all6
    have hbt : Hid (Below w.heap.size w X) := BH.out.trans (FK.out.below (by omega) (fun k hk => by omega))
    have hg1 := FV.out.lt g1 rfl
    have FV0 : Hid (X.ownsRow W0.heap.size 53 2 (.slice (some ⟨g1, 0, none⟩) m m) m ((fstV m 0).flatMap encM)) := by
      show World.ownsRow _ _ _ _ _ _ _
      rw [fstV_zero]; exact FV.out
    clear FV hx
    go_wp2_with fail
    clear c0 c1 c2 c3 c4 c5 e0 e1 e2 e3 e4 e5
    go_loopw [19] (fun i wr => ∃ j : Nat, j ≤ m ∧ i = .int .i64 j ∧ Kept (fun k => k = w.heap.size + 1 ∨ k = g1) W0 wr ∧ BX 42 wr (w.heap.size + 1) #[.int .i64 0, .int .i64 0, .bool bf, .bool bd, .slice (some ⟨g1, 0, none⟩) m m, .slice (some ⟨g2, 0, none⟩) m m] ∧ wr.ownsRow W0.heap.size 53 2 (.slice (some ⟨g1, 0, none⟩) m m) m ((fstV m j).flatMap encM) ∧ TbI wr W0.heap.size g2 m (List.replicate m (.slice none 0 0)) (List.replicate m [])) (fun i _ => m - (intOf i).toNat)
    case atStart => exact ⟨0, by omega, rfl, FK.out.mono (fun k hk => .inl hk), FX.out, FV0.out, FT.out⟩
    case round =>
      obtain ⟨j, hj, rfl, hk, hx, hv, ht⟩ := hrel
      have KB : Hid (Kept (fun k => k = w.heap.size + 1 ∨ k = g1) W0 wr) := hk
      have XB : Hid (BX 42 wr (w.heap.size + 1) #[.int .i64 0, .int .i64 0, .bool bf, .bool bd, .slice (some ⟨g1, 0, none⟩) m m, .slice (some ⟨g2, 0, none⟩) m m]) := hx
      have VB : Hid (wr.ownsRow W0.heap.size 53 2 (.slice (some ⟨g1, 0, none⟩) m m) m ((fstV m j).flatMap encM)) := hv
      have TB : Hid (TbI wr W0.heap.size g2 m (List.replicate m (.slice none 0 0)) (List.replicate m [])) := ht
      obtain ⟨⟨c0, c1, c2, c3, c4, c5⟩, _⟩ := hx.all6
      clear hk hx hv ht
      by_cases hlt : j < m
      · have p0 : (0 : Int) ≤ (j : Int) := by omega
        have p1 : (j : Int) < (m : Int) := by omega
        obtain ⟨cur, hcur⟩ : ∃ cur, wr.heap[g1]? = some (.cells cur 53 (0, 0)) := by
          rcases VB.out.2 with ⟨hv, _⟩ | ⟨g3, c3, cur, hv, _, hgg, _⟩
          · cases hv
          · injection hv with hv
            injection hv with hv
            injection hv with hv
            subst hv
            exact ⟨cur, hgg⟩
        obtain ⟨x, hx⟩ := getX (show j < (fstV m j).length by rw [fstV_len hj]; exact hlt)
        obtain ⟨d0, d1⟩ := own_atV VB.out hx
        have f0 := frozenK VB.out (j * 2)
        have f1 := frozenK VB.out (j * 2 + 1)
        have VN : Hid ((putV wr g1 (j * 2) (-1, -1)).ownsRow W0.heap.size 53 2 (.slice (some ⟨g1, 0, none⟩) m m) m ((fstV m (j + 1)).flatMap encM)) := by
          show World.ownsRow _ _ _ _ _ _ _
          rw [fstV_set hlt]; exact own_putV VB.out (by rw [fstV_len hj]; exact hlt) _
        have KN : Hid (Kept (fun k => k = w.heap.size + 1 ∨ k = g1) W0 (putV wr g1 (j * 2) (-1, -1))) := KB.out.trans ((kept_putV wr g1 (j * 2) (-1, -1)).mono fun k hk => .inr hk)
        have XN : Hid (BX 42 (putV wr g1 (j * 2) (-1, -1)) (w.heap.size + 1) #[.int .i64 0, .int .i64 0, .bool bf, .bool bd, .slice (some ⟨g1, 0, none⟩) m m, .slice (some ⟨g2, 0, none⟩) m m]) := XB.out.kept (kept_putV wr g1 (j * 2) (-1, -1)) (by omega)
        have TN : Hid (TbI (putV wr g1 (j * 2) (-1, -1)) W0.heap.size g2 m (List.replicate m (.slice none 0 0)) (List.replicate m [])) := TB.out.off (kept_putV wr g1 (j * 2) (-1, -1)) (fun k hk => by subst hk; exact ⟨_, _, _, hcur, by decide, by decide⟩)
        clear hx hcur cur
        unfold putV at VN KN XN TN
        go_wp2_with fail
        go_roundw
        case rel => exact ⟨j + 1, by omega, by go_num, KN.out, XN.out, VN.out, TN.out⟩
        case measure => simp [intOf]; omega
      · have ej : j = m := by omega
        have VE : Hid (wr.ownsRow W0.heap.size 53 2 (.slice (some ⟨g1, 0, none⟩) m m) m ((List.replicate m ((-1, -1) : Ml)).flatMap encM)) := by
          have := VB.out
          rw [ej, fstV_all] at this
          exact this
        have Z0 : BX 42 wr w.heap.size #[.int .i64 0, .int .i64 0, .bool false, .bool false, .slice none 0 0, .slice none 0 0] := R0.out.kept KB.out (by omega)
        have RX : Hid (BX 42 (put6 wr w.heap.size (.int .i64 0) (.int .i64 0) (.bool bf) (.bool bd) (.slice (some ⟨g1, 0, none⟩) m m) (.slice (some ⟨g2, 0, none⟩) m m)) w.heap.size #[.int .i64 0, .int .i64 0, .bool bf, .bool bd, .slice (some ⟨g1, 0, none⟩) m m, .slice (some ⟨g2, 0, none⟩) m m]) := Z0.put6
        have HE : Hid (P (.returned (.agg #[.int .i64 0, .int .i64 0, .bool bf, .bool bd, .slice (some ⟨g1, 0, none⟩) m m, .slice (some ⟨g2, 0, none⟩) m m])) (put6 wr w.heap.size (.int .i64 0) (.int .i64 0) (.bool bf) (.bool bd) (.slice (some ⟨g1, 0, none⟩) m m) (.slice (some ⟨g2, 0, none⟩) m m))) := by
          refine HP.out _ _ _ ?_ ?_ ?_
          · exact own_lower (own_off VE.out Z0 (by decide) (kept_put6 wr w.heap.size _ _ _ _ _ _)) (by omega)
          · exact (TB.out.own.off Z0 (by decide) (by decide) (kept_put6 wr w.heap.size _ _ _ _ _ _)).lower (by omega)
          · exact below_put6 (BH.out.trans (KB.out.below (by omega) (fun k hk => by omega))) (Nat.le_refl _) Z0.lt _ _ _ _ _ _
        obtain ⟨⟨d0, d1, d2, d3, d4, d5⟩, e0, e1, e2, e3, e4, e5⟩ := Z0.all6
        clear Z0 ej
        go_wp2_with fail
        obtain ⟨⟨r0, r1, r2, r3, r4, r5⟩, _⟩ := RX.out.all6
        unfold put6 at r0 r1 r2 r3 r4 r5
        exact bodyPost_ret (v := .agg #[.int .i64 0, .int .i64 0, .bool bf, .bool bd, .slice (some ⟨g1, 0, none⟩) m m, .slice (some ⟨g2, 0, none⟩) m m]) (by simp [results, Try.results23, go_sem, r0, r1, r2, r3, r4, r5]) rfl HE.out
end Go.Proofs.Ytinijeejfnehmaa

namespace Go.Proofs.Ytinijeejfnehmaa
set_option maxRecDepth 100000
open Go.ChangeShapes Go.WideShapes Go.ChangeAt Go.RowKit

set_option maxHeartbeats 2000000 in
set_option maxRecDepth 100000 in
theorem again_any (step phase : Int) (vs : List Ml) (vv vm : Value) (w : World) (hvm : ∃ a b c, vm = .slice a b c) (hv : MlR w vv vs) (hl : vs.length ≤ 200) :
    Calls Try.prog 37 #[.agg #[.int .i64 step, .int .i64 phase, .bool false, .bool true, vv, vm]] w (StoP w ⟨step, phase, false, true, vs, List.replicate vs.length []⟩) := by
  obtain ⟨ga, gb, gc, rfl⟩ := hvm
  generalize hvmx : Value.slice ga gb gc = vm
  have hone : vm.oneCell' = true := by rw [← hvmx]; rfl
  have HV : Hid (MlR w vv vs) := hv
  obtain ⟨va, vc, rfl, hvc, hvm, _, _⟩ := hv
  unfold maxLen at hvm
  have HP : Hid (∀ (w' : World) u1 u2, w'.ownsRow w.heap.size 53 2 u1 vs.length (vs.flatMap encM) → OwnLi w' w.heap.size u2 (List.replicate vs.length []) → Below w.heap.size w w' → StoP w ⟨step, phase, false, true, vs, List.replicate vs.length []⟩ (.returned (.agg #[.int .i64 step, .int .i64 phase, .bool false, .bool true, u1, u2])) w') := fun w' u1 u2 h1 h2 h3 => ⟨u1, u2, rfl, h1, h2, h3⟩
  generalize StoP w ⟨step, phase, false, true, vs, List.replicate vs.length []⟩ = P at *
  obtain ⟨W0, hW0⟩ : ∃ W0, W0 = (w.alloc (.cells #[.int .i64 step, .int .i64 phase, .bool false, .bool true, .slice va vs.length vc, vm] 42)).alloc (.cells #[.int .i64 0, .int .i64 0, .bool false, .bool false, .slice none 0 0, .slice none 0 0] 42) := ⟨_, rfl⟩
  obtain ⟨Q0, T0, B0, s1, s2⟩ := boxes2 w #[.int .i64 step, .int .i64 phase, .bool false, .bool true, .slice va vs.length vc, vm] #[.int .i64 0, .int .i64 0, .bool false, .bool false, .slice none 0 0, .slice none 0 0] 42 42 W0 hW0
  have BH : Hid (Below w.heap.size w W0) := B0
  have Z0 : Hid (BX 42 W0 (w.heap.size + 1) #[.int .i64 0, .int .i64 0, .bool false, .bool false, .slice none 0 0, .slice none 0 0]) := T0
  have X0 : Hid (BX 42 W0 w.heap.size #[.int .i64 step, .int .i64 phase, .bool false, .bool true, .slice va vs.length vc, vm]) := Q0
  obtain ⟨⟨c0, c1, c2, c3, c4, c5⟩, _⟩ := Q0.all6
  obtain ⟨w1, mk, ov, hb1⟩ := make_vals W0 vs.length (by omega)
  have x1 : BX 42 w1 w.heap.size #[.int .i64 step, .int .i64 phase, .bool false, .bool true, .slice va vs.length vc, vm] := Q0.below hb1 (by omega)
  have hr1 : MlR w1 (.slice va vs.length vc) vs := HV.out.below (B0.trans (hb1.mono (by omega))) (Nat.le_refl _)
  obtain ⟨w2, hcp, ov2, kp2⟩ := copy_vals 3 ov hr1 rfl
  obtain ⟨g1, hg1⟩ : ∃ g1, W0.heap.size = g1 := ⟨_, rfl⟩
  have hgl : w.heap.size + 2 ≤ g1 := by omega
  have K2 : Hid (Kept (fun k => k = g1) W0 w2) := (Kept.of hb1).trans (kp2.mono fun k hk => hk.trans hg1)
  have V2 : Hid (w2.ownsRow W0.heap.size 53 2 (.slice (some ⟨g1, 0, none⟩) vs.length vs.length) vs.length (vs.flatMap encM)) := by
    have := ov2
    rw [hg1] at this ⊢
    exact this
  have KEEP : Hid (∀ V, Kept (fun k => k = g1) W0 V → (V.cell? ⟨w.heap.size, 0, none⟩ = some (.int .i64 step) ∧ V.cell? ⟨w.heap.size, 1, none⟩ = some (.int .i64 phase))) := fun V hV => by
    obtain ⟨⟨c0, c1, c2, c3, c4, c5⟩, _⟩ := (X0.out.kept hV (by omega)).all6
    exact ⟨c0, c1⟩
  obtain ⟨⟨d0, d1, d2, d3, d4, d5⟩, _⟩ := x1.all6
  clear Q0 T0 B0 ov hb1 x1 hr1 ov2 kp2
  rw [hg1] at mk hcp
  go_enter Try.func37, Try.ntmps37
  go_upto_region 1 with fail
  rw [← hW0]
  clear hW0
  go_upto_region 2 with fail
  go_upto_region 3 with (at_builtin; refine Lib.wpList_copy_run _ rfl _ _ 39 39 rfl _ _ rfl rfl hcp ?_)
  clear c0 c1 c2 c3 c4 c5 d0 d1 d2 d3 d4 d5 mk hcp
  have HS0 : Hid (w2.drew.cell? ⟨w.heap.size, 0, none⟩ = some (.int .i64 step) ∧ w2.drew.cell? ⟨w.heap.size, 1, none⟩ = some (.int .i64 phase)) := KEEP.out w2.drew (K2.out.trans (Kept.refl _ w2).drew)
  refine region_lastF (S := fun V => (V.cell? ⟨w.heap.size, 0, none⟩ = some (.int .i64 step) ∧ V.cell? ⟨w.heap.size, 1, none⟩ = some (.int .i64 phase))) (by kernel_rfl) rfl (by kernel_rfl) (by kernel_rfl) ?_
  simp only [List.pop_toArray, List.dropLast_cons_cons, List.dropLast_singleton, List.size_toArray, List.length_cons, List.length_nil, Nat.reduceAdd]
  refine takeH (i := 0) (v := .pointer (some ⟨w.heap.size, 0, none⟩)) (d := 12) rfl rfl (by kernel_rfl) (by kernel_rfl) (by kernel_rfl) (fun _ _ _ h => h) (by rfl) (fun V hV => by obtain ⟨v1, v2⟩ := hV; go_simp) HS0.out ?_
  simp only [Act.put, List.setIfInBounds_toArray, List.set_cons_zero, List.set_cons_succ]
  refine takeH (i := 1) (v := .int .i64 step) (d := 13) rfl rfl (by kernel_rfl) (by kernel_rfl) (by kernel_rfl) (fun _ _ _ h => h) (by rfl) (fun V hV => by obtain ⟨v1, v2⟩ := hV; go_simp) HS0.out ?_
  simp only [Act.put, List.setIfInBounds_toArray, List.set_cons_zero, List.set_cons_succ]
  refine takeH (i := 2) (v := .pointer (some ⟨w.heap.size, 1, none⟩)) (d := 14) rfl rfl (by kernel_rfl) (by kernel_rfl) (by kernel_rfl) (fun _ _ _ h => h) (by rfl) (fun V hV => by obtain ⟨v1, v2⟩ := hV; go_simp) HS0.out ?_
  simp only [Act.put, List.setIfInBounds_toArray, List.set_cons_zero, List.set_cons_succ]
  refine takeH (i := 3) (v := .int .i64 phase) (d := 15) rfl rfl (by kernel_rfl) (by kernel_rfl) (by kernel_rfl) (fun _ _ _ h => h) (by rfl) (fun V hV => by obtain ⟨v1, v2⟩ := hV; go_simp) HS0.out ?_
  simp only [Act.put, List.setIfInBounds_toArray, List.set_cons_zero, List.set_cons_succ]
  refine takeH (i := 4) (v := .slice (some ⟨g1, 0, none⟩) vs.length vs.length) (d := 16) rfl rfl (by kernel_rfl) (by kernel_rfl) (by kernel_rfl) (fun _ _ _ h => h) (by rfl) (fun V hV => by obtain ⟨v1, v2⟩ := hV; go_simp) HS0.out ?_
  simp only [Act.put, List.setIfInBounds_toArray, List.set_cons_zero, List.set_cons_succ]
  refine takeH (i := 5) (v := .slice (some ⟨g1, 0, none⟩) vs.length vs.length) (d := 17) rfl rfl (by kernel_rfl) (by kernel_rfl) (by kernel_rfl) (fun _ _ _ h => h) (by rfl) (fun V hV => by obtain ⟨v1, v2⟩ := hV; go_simp) HS0.out ?_
  simp only [Act.put, List.setIfInBounds_toArray, List.set_cons_zero, List.set_cons_succ]
  refine takeH (i := 6) (v := .int .i64 (vs.length : Int)) (d := 18) rfl rfl (by kernel_rfl) (by kernel_rfl) (by kernel_rfl) (fun _ _ _ h => h) (by rfl) (fun V hV => by obtain ⟨v1, v2⟩ := hV; go_simp) HS0.out ?_
  simp only [Act.put, List.setIfInBounds_toArray, List.set_cons_zero, List.set_cons_succ]
  obtain ⟨X1, mk1, ot1, hb1⟩ := make_tbi w2.drew vs.length (by omega)
  have k1 : Kept (fun k => k = g1) W0 X1 := K2.out.trans ((Kept.refl _ w2).drew.trans (.of hb1))
  have HS1 : Hid (X1.cell? ⟨w.heap.size, 0, none⟩ = some (.int .i64 step) ∧ X1.cell? ⟨w.heap.size, 1, none⟩ = some (.int .i64 phase)) := KEEP.out X1 k1
  refine oneH (i := 7) rfl (by kernel_rfl) rfl (op_run (d := 19) (v' := .slice (some ⟨w2.drew.heap.size, 0, none⟩) vs.length vs.length) (w' := X1) rfl (by go_simp) ⟨HS1.out, ?_⟩)
  simp only [Act.put, List.setIfInBounds_toArray, List.set_cons_zero, List.set_cons_succ]
  refine takeH (i := 8) (v := .agg #[.int .i64 step, .int .i64 phase, .bool false, .bool true, .slice (some ⟨g1, 0, none⟩) vs.length vs.length, .slice (some ⟨w2.drew.heap.size, 0, none⟩) vs.length vs.length]) (d := 20) rfl rfl (by kernel_rfl) (by kernel_rfl) (by kernel_rfl) (fun _ _ _ h => h) (by rfl) (fun V hV => by obtain ⟨v1, v2⟩ := hV; go_simp) HS1.out ?_
  simp only [Act.put, List.setIfInBounds_toArray, List.set_cons_zero, List.set_cons_succ]
  refine wpAnyH_done (by kernel_rfl) ?_ _
  show Oper.wp _ _ _ _ _ _
  have z1 : BX 42 X1 (w.heap.size + 1) #[.int .i64 0, .int .i64 0, .bool false, .bool false, .slice none 0 0, .slice none 0 0] := Z0.out.kept k1 (by omega)
  have o1 : X1.ownsRow W0.heap.size 53 2 (.slice (some ⟨g1, 0, none⟩) vs.length vs.length) vs.length (vs.flatMap encM) := own_below V2.out ((Below.refl _ w2).drew.trans hb1) (Nat.le_refl _)
  obtain ⟨⟨d0, d1, d2, d3, d4, d5⟩, e0, e1, e2, e3, e4, e5⟩ := z1.all6
  refine op_skip (w' := put6 X1 (w.heap.size + 1) (.int .i64 step) (.int .i64 phase) (.bool false) (.bool true) (.slice (some ⟨g1, 0, none⟩) vs.length vs.length) (.slice (some ⟨w2.drew.heap.size, 0, none⟩) vs.length vs.length)) rfl (by unfold put6; go_simp) ?_
  have RX : Hid (BX 42 (put6 X1 (w.heap.size + 1) (.int .i64 step) (.int .i64 phase) (.bool false) (.bool true) (.slice (some ⟨g1, 0, none⟩) vs.length vs.length) (.slice (some ⟨w2.drew.heap.size, 0, none⟩) vs.length vs.length)) (w.heap.size + 1) #[.int .i64 step, .int .i64 phase, .bool false, .bool true, .slice (some ⟨g1, 0, none⟩) vs.length vs.length, .slice (some ⟨w2.drew.heap.size, 0, none⟩) vs.length vs.length]) := z1.put6
  have HE : Hid (P (.returned (.agg #[.int .i64 step, .int .i64 phase, .bool false, .bool true, .slice (some ⟨g1, 0, none⟩) vs.length vs.length, .slice (some ⟨w2.drew.heap.size, 0, none⟩) vs.length vs.length])) (put6 X1 (w.heap.size + 1) (.int .i64 step) (.int .i64 phase) (.bool false) (.bool true) (.slice (some ⟨g1, 0, none⟩) vs.length vs.length) (.slice (some ⟨w2.drew.heap.size, 0, none⟩) vs.length vs.length))) := by
    refine HP.out _ _ _ ?_ ?_ ?_
    · exact own_lower (own_off o1 z1 (by decide) (kept_put6 X1 (w.heap.size + 1) _ _ _ _ _ _)) (by omega)
    · have hz : w2.drew.heap.size = w2.heap.size := rfl
      have hz2 := K2.out.size
      exact (ot1.own.off z1 (by decide) (by decide) (kept_put6 X1 (w.heap.size + 1) _ _ _ _ _ _)).lower (by omega)
    · exact below_put6 (BH.out.trans (k1.below (by omega) (fun k hk => by omega))) (by omega) z1.lt _ _ _ _ _ _
  clear d0 d1 d2 d3 d4 d5 e0 e1 e2 e3 e4 e5 z1 o1 k1 HS1 ot1 hb1 mk1
  generalize put6 X1 (w.heap.size + 1) (.int .i64 step) (.int .i64 phase) (.bool false) (.bool true) (.slice (some ⟨g1, 0, none⟩) vs.length vs.length) (.slice (some ⟨w2.drew.heap.size, 0, none⟩) vs.length vs.length) = X at *
  go_wp2_with fail
  obtain ⟨⟨r0, r1, r2, r3, r4, r5⟩, _⟩ := RX.out.all6
  exact bodyPost_ret (v := .agg #[.int .i64 step, .int .i64 phase, .bool false, .bool true, .slice (some ⟨g1, 0, none⟩) vs.length vs.length, .slice (some ⟨w2.drew.heap.size, 0, none⟩) vs.length vs.length]) (by simp [results, Try.results37, go_sem, r0, r1, r2, r3, r4, r5]) rfl HE.out
end Go.Proofs.Ytinijeejfnehmaa

namespace Go.Proofs.Ytinijeejfnehmaa
set_option maxRecDepth 100000
open Go.ChangeShapes Go.WideShapes Go.ChangeAt Go.RowKit

/-- No mail: lists of nothing. -/
theorem mail_none {ms : List (List Int)} (h : ¬ 0 < manyL ms) : ms = List.replicate ms.length [] := by
  refine List.ext_getElem? fun i => ?_
  rcases Nat.lt_or_ge i ms.length with hi | hi
  · rw [List.getElem?_eq_getElem hi, List.getElem?_replicate, if_pos hi]
    congr 1
    exact manyL_zero.1 (by omega) _ (List.getElem_mem hi)
  · rw [List.getElem?_eq_none hi, List.getElem?_eq_none (by simpa using hi)]
theorem job_of {k p : Int} {j : Jb} (h : jobF k p = some j) : k = Jb.k j ∧ p = Jb.p j := by
  rcases jobF_cases k p with hn | ⟨j', h1, h2⟩
  · rw [hn.1] at h; cases h
  · have h3 := jobF_of j'
    rw [← h1, ← h2, h] at h3
    injection h3 with h3
    subst h3
    exact ⟨h1, h2⟩

set_option maxHeartbeats 4000000 in
set_option maxRecDepth 100000 in
theorem after_any (v : Value) (es : List Ed) (n k s : Int) (T : StS) (vv vm : Value) (w : World) (h : EdR w v es) (hv : MlR w vv T.vals) (hm : LiR w vm T.mail) (hje : jobE n es k s = 0) (hmay : mayR n.toNat k T = true) :
    Calls Try.prog 25 #[.agg #[.int .i64 n, v, .int .i64 k, .int .i64 s], .agg #[.int .i64 T.step, .int .i64 T.phase, .bool T.fresh, .bool T.done, vv, vm]] w (StaP w (folE n es k s T)) := by
  have HR : Hid (EdR w v es) := h
  obtain ⟨a, cap, rfl, _, _, _, _⟩ := h
  have HV : Hid (MlR w vv T.vals) := hv
  have HM : Hid (LiR w vm T.mail) := hm
  obtain ⟨va, vc, rfl, hvc, hvm, _, _⟩ := hv
  obtain ⟨ma, mc, rfl, hmc, hmm, _⟩ := hm
  obtain ⟨hf, hk3, _⟩ := jobE_zero hje
  obtain ⟨hn0, hn1, hel, hed⟩ := fault_ok hf
  obtain ⟨m, rfl⟩ : ∃ m : Nat, n = m := ⟨n.toNat, by omega⟩
  rw [Int.toNat_natCast] at hmay
  obtain ⟨j, hj, hI⟩ := mayR_iff.1 hmay
  obtain ⟨hkj, hpj⟩ := job_of hj
  have HG : InG m es := fun e he => by have := in_of_out (hed e he); exact ⟨this.1, this.2.1, this.2.2.1, this.2.2.2.1, this.2.2.2.2.1⟩
  have HDN : Hid (T.done = true → folE m es k s T = (0, T) ∧ T.fresh = false ∧ T.mail = List.replicate T.vals.length []) := fun hd => by
    refine ⟨folE_done hje (by rw [Int.toNat_natCast]; exact hmay) hd, ?_, ?_⟩
    · cases hfr : T.fresh
      · rfl
      · exact absurd ⟨hfr, hd⟩ hI.fd
    · have h0 : ¬ 0 < manyL T.mail := fun g => by have := (hI.no g).2; rw [hd] at this; cases this
      have := mail_none h0
      rw [hI.lm] at this
      rw [hI.lv]
      exact this
  have HFU : Hid (T.done = false → 100000 ≤ T.step → folE m es k s T = (10, st0)) := fun h1 h2 => folE_full hje (by rw [Int.toNat_natCast]; exact hmay) h1 h2
  have HOV : Hid (T.done = false → ¬ 100000 ≤ T.step → overR j (rndV j s T) es = true → folE m es k s T = (6, st0)) := fun h1 h2 h3 => folE_over hje (by rw [Int.toNat_natCast]; exact hmay) h1 h2 hj h3
  have HGO : Hid (T.done = false → ¬ 100000 ≤ T.step → overR j (rndV j s T) es = false → folE m es k s T = (0, nextS m es j s T)) := fun h1 h2 h3 => by
    have := folE_go hje (by rw [Int.toNat_natCast]; exact hmay) h1 h2 hj h3
    rw [Int.toNat_natCast] at this
    exact this
  have CWK : Hid (∀ X, MlR X (.slice va T.vals.length vc) T.vals → LiR X (.slice ma T.mail.length mc) T.mail → Calls Try.prog 38 #[.agg #[.int .i64 (m : Int), .slice a es.length cap, .int .i64 k, .int .i64 s], .agg #[.int .i64 T.step, .int .i64 T.phase, .bool T.fresh, .bool T.done, .slice va T.vals.length vc, .slice ma T.mail.length mc]] X (WknP X m (rndV j s T))) := fun X h1 h2 => rWoken_any a es.length cap m (m : Int) k s j T _ _ X h1 h2 hj hI (by omega)
  have CAG : Hid (T.done = true → ∀ X, MlR X (.slice va T.vals.length vc) T.vals → Calls Try.prog 37 #[.agg #[.int .i64 T.step, .int .i64 T.phase, .bool false, .bool true, .slice va T.vals.length vc, .slice ma T.mail.length mc]] X (StoP X ⟨T.step, T.phase, false, true, T.vals, List.replicate T.vals.length []⟩)) := fun _ X h1 => again_any T.step T.phase T.vals _ _ X ⟨_, _, _, rfl⟩ h1 (by have := hI.lv; omega)
  have hrr : ∀ u : Int, 0 ≤ u ∧ u < (m : Int) → valB j (rndV j s T u).1 = true ∧ ((rndV j s T u).2 = true → 0 ≤ (rndV j s T u).1.1) := fun u hu => hI.rnd (by omega) hu
  have CSN : Hid (∀ X v1 v2, EdR X (.slice a es.length cap) es → MlR X v1 (valsR m (rndV j s T)) → BlR X v2 (sdR m (rndV j s T) m) → Calls Try.prog 39 #[.agg #[.int .i64 (m : Int), .slice a es.length cap, .int .i64 k, .int .i64 s], .int .i64 T.phase, v1, v2] X (SntP X m j (rndV j s T) es)) := fun X v1 v2 h0 h1 h2 => sent_any _ es m k s T.phase j (rndV j s T) v1 v2 X h0 HG (fun e he => (in_of_out (hed e he)).2.2.2.2) hkj hpj (by omega) (by omega) hrr h1 h2
  have CST : Hid (∀ X v1 v2, MlR X v1 (valsR m (rndV j s T)) → LiR X v2 (mailR m j (rndV j s T) es) → Calls Try.prog 40 #[.int .i64 k, .agg #[.int .i64 (T.step + 1), .int .i64 T.phase, .bool false, .bool false, v1, v2]] X (SetP X (nextS m es j s T) v1 v2)) := fun X v1 v2 h1 h2 => settled_any j k T.step (T.step + 1) T.phase (valsR m (rndV j s T)) (mailR m j (rndV j s T) es) v1 v2 X hkj hpj rfl h1 h2 (fun x hx => by
    obtain ⟨i, hi, rfl⟩ := List.getElem_of_mem hx
    have hi' : i < m := by rw [valsR_len] at hi; exact hi
    have h3 := valsR_at (r := rndV j s T) hi'
    rw [List.getElem?_eq_getElem hi] at h3
    injection h3 with h3
    rw [h3]
    exact (valB_iff.1 (hrr (i : Int) (by omega)).1).2.1)
  have HNV : Hid ((nextS m es j s T).vals = valsR m (rndV j s T) ∧ (nextS m es j s T).mail = mailR m j (rndV j s T) es) := (behR_step j T.step T.phase _ _).2
  have HST : Hid (0 ≤ T.step ∧ T.step ≤ 100000) := hI.stp
  have HLN : Hid ((valsR m (rndV j s T)).length = m) := valsR_len _ _
  have HLS : Hid ((sdR m (rndV j s T) m).length = m) := sdR_len _ _ _
  clear hf hk3 hel hed hmay hj hI hkj hpj HG hrr hje
  generalize nextS m es j s T = NX at *
  generalize folE m es k s T = R at *
  generalize rndV j s T = r at *
  obtain ⟨step, phase, fr, dn, vs, ms⟩ := T
  simp only at HV HM hvc hvm hmc hmm HDN HFU HOV HGO CWK CAG CSN CST HST ⊢
  have hst := HST.out
  obtain ⟨W0, hW0⟩ : ∃ W0, W0 = ((w.alloc (.cells #[.int .i64 (m : Int), .slice a es.length cap, .int .i64 k, .int .i64 s] 26)).alloc (.cells #[.int .i64 step, .int .i64 phase, .bool fr, .bool dn, .slice va vs.length vc, .slice ma ms.length mc] 42)).alloc (.cells #[.int .i64 0, .int .i64 0, .bool false, .bool false, .slice none 0 0, .slice none 0 0] 42) := ⟨_, rfl⟩
  obtain ⟨Q0, T0, Z0, B0, s1, s2⟩ := boxes3 w #[.int .i64 (m : Int), .slice a es.length cap, .int .i64 k, .int .i64 s] #[.int .i64 step, .int .i64 phase, .bool fr, .bool dn, .slice va vs.length vc, .slice ma ms.length mc] #[.int .i64 0, .int .i64 0, .bool false, .bool false, .slice none 0 0, .slice none 0 0] 26 42 42 W0 hW0
  have BH : Hid (Below w.heap.size w W0) := B0
  have HK : Hid (∀ X, Below W0.heap.size W0 X → BX 26 X w.heap.size #[.int .i64 (m : Int), .slice a es.length cap, .int .i64 k, .int .i64 s] ∧ BX 42 X (w.heap.size + 1) #[.int .i64 step, .int .i64 phase, .bool fr, .bool dn, .slice va vs.length vc, .slice ma ms.length mc] ∧ BX 42 X (w.heap.size + 2) #[.int .i64 0, .int .i64 0, .bool false, .bool false, .slice none 0 0, .slice none 0 0] ∧ Below w.heap.size w X) := fun X hX => ⟨Q0.below hX (by omega), T0.below hX (by omega), Z0.below hX (by omega), BH.out.trans (hX.mono (by omega))⟩
  have HNO : Hid (∀ X f, Below W0.heap.size W0 X → R = (f, st0) → BX 42 (put6 X (w.heap.size + 2) (.int .i64 0) (.int .i64 0) (.bool false) (.bool false) (.slice none 0 0) (.slice none 0 0)) (w.heap.size + 2) #[.int .i64 0, .int .i64 0, .bool false, .bool false, .slice none 0 0, .slice none 0 0] ∧ StaP w R (.returned (.tuple #[.agg #[.int .i64 0, .int .i64 0, .bool false, .bool false, .slice none 0 0, .slice none 0 0], .int .i64 f])) (put6 X (w.heap.size + 2) (.int .i64 0) (.int .i64 0) (.bool false) (.bool false) (.slice none 0 0) (.slice none 0 0))) := fun X f hX hR => by
    obtain ⟨_, _, Z1, b1⟩ := HK.out X hX
    refine ⟨Z1.put6, ?_⟩
    rw [hR]
    exact StaP.no (below_put6 b1 (by omega) Z1.lt _ _ _ _ _ _)
  have HYE : Hid (∀ X (t : StS) v1 v2, Below W0.heap.size W0 X → R = (0, t) → X.ownsRow W0.heap.size 53 2 v1 t.vals.length (t.vals.flatMap encM) → OwnLi X W0.heap.size v2 t.mail → BX 42 (put6 X (w.heap.size + 2) (.int .i64 t.step) (.int .i64 t.phase) (.bool t.fresh) (.bool t.done) v1 v2) (w.heap.size + 2) #[.int .i64 t.step, .int .i64 t.phase, .bool t.fresh, .bool t.done, v1, v2] ∧ StaP w R (.returned (.tuple #[.agg #[.int .i64 t.step, .int .i64 t.phase, .bool t.fresh, .bool t.done, v1, v2], .int .i64 0])) (put6 X (w.heap.size + 2) (.int .i64 t.step) (.int .i64 t.phase) (.bool t.fresh) (.bool t.done) v1 v2)) := fun X t v1 v2 hX hR h1 h2 => by
    obtain ⟨_, _, Z1, b1⟩ := HK.out X hX
    refine ⟨Z1.put6, ?_⟩
    rw [hR]
    exact StaP.yes (t := t) (own_lower (own_off h1 Z1 (by decide) (kept_put6 X (w.heap.size + 2) _ _ _ _ _ _)) (by omega)) ((h2.off Z1 (by decide) (by decide) (kept_put6 X (w.heap.size + 2) _ _ _ _ _ _)).lower (by omega)) (below_put6 b1 (by omega) Z1.lt _ _ _ _ _ _)
  have R0 : Hid (∀ X, Below W0.heap.size W0 X → EdR X (.slice a es.length cap) es ∧ MlR X (.slice va vs.length vc) vs ∧ LiR X (.slice ma ms.length mc) ms) := fun X hX => ⟨HR.out.below (HK.out _ hX).2.2.2 (Nat.le_refl _), HV.out.below (HK.out _ hX).2.2.2 (Nat.le_refl _), HM.out.below (HK.out _ hX).2.2.2 (Nat.le_refl _)⟩
  obtain ⟨q0, q1, q2, q3⟩ := Q0.all4
  obtain ⟨⟨c0, c1, c2, c3, c4, c5⟩, _⟩ := T0.all6
  obtain ⟨⟨d0, d1, d2, d3, d4, d5⟩, e0, e1, e2, e3, e4, e5⟩ := Z0.all6
  have A0 : Hid (Below W0.heap.size W0 W0) := Below.refl _ _
  have ML0 : Hid (MlR W0 (.slice va vs.length vc) vs) := (R0.out _ A0.out).2.1
  have LI0 : Hid (LiR W0 (.slice ma ms.length mc) ms) := (R0.out _ A0.out).2.2
  clear Q0 T0 Z0 B0
  cases dn
  · by_cases h5 : step = 100000
    · obtain ⟨rx, hp⟩ := HNO.out _ 10 A0.out (HFU.out rfl (by omega))
      have HP : Hid (StaP w R (.returned (.tuple #[.agg #[.int .i64 0, .int .i64 0, .bool false, .bool false, .slice none 0 0, .slice none 0 0], .int .i64 10])) (put6 W0 (w.heap.size + 2) (.int .i64 0) (.int .i64 0) (.bool false) (.bool false) (.slice none 0 0) (.slice none 0 0))) := hp
      have RX : Hid (BX 42 (put6 W0 (w.heap.size + 2) (.int .i64 0) (.int .i64 0) (.bool false) (.bool false) (.slice none 0 0) (.slice none 0 0)) (w.heap.size + 2) #[.int .i64 0, .int .i64 0, .bool false, .bool false, .slice none 0 0, .slice none 0 0]) := rx
      have t5 : (step == 100000) = true := by simpa using h5
      clear hp rx h5
      go_enter Try.func25, Try.ntmps25
      go_upto_region 1 with fail
      rw [← hW0]
      clear hW0
      go_wp2_with fail
      obtain ⟨⟨r0, r1, r2, r3, r4, r5⟩, _⟩ := RX.out.all6
      unfold put6 at r0 r1 r2 r3 r4 r5
      exact bodyPost_ret (v := .tuple #[.agg #[.int .i64 0, .int .i64 0, .bool false, .bool false, .slice none 0 0, .slice none 0 0], .int .i64 10]) (by simp [results, Try.results25, go_sem, r0, r1, r2, r3, r4, r5]) rfl HP.out
    · have t5 : (step == 100000) = false := by simpa using h5
      have wn : IntKind.i64.wrap (step + 1) = step + 1 := wrap_id64 (by omega) (by omega)
      have h6 : ¬ 100000 ≤ step := by omega
      have HO2 : Hid (overR j r es = true → R = (6, st0)) := HOV.out rfl h6
      have HG2 : Hid (overR j r es = false → R = (0, NX)) := HGO.out rfl h6
      clear h5 HFU HOV HGO HDN CAG h6
      go_enter Try.func25, Try.ntmps25
      go_upto_region 1 with fail
      rw [← hW0]
      clear hW0
      go_wp2_with fail
      refine (CWK.out _ ML0.out LI0.out).mono ?_
      rintro e w1 ⟨v1, v2, rfl, hv1, hv2, hb1⟩
      have A1 : Hid (Below W0.heap.size W0 w1) := hb1
      have V1 : Hid (w1.ownsRow W0.heap.size 53 2 v1 m ((valsR m r).flatMap encM)) := hv1
      have V2 : Hid (w1.ownsRow W0.heap.size 4 1 v2 m ((sdR m r m).flatMap encT)) := hv2
      obtain ⟨Q1, T1, Z1, _⟩ := HK.out _ hb1
      clear q0 q1 q2 q3 c0 c1 c2 c3 c4 c5 d0 d1 d2 d3 d4 d5 e0 e1 e2 e3 e4 e5
      obtain ⟨q0, q1, q2, q3⟩ := Q1.all4
      obtain ⟨⟨c0, c1, c2, c3, c4, c5⟩, _⟩ := T1.all6
      obtain ⟨a1, n1, k1, rfl⟩ : ∃ a n c, v1 = .slice a n c := by
        rcases own_shapeK hv1 with ⟨e, _⟩ | ⟨g', c', e, _⟩
        · exact ⟨_, _, _, e⟩
        · exact ⟨_, _, _, e⟩
      obtain ⟨a2, n2, k2, rfl⟩ : ∃ a n c, v2 = .slice a n c := by
        rcases own_shapeK hv2 with ⟨e, _⟩ | ⟨g', c', e, _⟩
        · exact ⟨_, _, _, e⟩
        · exact ⟨_, _, _, e⟩
      have M1 : Hid (MlR w1 (.slice a1 n1 k1) (valsR m r)) := RowK.own encM_len (by rw [HLN.out]; exact hv1)
      have M2 : Hid (BlR w1 (.slice a2 n2 k2) (sdR m r m)) := RowK.own encT_len (by rw [HLS.out]; exact hv2)
      clear Q1 T1 Z1 hv1 hv2 hb1 CWK ML0 LI0
      go_wp2_with fail
      refine (CSN.out _ _ _ (R0.out _ A1.out).1 M1.out M2.out).mono ?_
      rintro e w2 ⟨hor, hb2⟩
      have A2 : Hid (Below W0.heap.size W0 w2) := A1.out.trans (hb2.mono A1.out.size)
      have V3 : Hid (w2.ownsRow W0.heap.size 53 2 (.slice a1 n1 k1) m ((valsR m r).flatMap encM)) := own_below V1.out hb2 (Nat.le_refl _)
      obtain ⟨Q2, T2, Z2, _⟩ := HK.out _ A2.out
      clear q0 q1 q2 q3 c0 c1 c2 c3 c4 c5
      obtain ⟨q0, q1, q2, q3⟩ := Q2.all4
      obtain ⟨⟨c0, c1, c2, c3, c4, c5⟩, _⟩ := T2.all6
      obtain ⟨⟨d0, d1, d2, d3, d4, d5⟩, e0, e1, e2, e3, e4, e5⟩ := Z2.all6
      clear Q2 T2 Z2 CSN
      rcases hor with ⟨ho, rfl⟩ | ⟨ho, v3, rfl, hv3⟩
      · obtain ⟨rx, hp⟩ := HNO.out _ 6 A2.out (HO2.out ho)
        have HP : Hid (StaP w R (.returned (.tuple #[.agg #[.int .i64 0, .int .i64 0, .bool false, .bool false, .slice none 0 0, .slice none 0 0], .int .i64 6])) (put6 w2 (w.heap.size + 2) (.int .i64 0) (.int .i64 0) (.bool false) (.bool false) (.slice none 0 0) (.slice none 0 0))) := hp
        have RX : Hid (BX 42 (put6 w2 (w.heap.size + 2) (.int .i64 0) (.int .i64 0) (.bool false) (.bool false) (.slice none 0 0) (.slice none 0 0)) (w.heap.size + 2) #[.int .i64 0, .int .i64 0, .bool false, .bool false, .slice none 0 0, .slice none 0 0]) := rx
        clear ho hp rx hb2
        go_wp2_with fail
        obtain ⟨⟨r0, r1, r2, r3, r4, r5⟩, _⟩ := RX.out.all6
        unfold put6 at r0 r1 r2 r3 r4 r5
        exact bodyPost_ret (v := .tuple #[.agg #[.int .i64 0, .int .i64 0, .bool false, .bool false, .slice none 0 0, .slice none 0 0], .int .i64 6]) (by simp [results, Try.results25, go_sem, r0, r1, r2, r3, r4, r5]) rfl HP.out
      · have HRR : Hid (R = (0, NX)) := HG2.out ho
        have V4 : Hid (OwnLi w2 W0.heap.size v3 (mailR m j r es)) := hv3.lower A1.out.size
        have L3 : Hid (LiR w2 v3 (mailR m j r es)) := hv3.reads
        have M3 : Hid (MlR w2 (.slice a1 n1 k1) (valsR m r)) := M1.out.below hb2 (Nat.le_refl _)
        obtain ⟨a3, k3, rfl⟩ := hv3.shape
        clear ho hv3 hb2 HO2 HG2
        go_wp2_with fail
        refine (CST.out _ _ _ M3.out L3.out).mono ?_
        rintro e w3 ⟨rfl, hb3⟩
        have A3 : Hid (Below W0.heap.size W0 w3) := A2.out.trans (hb3.mono A2.out.size)
        have V5 : Hid (w3.ownsRow W0.heap.size 53 2 (.slice a1 n1 k1) NX.vals.length (NX.vals.flatMap encM)) := by
          show World.ownsRow _ _ _ _ _ _ _
          rw [HNV.out.1, HLN.out]; exact own_below V3.out hb3 (Nat.le_refl _)
        have V6 : Hid (OwnLi w3 W0.heap.size (.slice a3 (mailR m j r es).length k3) NX.mail) := by
          show OwnLi _ _ _ _
          rw [HNV.out.2]; exact V4.out.below hb3 (Nat.le_refl _)
        obtain ⟨rx, hp⟩ := HYE.out _ NX _ _ A3.out HRR.out V5.out V6.out
        obtain ⟨Q3, T3, Z3, _⟩ := HK.out _ A3.out
        clear q0 q1 q2 q3 c0 c1 c2 c3 c4 c5 d0 d1 d2 d3 d4 d5 e0 e1 e2 e3 e4 e5
        obtain ⟨⟨d0, d1, d2, d3, d4, d5⟩, e0, e1, e2, e3, e4, e5⟩ := Z3.all6
        obtain ⟨nst, nph, nfr, ndn, nvs, nms⟩ := NX
        simp only at rx hp ⊢
        have HP : Hid (StaP w R (.returned (.tuple #[.agg #[.int .i64 nst, .int .i64 nph, .bool nfr, .bool ndn, .slice a1 n1 k1, .slice a3 (mailR m j r es).length k3], .int .i64 0])) (put6 w3 (w.heap.size + 2) (.int .i64 nst) (.int .i64 nph) (.bool nfr) (.bool ndn) (.slice a1 n1 k1) (.slice a3 (mailR m j r es).length k3))) := hp
        have RX : Hid (BX 42 (put6 w3 (w.heap.size + 2) (.int .i64 nst) (.int .i64 nph) (.bool nfr) (.bool ndn) (.slice a1 n1 k1) (.slice a3 (mailR m j r es).length k3)) (w.heap.size + 2) #[.int .i64 nst, .int .i64 nph, .bool nfr, .bool ndn, .slice a1 n1 k1, .slice a3 (mailR m j r es).length k3]) := rx
        clear hp rx hb3 Q3 T3 Z3
        go_wp2_with fail
        obtain ⟨⟨r0, r1, r2, r3, r4, r5⟩, _⟩ := RX.out.all6
        unfold put6 at r0 r1 r2 r3 r4 r5
        exact bodyPost_ret (v := .tuple #[.agg #[.int .i64 nst, .int .i64 nph, .bool nfr, .bool ndn, .slice a1 n1 k1, .slice a3 (mailR m j r es).length k3], .int .i64 0]) (by simp [results, Try.results25, go_sem, r0, r1, r2, r3, r4, r5]) rfl HP.out
  · obtain ⟨hR, hfr, hms⟩ := HDN.out rfl
    subst hfr
    have HRR : Hid (R = (0, ⟨step, phase, false, true, vs, ms⟩)) := hR
    have HMS : Hid (ms = List.replicate vs.length []) := hms
    have CA2 : Hid (∀ X, MlR X (.slice va vs.length vc) vs → Calls Try.prog 37 #[.agg #[.int .i64 step, .int .i64 phase, .bool false, .bool true, .slice va vs.length vc, .slice ma ms.length mc]] X (StoP X ⟨step, phase, false, true, vs, List.replicate vs.length []⟩)) := CAG.out rfl
    clear hR hms HDN HFU HOV HGO CAG
    go_enter Try.func25, Try.ntmps25
    go_upto_region 1 with fail
    rw [← hW0]
    clear hW0
    go_wp2_with fail
    refine (CA2.out _ ML0.out).mono ?_
    rintro e w1 ⟨v1, v2, rfl, hv1, hv2, hb1⟩
    simp only at hv1 hv2 ⊢
    replace hv2 : OwnLi w1 W0.heap.size v2 ms := by rw [HMS.out]; exact hv2
    clear HMS
    obtain ⟨rx, hp⟩ := HYE.out w1 ⟨step, phase, false, true, vs, ms⟩ v1 v2 hb1 HRR.out hv1 hv2
    obtain ⟨Q3, T3, Z3, _⟩ := HK.out _ hb1
    clear q0 q1 q2 q3 c0 c1 c2 c3 c4 c5 d0 d1 d2 d3 d4 d5 e0 e1 e2 e3 e4 e5
    obtain ⟨⟨d0, d1, d2, d3, d4, d5⟩, e0, e1, e2, e3, e4, e5⟩ := Z3.all6
    obtain ⟨a1, n1, k1, rfl⟩ : ∃ a n c, v1 = .slice a n c := by
      rcases own_shapeK hv1 with ⟨e, _⟩ | ⟨g', c', e, _⟩
      · exact ⟨_, _, _, e⟩
      · exact ⟨_, _, _, e⟩
    obtain ⟨a2, k2, rfl⟩ := hv2.shape
    simp only at rx hp
    have HP : Hid (StaP w R (.returned (.tuple #[.agg #[.int .i64 step, .int .i64 phase, .bool false, .bool true, .slice a1 n1 k1, .slice a2 ms.length k2], .int .i64 0])) (put6 w1 (w.heap.size + 2) (.int .i64 step) (.int .i64 phase) (.bool false) (.bool true) (.slice a1 n1 k1) (.slice a2 ms.length k2))) := hp
    have RX : Hid (BX 42 (put6 w1 (w.heap.size + 2) (.int .i64 step) (.int .i64 phase) (.bool false) (.bool true) (.slice a1 n1 k1) (.slice a2 ms.length k2)) (w.heap.size + 2) #[.int .i64 step, .int .i64 phase, .bool false, .bool true, .slice a1 n1 k1, .slice a2 ms.length k2]) := rx
    clear hp rx hb1 Q3 T3 Z3 hv1 hv2
    go_wp2_with fail
    obtain ⟨⟨r0, r1, r2, r3, r4, r5⟩, _⟩ := RX.out.all6
    unfold put6 at r0 r1 r2 r3 r4 r5
    exact bodyPost_ret (v := .tuple #[.agg #[.int .i64 step, .int .i64 phase, .bool false, .bool true, .slice a1 n1 k1, .slice a2 ms.length k2], .int .i64 0]) (by simp [results, Try.results25, go_sem, r0, r1, r2, r3, r4, r5]) rfl HP.out
end Go.Proofs.Ytinijeejfnehmaa

namespace Go.Proofs.Ytinijeejfnehmaa
set_option maxRecDepth 100000
open Go.ChangeShapes Go.WideShapes Go.ChangeAt Go.RowKit

set_option maxHeartbeats 400000 in
theorem lessI_any (x y : Int) (w : World) : Calls Try.prog 55 #[.int .i64 x, .int .i64 y] w fun e w' => e = .returned (.bool (decide (x < y))) ∧ w' = w := by
  have hx : (x != x) = false := by simp
  go_enter Try.func55, Try.ntmps55
  go_wp2
  go_ret
  exact ⟨ret_bool (by simp), rfl⟩
theorem ris_no {l : List Int} {a : Nat} {x y : Int} (hx : l[a]? = some x) (hy : l[a + 1]? = some y) (h : y < x) : risB l = false := by
  rw [Bool.eq_false_iff]
  intro g
  unfold risB at g
  have g2 := of_decide_eq_true g
  obtain ⟨h1, rfl⟩ := List.getElem?_eq_some_iff.1 hx
  obtain ⟨h2, rfl⟩ := List.getElem?_eq_some_iff.1 hy
  have := (List.pairwise_iff_getElem.1 g2) a (a + 1) h1 h2 (by omega)
  omega

set_option maxHeartbeats 800000 in
theorem isSortI_row (b off cap : Nat) (xs : List Int) (w : World) (hn : 0 < xs.length) (hm : xs.length ≤ maxLen) (hb : b < w.heap.size)
    (hcell : ∀ i x, xs[i]? = some x → w.cell? ⟨b, off + i, none⟩ = some (.int .i64 x)) :
    Calls Try.prog 47 #[.slice (some ⟨b, off, none⟩) xs.length cap] w fun e w' => e = .returned (.bool (risB xs)) ∧ Below w.heap.size w w' := by
  unfold maxLen at hm
  have HC : Hid (∀ i x, xs[i]? = some x → w.cell? ⟨b, off + i, none⟩ = some (.int .i64 x)) := hcell
  have HY : Hid ((∀ (a : Nat) (x y : Int), xs[a]? = some x → xs[a + 1]? = some y → x ≤ y) → risB xs = true) := fun h => decide_eq_true (adj_ris h)
  have HN : Hid (∀ (a : Nat) (x y : Int), xs[a]? = some x → xs[a + 1]? = some y → y < x → risB xs = false) := fun a x y h1 h2 h3 => ris_no h1 h2 h3
  generalize risB xs = rb at *
  clear hcell
  go_enter Try.func47, Try.ntmps47
  go_wp2_with fail
  go_loopw [3] (fun i wr => ∃ k : Nat, k < xs.length ∧ i = .int .i64 k ∧ (∀ (a : Nat) (x y : Int), k ≤ a → xs[a]? = some x → xs[a + 1]? = some y → x ≤ y) ∧ Below w.heap.size w wr) (fun i _ => (intOf i).toNat)
  case atStart => exact ⟨xs.length - 1, by omega, by go_num, fun a x y hi hx hy => by have := (List.getElem?_eq_some_iff.1 hy).1; omega, Below.refl _ _⟩
  case round =>
    obtain ⟨k, hk, rfl, hs, hbel⟩ := hrel
    have HS : Hid (∀ (a : Nat) (x y : Int), k ≤ a → xs[a]? = some x → xs[a + 1]? = some y → x ≤ y) := hs
    clear hs
    by_cases hlt : 0 < k
    · obtain ⟨j, rfl⟩ : ∃ j, k = j + 1 := ⟨k - 1, by omega⟩
      obtain ⟨x, hx⟩ := getX hk
      obtain ⟨y, hy⟩ := getX (show j < xs.length by omega)
      have d1 : wr.cell? ⟨b, off + (j + 1), none⟩ = some (.int .i64 x) := (hbel.cell (by exact hb)).trans (HC.out (j + 1) x hx)
      have d2 : wr.cell? ⟨b, off + j, none⟩ = some (.int .i64 y) := (hbel.cell (by exact hb)).trans (HC.out j y hy)
      have HG : Hid (¬ x < y → ∀ (a : Nat) (x y : Int), j ≤ a → xs[a]? = some x → xs[a + 1]? = some y → x ≤ y) := fun h a u v ha hu hv => by
        by_cases e : a = j
        · subst e
          rw [hy] at hu
          rw [hx] at hv
          injection hu with hu
          injection hv with hv
          omega
        · exact HS.out a u v (by omega) hu hv
      have HF : Hid (x < y → rb = false) := fun h => HN.out j y x hy hx h
      have i1 : (j : Int) + 1 < (xs.length : Int) := by omega
      have i2 : (j : Int) < (xs.length : Int) := by omega
      have i3 : (0 : Int) ≤ (j : Int) := by omega
      clear hx hy
      go_wp2_with fail
      go_quiet ((go_at_call 55; exact Calls.quiet_of_same (lessI_any _ _ _)))
      by_cases hxy : x < y
      · have HX : Hid (rb = false) := HF.out hxy
        go_wp2_with fail
        go_ret
        exact ⟨by rw [HX.out]; rfl, below_drewN hbel _⟩
      · have HX : Hid _ := HG.out (by omega)
        go_wp2_with fail
        go_roundw
        case rel => exact ⟨j, by omega, by go_num, HX.out, below_drewN hbel _⟩
        case measure => simp [intOf]
    · have HR : Hid (rb = true) := HY.out fun a x y hx hy => HS.out a x y (by omega) hx hy
      go_wp2_with fail
      go_ret
      exact ⟨by rw [HR.out]; rfl, hbel⟩

set_option maxHeartbeats 400000 in
theorem isSortI_any (v : Value) (xs : List Int) (w : World) (h : InR w v xs) :
    Calls Try.prog 47 #[v] w fun e w' => e = .returned (.bool (risB xs)) ∧ Below w.heap.size w w' := by
  by_cases hn : 0 < xs.length
  · obtain ⟨b, off, cap, rfl, hc, hm, hb, hcell⟩ := InR.at h hn
    exact isSortI_row b off cap xs w hn (Nat.le_trans hc hm) hb hcell
  · have e1 : xs = [] := List.eq_nil_of_length_eq_zero (by omega)
    subst e1
    obtain ⟨a, c, rfl, _, _⟩ := h
    have HA : Hid (risB [] = true) := rfl
    generalize risB [] = rb at *
    clear hn
    go_enter Try.func47, Try.ntmps47
    go_wp2_with fail
    refine wp_loop_rounds 1 ?_
    rw [rounds_succ]
    go_wp2
    go_ret
    exact ⟨by rw [HA.out]; rfl, Below.refl _ _⟩
end Go.Proofs.Ytinijeejfnehmaa
