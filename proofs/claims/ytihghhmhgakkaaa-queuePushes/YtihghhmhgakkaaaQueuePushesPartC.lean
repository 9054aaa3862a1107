/-
  Contracts of the document's own MailAhead and IsOrdered; an insertion in plain mathematics.
  Contract of the document's own RunOf.
  append of one new element, and where the row then lies.
  Contract of the document's own Mails: mail, one by one put where it belongs.
  Contracts of the document's own queued, QueueCount and Drained.
  Contract of the document's own Bytes: a copy in memory of its own.
-/
import Derived.Test.YtihghhmhgakkaaaMailMath
import Derived.Deep.QuietTactic
import Derived.BigQuiet
import Derived.Lib.QuietBelow
import Derived.Test.YtihghhmhgakkaaaQueuePushesPartA
import Derived.Test.YtihghhmhgakkaaaRowNew
import Derived.Test.YtihghhmhgakkaaaKeptMem
import Derived.Deep.RegionHeld3
import Derived.Deep.CutRange
import Derived.Test.YtihghhmhgakkaaaBase
import Derived.Test.YtihghhmhgakkaaaAppendRun

namespace Go.Proofs.Ytihghhmhgakkaaa
set_option maxRecDepth 100000
open Go.ChangeShapes Go.WideShapes Go.ChangeAt Go.RowKit Go.Sort

/-- x stands ahead of y. -/
def aheadMB (x y : Ml) : Bool := if x.1 ≠ y.1 then decide (x.1 < y.1) else decide (x.2 < y.2)
theorem aheadM_lt (x y : Ml) : aheadMB x y = ltMb x y := by
  unfold aheadMB ltMb
  by_cases h1 : x.1 ≠ y.1
  · rw [if_pos h1]; congr 1; exact propext ⟨fun h => by omega, fun h => by omega⟩
  · rw [if_neg h1]; congr 1; exact propext ⟨fun h => by omega, fun h => by omega⟩

set_option maxHeartbeats 1000000 in
theorem aheadM_any (x y : Ml) (w : World) : Calls Try.prog 48 #[.agg #[.int .i64 x.1, .int .i64 x.2], .agg #[.int .i64 y.1, .int .i64 y.2]] w fun e w' => e = .returned (.bool (ltMb x y)) ∧ Below w.heap.size w w' := by
  rw [← aheadM_lt]
  obtain ⟨a0, a1⟩ := x
  obtain ⟨b0, b1⟩ := y
  unfold aheadMB
  simp only
  have hb : ∀ o1 o2, Below w.heap.size w ((w.alloc o1).alloc o2) := fun o1 o2 => (below_alloc w o1).alloc (by simp) o2
  by_cases h1 : a0 = b0
  · rw [if_neg (by simpa using h1)]
    have e1 : (a0 != b0) = false := by simpa using h1
    clear h1
    go_enter Try.func48, Try.ntmps48
    go_wp2_with fail
    go_ret
    exact ⟨rfl, hb _ _⟩
  · rw [if_pos h1]
    have e1 : (a0 != b0) = true := by simpa using h1
    clear h1
    go_enter Try.func48, Try.ntmps48
    go_wp2_with fail
    go_ret
    exact ⟨rfl, hb _ _⟩

set_option maxHeartbeats 1000000 in
set_option maxRecDepth 100000 in
theorem isOrdered_any (v : Value) (l : List Ml) (w : World) (h : MlR w v l) :
    Calls Try.prog 63 #[v] w fun e w' => e = .returned (.bool (srtMb l)) ∧ Below w.heap.size w w' := by
  have HR : Hid (MlR w v l) := h
  obtain ⟨a, cap, rfl, hc, hm, _, _⟩ := h
  unfold maxLen at hm
  have HT : Hid (SrtM l → srtMb l = true) := (srtMb_iff l).2
  have HF : Hid (¬ SrtM l → srtMb l = false) := srtMb_false.2
  generalize srtMb l = r at *
  go_enter Try.func63, Try.ntmps63
  go_wp2_with fail
  go_loopw [3] (fun i wr => ∃ k : Nat, k ≤ l.length ∧ i = .int .i64 ((k : Int) + 1) ∧ (∀ i x y, i < k → l[i]? = some x → l[i + 1]? = some y → ¬ ltM y x) ∧ Below w.heap.size w wr) (fun i _ => l.length + 1 - (intOf i).toNat)
  case atStart => exact ⟨0, by omega, rfl, fun i x y hi => by omega, Below.refl _ _⟩
  case round =>
    obtain ⟨k, hk, rfl, hs, hbel⟩ := hrel
    have HS : Hid (∀ i x y, i < k → l[i]? = some x → l[i + 1]? = some y → ¬ ltM y x) := hs
    have HB : Hid (Below w.heap.size w wr) := hbel
    have hsr := hbel.size
    clear hs hbel
    by_cases hlt : k + 1 < l.length
    · obtain ⟨b, off, cap', e1, _, _, lb, hv⟩ := MlR.at (HR.out.below HB.out (Nat.le_refl _)) (by omega)
      injection e1 with e1 _ e3
      subst e1 e3
      obtain ⟨x, hx⟩ := getX hlt
      obtain ⟨y, hy⟩ := getX (show k < l.length by omega)
      obtain ⟨x1, x2⟩ := hv _ _ hx
      obtain ⟨y1, y2⟩ := hv _ _ hy
      have g1 := cell_regrown x1
      have g2 := cell_regrown x2
      have g3 := cell_regrown y1
      have g4 := cell_regrown y2
      have HN : Hid (¬ ltM x y → ∀ i a b, i < k + 1 → l[i]? = some a → l[i + 1]? = some b → ¬ ltM b a) := fun h i a b hi ha hb2 => by
        by_cases e : i = k
        · subst e
          rw [hy] at ha
          rw [hx] at hb2
          injection ha with ha
          injection hb2 with hb2
          subst ha hb2
          exact h
        · exact HS.out i a b (by omega) ha hb2
      have HRR : Hid (ltM x y → r = false) := fun h => HF.out fun h2 => h2 k y x hy hx h
      have EE : ∀ d os, Calls Try.prog 48 #[.agg #[.int .i64 x.1, .int .i64 x.2], .agg #[.int .i64 y.1, .int .i64 y.2]] (grow (redrawn wr d) os) fun e w'' => e = .returned (.bool (ltMb x y)) ∧ ∃ p : Regrown, w'' = grow (redrawn wr p.d) p.os := fun d os => Calls.regrown_of (aheadM_any x y _)
      have HLT : Hid ((ltMb x y = true → ltM x y) ∧ (ltMb x y = false → ¬ ltM x y)) := ⟨ltMb_true.1, ltMb_false.1⟩
      generalize ltMb x y = c at *
      have i1 : (k : Int) + 1 < (l.length : Int) := by omega
      have i2 : (k : Int) < (l.length : Int) := by omega
      have i3 : (0 : Int) ≤ (k : Int) := by omega
      have i4 : (0 : Int) ≤ (k : Int) + 1 := by omega
      have i5 : (k : Int) + 1 - 1 = (k : Int) := by omega
      have i6 : IntKind.i64.wrap (k : Int) = (k : Int) := wrap_id64 (by omega) (by omega)
      have i7 : IntKind.i64.wrap ((k : Int) + 1 + 1) = (k : Int) + 1 + 1 := wrap_id64 (by omega) (by omega)
      have HSX : Hid True := trivial
      clear x1 x2 y1 y2 hx hy HS hv HSX
      go_wp2_with fail
      refine wp_region_quiet_below (by kernel_rfl) (by kernel_rfl) ?_
      repeat (quiet_step (exact EE _ _))
      refine wpQuiet_nil ?_
      intro _ hw'
      obtain ⟨⟨dq, osq⟩, hw''⟩ := hw'
      have HB9 : Hid (Below w.heap.size w (grow (redrawn wr dq) osq)) := HB.out.trans ((below_regrown wr dq osq).mono hsr)
      subst hw''
      generalize grow (redrawn wr dq) osq = W9 at HB9 ⊢
      clear g1 g2 g3 g4 EE
      cases c with
      | true =>
        have HX : Hid (r = false) := HRR.out (HLT.out.1 rfl)
        go_wp2_with fail
        go_ret
        exact ⟨by rw [HX.out]; rfl, HB9.out⟩
      | false =>
        have HX : Hid _ := HN.out (HLT.out.2 rfl)
        go_wp2_with fail
        go_roundw
        case rel => exact ⟨k + 1, by omega, by go_num, HX.out, HB9.out⟩
        case measure => simp [intOf]; omega
    · have HX : Hid (r = true) := HT.out fun i x y h1 h2 => HS.out i x y (by have := (List.getElem?_eq_some_iff.1 h2).1; omega) h1 h2
      have i1 : ¬ (k : Int) + 1 < (l.length : Int) := by omega
      go_wp2_with fail
      go_ret
      exact ⟨by rw [HX.out]; rfl, HB.out⟩

/-- x is put behind A and ahead of B. -/
theorem putM_sorted {A B : List Ml} {x : Ml} (h : InM (A ++ B)) (hB : ∀ y ∈ B, ltM x y) (hA : ∀ z, A.getLast? = some z → ¬ ltM x z) : InM (A ++ x :: B) := by
  unfold InM at *
  rw [List.pairwise_append] at h ⊢
  obtain ⟨h1, h2, h3⟩ := h
  have hAx : ∀ a ∈ A, leM a x = true := by
    intro a ha
    rw [leM_iff]
    rcases List.eq_nil_or_concat A with rfl | ⟨A', z, rfl⟩
    · simp at ha
    · have hz : ¬ ltM x z := hA z (by simp)
      simp only [List.concat_eq_append] at ha h1
      rw [List.mem_append] at ha
      rcases ha with ha | ha
      · have := (List.pairwise_append.1 h1).2.2 a ha z (by simp)
        rw [leM_iff] at this
        unfold ltM at *; omega
      · simp at ha; subst ha; exact hz
  refine ⟨h1, ?_, ?_⟩
  · rw [List.pairwise_cons]
    exact ⟨fun y hy => by have := hB y hy; rw [leM_iff]; unfold ltM at *; omega, h2⟩
  · intro a ha y hy
    rcases List.mem_cons.1 hy with rfl | hy
    · exact hAx a ha
    · exact h3 a ha y hy
theorem putM_perm {A B s l : List Ml} {x : Ml} (h : A ++ B = s) (hp : s.Perm l) : (A ++ x :: B).Perm (l ++ [x]) := by
  subst h
  exact (List.perm_middle.trans (List.Perm.cons x hp)).trans (List.perm_append_singleton x l).symm
end Go.Proofs.Ytihghhmhgakkaaa

namespace Go.Proofs.Ytihghhmhgakkaaa
set_option maxRecDepth 100000
open Go.ChangeShapes Go.WideShapes Go.ChangeAt Go.RowKit

/-- So far: the mail l is read, the bytes behind the place at are left. -/
def RunQt (b ts r0 : List Int) (k : Nat) (l : List Ml) (i : Nat) : Prop := l.length = k ∧ i ≤ b.length ∧ valsQ ts r0 = (valsQ (ts.drop k) (b.drop i)).map fun p => (l ++ p.1, p.2)
theorem RunQt.zero {b ts : List Int} {u : Nat} (h : u ≤ b.length) : RunQt b ts (b.drop u) 0 [] u := ⟨rfl, h, by
  rw [List.drop_zero]
  cases valsQ ts (b.drop u) with
  | none => rfl
  | some p => rfl⟩
theorem RunQt.bad {b ts r0 : List Int} {k i : Nat} {l : List Ml} {t : Int} (h : RunQt b ts r0 k l i) (ht : ts[k]? = some t) (hg : numF 4398046511104 (b.drop i) = none) : valsQ ts r0 = none := by
  obtain ⟨hk, rfl⟩ := List.getElem?_eq_some_iff.1 ht
  rw [h.2.2, List.drop_eq_getElem_cons hk, valsQ_no hg]
  rfl
theorem RunQt.far {b ts r0 : List Int} {k i : Nat} {l : List Ml} {t : Int} (h : RunQt b ts r0 k l i) (ht : ts[k]? = some t) (hg : ¬ t < 200) : valsQ ts r0 = none := by
  obtain ⟨hk, rfl⟩ := List.getElem?_eq_some_iff.1 ht
  rw [h.2.2, List.drop_eq_getElem_cons hk, valsQ_far hg]
  rfl
theorem RunQt.step {b ts r0 : List Int} {k i j : Nat} {l : List Ml} {t x : Int} (h : RunQt b ts r0 k l i) (ht : ts[k]? = some t) (hg : numF 4398046511104 (b.drop i) = some (x, b.drop j)) (hj : j ≤ b.length) (hl : t < 200) : RunQt b ts r0 (k + 1) (l ++ [(t, x)]) j := by
  obtain ⟨hk, rfl⟩ := List.getElem?_eq_some_iff.1 ht
  refine ⟨by simp [h.1], hj, ?_⟩
  rw [h.2.2, List.drop_eq_getElem_cons hk, valsQ_yes hg hl]
  cases valsQ (ts.drop (k + 1)) (b.drop j) with
  | none => rfl
  | some p => simp
theorem RunQt.done {b ts r0 : List Int} {k i : Nat} {l : List Ml} (h : RunQt b ts r0 k l i) (hk : ts.length ≤ k) : valsQ ts r0 = some (l, b.drop i) := by
  rw [h.2.2, List.drop_eq_nil_of_le hk]
  simp [valsQ]
theorem runQ_err {b : List Int} {e : Int} (h : ungap b = ([], 0, e)) (he : e ≠ 0) : runQ b = [] := by
  unfold runQ
  rw [h]
  exact if_neg fun h => he h.1
theorem runQ_len {b ts : List Int} {u : Nat} (h : ungap b = (ts, u, 0)) (hl : ¬ ts.length ≤ 1000) : runQ b = [] := by
  unfold runQ
  rw [h]
  exact if_neg fun h => hl h.2
theorem runQ_ok {b ts : List Int} {u : Nat} (h : ungap b = (ts, u, 0)) (hl : ts.length ≤ 1000) : runQ b = endQ (valsQ ts (b.drop u)) := by
  unfold runQ
  rw [h]
  exact if_pos ⟨rfl, hl⟩
/-- What RunOf answers. -/
def RunP (w : World) (l : List Ml) (e : Ending) (w' : World) : Prop := ∃ v', e = .returned v' ∧ w'.ownsRow w.heap.size 27 2 v' l.length (l.flatMap encM) ∧ Below w.heap.size w w'
theorem RunP.nil {w w' : World} (h : Below w.heap.size w w') : RunP w [] (.returned (.slice none 0 0)) w' := ⟨_, rfl, World.ownsRow_nil _ _ _ _, h⟩

set_option maxHeartbeats 2000000 in
set_option maxRecDepth 100000 in
theorem runOf_any (v : Value) (b : List Int) (w : World) (h : Reads .u8 w v b) (hb : ∀ x ∈ b, 0 ≤ x ∧ x ≤ 255) (hL : b.length ≤ 140737488351232) : Calls Try.prog 45 #[v] w (RunP w ((runF b).getD [])) := by
  rw [← run_eq hb]
  have HU : Hid (∀ X, Reads .u8 X v b → Calls Try.prog 61 #[v] X fun e w' => ∃ v', e = .returned (.tuple #[v', .int .i64 (ungap b).2.1, .int .i64 (ungap b).2.2]) ∧ w'.ownsRow X.heap.size 3 1 v' (ungap b).1.length ((ungap b).1.map (Value.int .i64)) ∧ Below X.heap.size X w') := fun X hX => ungapped_any v b X hX hb
  have HNo : Hid (runQ b = [] → ∀ w', Below w.heap.size w w' → RunP w (runQ b) (.returned (.slice none 0 0)) w') := fun e w' hw => by rw [e]; exact RunP.nil hw
  have HYes : Hid (∀ l, runQ b = l → ∀ v w', w'.ownsRow w.heap.size 27 2 v l.length (l.flatMap encM) → Below w.heap.size w w' → RunP w (runQ b) (.returned v) w') := fun l e v w' ho hw => by rw [e]; exact ⟨_, rfl, ho, hw⟩
  have HR : Hid (Reads .u8 w v b) := h
  have HBY : Hid (∀ x ∈ b, 0 ≤ x ∧ x ≤ 255) := hb
  obtain ⟨a, cap, rfl, _⟩ := id h
  rcases ungap_inv hb with ⟨e, he, hne⟩ | ⟨ts, u, he, _, hu, _⟩
  · have HX : Hid _ := HNo.out (runQ_err he hne)
    generalize RunP w (runQ b) = P at *
    rw [he] at HU
    have hne' : (e != 0) = true := by simpa using hne
    clear he hne HNo HYes h hb
    go_enter Try.func45, Try.ntmps45
    go_wp2_with fail
    refine (HU.out _ HR.out).mono ?_
    rintro e1 w1 ⟨v1, rfl, _, hb1⟩
    have HE : Hid (P (.returned (.slice none 0 0)) w1) := HX.out _ hb1
    clear hb1 HX
    go_wp2_with fail
    exact HE.out
  · by_cases hlen : ts.length ≤ 1000
    · have HV : Hid (runQ b = endQ (valsQ ts (b.drop u))) := runQ_ok he hlen
      have HNo2 : Hid (∀ w', endQ (valsQ ts (b.drop u)) = [] → Below w.heap.size w w' → RunP w (runQ b) (.returned (.slice none 0 0)) w') := fun w' hn hw => HNo.out (HV.out.trans hn) w' hw
      have HYes2 : Hid (∀ l v w', endQ (valsQ ts (b.drop u)) = l → w'.ownsRow w.heap.size 27 2 v l.length (l.flatMap encM) → Below w.heap.size w w' → RunP w (runQ b) (.returned v) w') := fun l v w' hn ho hw => HYes.out l (HV.out.trans hn) v w' ho hw
      have HZ : Hid (RunQt b ts (b.drop u) 0 [] u) := RunQt.zero hu
      generalize RunP w (runQ b) = P at *
      rw [he] at HU
      clear he HNo HYes h hb HV
      generalize b.drop u = r0 at *
      have i2 : ¬ (1000 : Int) < (ts.length : Int) := by omega
      go_enter Try.func45, Try.ntmps45
      go_wp2_with fail
      refine (HU.out _ HR.out).mono ?_
      rintro e1 w1 ⟨v1, rfl, ho1, hb1⟩
      have OT : Hid (Reads .i64 w1 v1 ts) := reads_own ho1
      obtain ⟨a1, c1, rfl⟩ := own_slice ho1
      have hs1 := hb1.size
      have HB1 : Hid (Below w.heap.size w w1) := hb1
      have HR1 : Hid (Reads .u8 w1 (.slice a b.length cap) b) := HR.out.below hb1 (Nat.le_refl _)
      clear hb1 ho1 HR HU
      go_wp2_with fail
      go_loopw [4, 6, 7] (fun p y i wr => ∃ (k q : Nat) (l : List Ml), k ≤ ts.length ∧ i = .int .i64 k ∧ p = .int .i64 q ∧ RunQt b ts r0 k l q ∧ wr.ownsRow w1.heap.size 27 2 y l.length (l.flatMap encM) ∧ Below w1.heap.size w1 wr) (fun _ _ i _ => ts.length - (intOf i).toNat)
      case atStart => exact ⟨0, u, [], by omega, rfl, rfl, HZ.out, World.ownsRow_nil _ _ _ _, Below.refl _ _⟩
      case round =>
        obtain ⟨k, q, l, hk, rfl, rfl, hto, hown, hbel⟩ := hrel
        have TO : Hid (RunQt b ts r0 k l q) := hto
        have OW : Hid (wr.ownsRow w1.heap.size 27 2 u6 l.length (l.flatMap encM)) := hown
        have HB : Hid (Below w1.heap.size w1 wr) := hbel
        have HRr : Hid (Reads .u8 wr (.slice a b.length cap) b) := HR1.out.below hbel (Nat.le_refl _)
        have hsr := hbel.size
        have hll := hto.1
        have hqb := hto.2.1
        clear hto hown hbel
        obtain ⟨ua, uc, rfl⟩ := (MlR.ownd OW.out).shape
        by_cases hlt : k < ts.length
        · obtain ⟨tb, tq, tc, e1, _, _, tlt, hv⟩ := (OT.out.below HB.out (Nat.le_refl _)).plain (by omega)
          injection e1 with e1 e2 e3
          subst e1 e3
          clear e2
          have hck := hv k hlt
          have HT : Hid (ts[k]? = some (ts.getD k 0)) := by show _ = _; rw [List.getD_eq_getElem?_getD, List.getElem?_eq_getElem hlt]; rfl
          generalize ts.getD k 0 = t at *
          have p0 : (0 : Int) ≤ (k : Int) := by omega
          have p1 : (k : Int) < (ts.length : Int) := by omega
          have hl1 : l.length ≤ 1000 := by omega
          have HG : Hid (∀ X, Reads .u8 X (.slice a b.length cap) b → Calls Try.prog 62 #[.slice a b.length cap, .int .i64 q, .int .i64 4398046511104] X fun e w' => SmlP 4398046511104 b q e ∧ w' = X) := fun X hX => small_any _ b q _ X hX HBY.out hqb (by omega) (by omega)
          clear hv hll
          go_wp2_with fail
          refine (HG.out _ HRr.out).mono ?_
          rintro e w' ⟨hs, rfl⟩
          rcases hs with ⟨hn, rfl⟩ | ⟨x, q2, hn, h1, h2, rfl⟩
          · have HE : Hid (P (.returned (.slice none 0 0)) w') := HNo2.out w' (by rw [TO.out.bad HT.out hn]; rfl) (HB1.out.trans (HB.out.mono hs1))
            clear hn
            go_wp2_with fail
            exact HE.out
          · have hq2 : ¬ (q2 : Int) < 0 := by omega
            by_cases ht : t < 200
            · have TO2 : Hid (RunQt b ts r0 (k + 1) (l ++ [(t, x)]) q2) := TO.out.step HT.out hn h2 ht
              have ht2 : ¬ 200 ≤ t := by omega
              clear hn h1 h2
              go_wp2_with (at_builtin; refine wpList_append_newK kM rfl _ _ rfl w1.heap.size _ l rfl (OW.out.alloc _) w'.heap.size (t, x) rfl #[.int .i64 t, .int .i64 x] rfl (0, 0) (heap_alloc_new _ _) (by simp [kM]; omega) (by unfold maxLen; omega) (by simp; omega) ?_)
              intro g c w2 hown2 hb2 _
              have O2 : Hid (w2.ownsRow w1.heap.size 27 2 (.slice (some ⟨g, 0, none⟩) (l.length + 1) c) (l ++ [(t, x)]).length ((l ++ [(t, x)]).flatMap encM)) := by show World.ownsRow _ _ _ _ _ _ _; simpa [kM] using hown2
              have HB2 : Hid (Below w1.heap.size w1 w2) := (HB.out.alloc hsr _).trans hb2
              clear hown2 hb2
              go_wp2_with fail
              go_roundw
              case rel => exact ⟨k + 1, q2, _, by omega, by go_num, rfl, TO2.out, O2.out, HB2.out⟩
              case measure => simp [intOf]; omega
            · have HE : Hid (P (.returned (.slice none 0 0)) w') := HNo2.out w' (by rw [TO.out.far HT.out ht]; rfl) (HB1.out.trans (HB.out.mono hs1))
              have ht2 : 200 ≤ t := by omega
              clear hn ht h1 h2
              go_wp2_with fail
              exact HE.out
        · have HD : Hid (valsQ ts r0 = some (l, b.drop q)) := TO.out.done (by omega)
          have O2 : Hid (wr.ownsRow w.heap.size 27 2 (.slice ua l.length uc) l.length (l.flatMap encM)) := own_lower OW.out hs1
          have ML : Hid (MlR wr (.slice ua l.length uc) l) := MlR.ownd O2.out
          have HBW : Hid (Below w.heap.size w wr) := HB1.out.trans (HB.out.mono hs1)
          have hsw := HBW.out.size
          clear hll OW TO OT HB HR1 HRr
          by_cases hq : q = b.length
          · have HI : Hid (∀ X, MlR X (.slice ua l.length uc) l → Calls Try.prog 63 #[.slice ua l.length uc] X fun e w' => e = .returned (.bool (srtMb l)) ∧ Below X.heap.size X w') := fun X hX => isOrdered_any _ l X hX
            have hq2 : ((q : Int) != (b.length : Int)) = false := by simp [hq]
            have HD2 : Hid (valsQ ts r0 = some (l, [])) := by show _ = _; rw [HD.out, List.drop_eq_nil_of_le (by omega)]
            cases hso : srtMb l
            · have HN : Hid (∀ w', Below w.heap.size w w' → P (.returned (.slice none 0 0)) w') := fun w' hw => HNo2.out w' (by rw [HD2.out]; exact endQ_srt hso) hw
              rw [hso] at HI
              clear hso HD HD2 hq hqb
              go_wp2_with fail
              refine (HI.out _ ML.out).mono ?_
              rintro e w3 ⟨rfl, hb3⟩
              have HE : Hid (P (.returned (.slice none 0 0)) w3) := HN.out w3 (HBW.out.trans (hb3.mono hsw))
              clear hb3
              go_wp2_with fail
              exact HE.out
            · have HN : Hid (∀ w', w'.ownsRow w.heap.size 27 2 (.slice ua l.length uc) l.length (l.flatMap encM) → Below w.heap.size w w' → P (.returned (.slice ua l.length uc)) w') := fun w' ho hw => HYes2.out l _ w' (by rw [HD2.out]; exact endQ_yes hso) ho hw
              rw [hso] at HI
              clear hso HD HD2 hq hqb
              go_wp2_with fail
              refine (HI.out _ ML.out).mono ?_
              rintro e w3 ⟨rfl, hb3⟩
              have HE : Hid (P (.returned (.slice ua l.length uc)) w3) := HN.out w3 (own_below O2.out hb3 (Nat.le_refl _)) (HBW.out.trans (hb3.mono hsw))
              clear hb3
              go_wp2_with fail
              exact HE.out
          · have hq2 : ((q : Int) != (b.length : Int)) = true := by
              simp only [bne_iff_ne, ne_eq]
              omega
            have HE : Hid (P (.returned (.slice none 0 0)) wr) := HNo2.out wr (by rw [HD.out]; exact endQ_more (fun e => by rw [List.drop_eq_nil_iff] at e; omega)) HBW.out
            clear hq HD
            go_wp2_with fail
            exact HE.out
    · have HX : Hid _ := HNo.out (runQ_len he hlen)
      generalize RunP w (runQ b) = P at *
      rw [he] at HU
      clear he HNo HYes h hb
      go_enter Try.func45, Try.ntmps45
      go_wp2_with fail
      refine (HU.out _ HR.out).mono ?_
      rintro e1 w1 ⟨v1, rfl, ho1, hb1⟩
      obtain ⟨a1, c1, rfl⟩ := own_slice ho1
      have HE : Hid (P (.returned (.slice none 0 0)) w1) := HX.out _ hb1
      clear hb1 HX ho1
      have h2 : (1000 : Int) < ts.length := by omega
      go_wp2_with fail
      exact HE.out
end Go.Proofs.Ytihghhmhgakkaaa

namespace Go.Proofs.Ytihghhmhgakkaaa
set_option maxRecDepth 100000
open Go.ChangeShapes Go.WideShapes Go.ChangeAt Go.RowKit

theorem wpList_append_atK {α : Type} (K : ElK α) {w : World} {ops : Array Oper} {rest : List Oper} {o : Oper} {a : Act} {Q : Exit → Act → World → Prop} (hgd : o.guard = none) (s y : Operand)
    (ho : o.op = .call { callee := .builtin .append, args := #[s, y], argTypes := #[K.t, K.t] })
    (base : Nat) (v : Value) (xs : List α) (hs : a.eval s = v) (hown : w.ownsRow base K.e K.k v xs.length (xs.flatMap K.enc))
    (B : Nat) (x : α) (hy : a.eval y = .slice (some ⟨B, 0, none⟩) 1 1) (cs : Array Value) (hcs : cs.toList = K.enc x) (fr : Nat × Nat) (hblk : w.heap[B]? = some (.cells cs K.e fr)) (hlen : (xs.length + 1) * K.bytes ≤ 140737488355328) (hmax : xs.length + 1 ≤ maxLen) (hbase : base ≤ w.heap.size)
    (h : ∀ g c w', w'.ownsRow base K.e K.k (.slice (some ⟨g, 0, none⟩) (xs.length + 1) c) (xs ++ [x]).length ((xs ++ [x]).flatMap K.enc) → Below base w w' → w.grownBy w' v.ownBlock → (v.ownBlock = some g ∨ g = w.heap.size) → wpList Try.prog ops Q rest (a.put o.dst (.slice (some ⟨g, 0, none⟩) (xs.length + 1) c)) w') :
    wpList Try.prog ops Q (o :: rest) a w := by
  obtain ⟨i0, hi, hz0, hz1, hz2⟩ := info_parts K.hi
  obtain ⟨g, c, w', hrun, hown2, hgrow, hloc, _⟩ := run_append_lies (P := Try.prog) w K.t o.type base K.e i0 K.z K.k K.bytes K.ht hi hz0 hz1 hz2 K.hz K.hk0 v _ _ hown
    ⟨B, 0, none⟩ 1 1 (K.enc x) (by rw [K.hk, Nat.one_mul]) (by rw [← hcs]; exact World.news_of_block hblk) (K.h1 x) (by omega) hmax hlen hbase _ rfl
  have h1 : w'.ownsRow base K.e K.k (.slice (some ⟨g, 0, none⟩) (xs.length + 1) c) (xs ++ [x]).length ((xs ++ [x]).flatMap K.enc) := by
    rw [flat_snoc, List.length_append]
    exact hown2
  refine wpList_plain hgd fun K' hK => ?_
  unfold Oper.wp
  simp [execOp, ho, resolve, invoke, builtin, hs, hy, hrun, Result.andThen]
  exact hK _ _ (h g c w' h1 ((Below.refl base w).grown hgrow hbase (fun j hj => (hown.lt j hj).1)) hgrow hloc)
end Go.Proofs.Ytihghhmhgakkaaa

namespace Go.Proofs.Ytihghhmhgakkaaa
set_option maxRecDepth 100000
open Go.ChangeShapes Go.WideShapes Go.ChangeAt Go.RowKit

set_option maxHeartbeats 2000000 in
set_option maxRecDepth 100000 in
theorem refMails_any (v : Value) (es : List Ml) (w : World) (h : MlR w v es) (hl : es.length ≤ 5000) :
    Calls Try.prog 34 #[v] w fun e w' => ∃ v', e = .returned v' ∧ w'.ownsRow w.heap.size 27 2 v' (sortM es).length ((sortM es).flatMap encM) ∧ Below w.heap.size w w' := by
  have HR : Hid (MlR w v es) := h
  obtain ⟨a, cap, rfl, hc, hm, _, _⟩ := h
  unfold maxLen at hm
  go_enter Try.func34, Try.ntmps34
  go_wp2_with fail
  go_loopw [3, 4] (fun u i wr => ∃ (k : Nat) (s : List Ml), k ≤ es.length ∧ i = .int .i64 k ∧ wr.ownsRow w.heap.size 27 2 u s.length (s.flatMap encM) ∧ s.Perm (es.take k) ∧ InM s ∧ Below w.heap.size w wr) (fun _ i _ => es.length - (intOf i).toNat)
  case atStart => exact ⟨0, [], by omega, rfl, World.ownsRow_nil _ _ _ _, List.Perm.refl _, List.Pairwise.nil, Below.refl _ _⟩
  case round =>
    obtain ⟨k, s, hk, rfl, hown, hp, hso, hbel⟩ := hrel
    have OW : Hid (wr.ownsRow w.heap.size 27 2 u3 s.length (s.flatMap encM)) := hown
    have HB : Hid (Below w.heap.size w wr) := hbel
    have HP : Hid (s.Perm (es.take k)) := hp
    have HSO : Hid (InM s) := hso
    have hsr := hbel.size
    have hsl : s.length = k := by have := hp.length_eq; simp at this; omega
    clear hown hbel hp hso
    by_cases hlt : k < es.length
    · obtain ⟨b, off, cap', e1, _, _, lt, hv⟩ := MlR.at (HR.out.below HB.out (Nat.le_refl _)) (by omega)
      injection e1 with e1 _ e3
      subst e1 e3
      obtain ⟨x, hx⟩ := getX hlt
      obtain ⟨c1, c2⟩ := hv k x hx
      have HX : Hid (es.take (k + 1) = es.take k ++ [x]) := take_snoc hx
      clear hv hx
      go_wp2_with (at_builtin; refine wpList_append_newK kM rfl _ _ rfl w.heap.size _ s rfl (OW.out.alloc _) wr.heap.size x rfl #[.int .i64 x.1, .int .i64 x.2] rfl (0, 0) (heap_alloc_new _ _) (by simp [kM]; omega) (by unfold maxLen; omega) (by simp; omega) ?_)
      intro g c w3 hown3 hb3 _
      have O3 : Hid (w3.ownsRow w.heap.size 27 2 (.slice (some ⟨g, 0, none⟩) (k + 1) c) (k + 1) ((s ++ [x]).flatMap encM)) := by
        show World.ownsRow _ _ _ _ _ _ _
        rw [flat_snoc]; exact hown3
      have HB3 : Hid (Below w.heap.size w w3) := (HB.out.alloc hsr _).trans hb3
      clear hown3 hb3 c1 c2
      have hgw : w.heap.size ≤ g := (O3.out.lt g rfl).1
      go_wp2_with fail
      go_loopw [5] (fun j wq => ∃ (A B : List Ml) (m : Nat), A ++ B = s ∧ j = .int .i64 m ∧ A.length = m ∧ (∀ y ∈ B, ltM x y) ∧ wq.ownsRow w.heap.size 27 2 (.slice (some ⟨g, 0, none⟩) (k + 1) c) (k + 1) ((A ++ x :: B).flatMap encM) ∧ Below w.heap.size w wq) (fun j _ => (intOf j).toNat)
      case atStart => exact ⟨s, [], k, by simp, rfl, hsl, by simp, O3.out, HB3.out⟩
      case round =>
        obtain ⟨A, B, m, hAB, rfl, hAm, hBx, hown, hbq⟩ := hrel
        have OQ : Hid (wr.ownsRow w.heap.size 27 2 (.slice (some ⟨g, 0, none⟩) (k + 1) c) (k + 1) ((A ++ x :: B).flatMap encM)) := hown
        have HBQ : Hid (Below w.heap.size w wr) := hbq
        have HAB : Hid (A ++ B = s) := hAB
        have HBX : Hid (∀ y ∈ B, ltM x y) := hBx
        have hcap : k + 1 ≤ c ∧ c ≤ maxLen := by
          rcases own_shapeK hown with ⟨e, _⟩ | ⟨_, _, e, _, _, q1, q2, _⟩
          · cases e
          · injection e with _ _ e3; rw [e3]; exact ⟨q1, q2⟩
        have hAl : A.length ≤ k := by have := congrArg List.length hAB; simp at this; omega
        have hsq := hbq.size
        clear hown hbq hAB hBx O3 HB3 OW HB
        unfold maxLen at hcap
        rcases List.eq_nil_or_concat A with rfl | ⟨A', z, rfl⟩
        · have HIN : Hid (InM (x :: B)) := putM_sorted (A := []) (by rw [HAB.out]; exact HSO.out) HBX.out (by simp)
          have HPE : Hid ((x :: B).Perm (es.take (k + 1))) := by
            show List.Perm _ _
            rw [HX.out]; exact putM_perm (A := []) HAB.out HP.out
          have HL : Hid ((x :: B).length = k + 1) := by
            show _ = _
            have := congrArg List.length HAB.out; simp at this; simp; omega
          obtain rfl : m = 0 := by simpa using hAm.symm
          have hgt : ¬ ((0 : Nat) : Int) > 0 := by simp
          clear hAm hAl
          go_wp2_with fail
          go_quiet (fail)
          go_wp2_with fail
          go_roundw
          case rel => exact ⟨k + 1, x :: B, by omega, by go_num, by rw [HL.out]; exact OQ.out, HPE.out, HIN.out, below_drewN HBQ.out _⟩
          case measure => simp [intOf]; omega
        · simp only [List.concat_eq_append] at *
          obtain ⟨m', rfl⟩ : ∃ m', m = m' + 1 := ⟨A'.length, by simpa using hAm.symm⟩
          have hA' : A'.length = m' := by simpa using hAm
          have OQ2 : Hid (wr.ownsRow w.heap.size 27 2 (.slice (some ⟨g, 0, none⟩) (k + 1) c) (k + 1) ((A' ++ z :: x :: B).flatMap encM)) := by
            show World.ownsRow _ _ _ _ _ _ _
            simpa using OQ.out
          obtain ⟨z1, z2⟩ := ownM_at OQ2.out (i := m') (x := z) (by rw [← hA']; exact getM_mid)
          obtain ⟨x1, x2⟩ := ownM_at OQ2.out (i := m' + 1) (x := x) (by
            rw [← hA']; simp)
          have hm1 : m' + 1 < k + 1 := by simp at hAl; omega
          have HA' : Hid (A'.length = m') := hA'
          clear OQ hA' hAm hAl
          have q0 : (0 : Int) ≤ (m' : Int) + 1 := by omega
          have q1 : (m' : Int) + 1 < (k : Int) + 1 := by omega
          have q2 : (0 : Int) ≤ (m' : Int) := by omega
          have q3 : (m' : Int) < (k : Int) + 1 := by omega
          have q4 : (m' : Int) + 1 > 0 := by omega
          have q5 : IntKind.i64.wrap (m' : Int) = m' := wrap_id64 (by omega) (by omega)
          have q6 : IntKind.i64.wrap ((m' : Int) + 1 - 1) = m' := by rw [Int.add_sub_cancel]; exact q5
          have hgl : g < wr.heap.size := World.block_lt_of_cell? wr _ z1
          have KEEP : Hid (∀ V, Below wr.heap.size wr V → V.cell? ⟨g, m' * 2, none⟩ = some (.int .i64 z.1) ∧ V.cell? ⟨g, m' * 2 + 1, none⟩ = some (.int .i64 z.2) ∧ V.cell? ⟨g, (m' + 1) * 2, none⟩ = some (.int .i64 x.1) ∧ V.cell? ⟨g, (m' + 1) * 2 + 1, none⟩ = some (.int .i64 x.2)) := fun V hV => ⟨(hV.cell (p := ⟨g, m' * 2, none⟩) hgl).trans z1, (hV.cell (p := ⟨g, m' * 2 + 1, none⟩) hgl).trans z2, (hV.cell (p := ⟨g, (m' + 1) * 2, none⟩) hgl).trans x1, (hV.cell (p := ⟨g, (m' + 1) * 2 + 1, none⟩) hgl).trans x2⟩
          clear z1 z2 x1 x2
          go_wp2_with fail
          go_region_held3 (fun V => V.cell? ⟨g, m' * 2, none⟩ = some (.int .i64 z.1) ∧ V.cell? ⟨g, m' * 2 + 1, none⟩ = some (.int .i64 z.2) ∧ V.cell? ⟨g, (m' + 1) * 2, none⟩ = some (.int .i64 x.1) ∧ V.cell? ⟨g, (m' + 1) * 2 + 1, none⟩ = some (.int .i64 x.2)) (first | exact KEEP.out _ ((Below.refl _ _).drew) | (refine KEEP.out _ (below_undrew ?_); assumption)) (first | (go_at_call 48; refine (aheadM_any x z _).mono ?_; rintro e w1 ⟨rfl, hb1⟩))
          rename_i hh
          have B1 : Hid (Below wr.heap.size wr w1) := below_undrew hb1
          clear hh hb1
          have O1 : Hid (w1.ownsRow w.heap.size 27 2 (.slice (some ⟨g, 0, none⟩) (k + 1) c) (k + 1) ((A' ++ z :: x :: B).flatMap encM)) := own_below OQ2.out B1.out (Nat.le_refl _)
          have hs1 := B1.out.size
          by_cases hlt2 : ltM x z
          · have hd : ltMb x z = true := ltMb_true.2 hlt2
            rw [hd]
            obtain ⟨e1, e2, e3, e4⟩ := KEEP.out w1 B1.out
            have hg1 : g < w1.heap.size := by omega
            clear KEEP hd
            go_upto_region 10 with fail
            have W2F : Hid (∃ bx, bx ≠ g ∧ bx = w1.heap.size ∧ ∀ (o : Obj), o = .cells #[.int .i64 x.1, .int .i64 x.2] 27 → (w1.alloc o).ownsRow w.heap.size 27 2 (.slice (some ⟨g, 0, none⟩) (k + 1) c) (k + 1) ((A' ++ z :: x :: B).flatMap encM) ∧ Below w.heap.size w (w1.alloc o) ∧
              (w1.alloc o).cell? ⟨bx, 0, none⟩ = some (.int .i64 x.1) ∧ (w1.alloc o).cell? ⟨bx, 1, none⟩ = some (.int .i64 x.2)) :=
              ⟨w1.heap.size, by omega, rfl, fun o ho => by
                subst ho
                refine ⟨O1.out.alloc _, (HBQ.out.trans (B1.out.mono hsq)).alloc (by omega) _, ?_, ?_⟩
                · rw [cell_of_row _ _ _ _ _ _ (heap_alloc_new w1 _)]; rfl
                · rw [cell_of_row _ _ _ _ _ _ (heap_alloc_new w1 _)]; rfl⟩
            obtain ⟨bx, hbx, ebx, hW2⟩ := W2F.out
            obtain ⟨ow2, bw2, t0, t1⟩ := hW2 _ rfl
            rw [← ebx]
            generalize w1.alloc (.cells #[.int .i64 x.1, .int .i64 x.2] 27) = w2 at *
            have hz : (A' ++ z :: x :: B)[m']? = some z := by rw [← HA'.out]; exact getM_mid
            have hxx : (A' ++ z :: x :: B)[m' + 1]? = some x := by rw [← HA'.out]; simp
            have hlen3 : m' + 1 < (A' ++ z :: x :: B).length := by have := HA'.out; simp; omega
            obtain ⟨z1, z2⟩ := ownM_at ow2 hz
            obtain ⟨x1, x2⟩ := ownM_at ow2 hxx
            have fz : ∀ j, w2.frozen? ⟨g, j, none⟩ = false := fun j => frozenK ow2 j
            have s1 : (w2.setCell ⟨g, (m' + 1) * 2, none⟩ (.int .i64 z.1)).cell? ⟨g, (m' + 1) * 2 + 1, none⟩ = some (.int .i64 x.2) := (cellM_far (by omega)).trans x2
            have OW2 : Hid (w2.ownsRow w.heap.size 27 2 (.slice (some ⟨g, 0, none⟩) (k + 1) c) (k + 1) ((A' ++ z :: x :: B).flatMap encM)) := ow2
            have BW2 : Hid (Below w.heap.size w w2) := bw2
            have T0 : Hid (w2.cell? ⟨bx, 0, none⟩ = some (.int .i64 x.1) ∧ w2.cell? ⟨bx, 1, none⟩ = some (.int .i64 x.2)) := ⟨t0, t1⟩
            clear hz hxx ow2 bw2 hW2 W2F t0 t1 ebx O1 e1 e2 e3 e4
            go_upto_region 11 with fail
            have hE : ((w2.setCell ⟨g, (m' + 1) * 2, none⟩ (.int .i64 z.1)).setCell ⟨g, (m' + 1) * 2 + 1, none⟩ (.int .i64 z.2)) = putM w2 g ((m' + 1) * 2) z := rfl
            rw [hE]
            have O3 : Hid ((putM w2 g ((m' + 1) * 2) z).ownsRow w.heap.size 27 2 (.slice (some ⟨g, 0, none⟩) (k + 1) c) (k + 1) ((A' ++ z :: z :: B).flatMap encM)) := by
              have := ownM_put OW2.out hlen3 z
              rw [show (A' ++ z :: x :: B).set (m' + 1) z = A' ++ z :: z :: B by rw [← HA'.out]; simp] at this
              exact this
            have B3 : Hid (Below w.heap.size w (putM w2 g ((m' + 1) * 2) z)) := below_putM BW2.out hgw z
            have t0 : (putM w2 g ((m' + 1) * 2) z).cell? ⟨bx, 0, none⟩ = some (.int .i64 x.1) := (putM_cell hbx).trans T0.out.1
            have t1 : (putM w2 g ((m' + 1) * 2) z).cell? ⟨bx, 1, none⟩ = some (.int .i64 x.2) := (putM_cell hbx).trans T0.out.2
            clear hE s1 fz z1 z2 x1 x2 OW2 BW2 T0
            generalize putM w2 g ((m' + 1) * 2) z = w3 at *
            have hz : (A' ++ z :: z :: B)[m']? = some z := by rw [← HA'.out]; exact getM_mid
            have hlen4 : m' < (A' ++ z :: z :: B).length := by have := HA'.out; simp; omega
            obtain ⟨z1, z2⟩ := ownM_at O3.out hz
            have fz : ∀ j, w3.frozen? ⟨g, j, none⟩ = false := fun j => frozenK O3.out j
            have s1 : (w3.setCell ⟨g, m' * 2, none⟩ (.int .i64 x.1)).cell? ⟨g, m' * 2 + 1, none⟩ = some (.int .i64 z.2) := (cellM_far (by omega)).trans z2
            have O4 : Hid ((putM w3 g (m' * 2) x).ownsRow w.heap.size 27 2 (.slice (some ⟨g, 0, none⟩) (k + 1) c) (k + 1) ((A' ++ x :: z :: B).flatMap encM)) := by
              have := ownM_put O3.out hlen4 x
              rw [show (A' ++ z :: z :: B).set m' x = A' ++ x :: z :: B by rw [← HA'.out]; exact setM_mid] at this
              exact this
            have B4 : Hid (Below w.heap.size w (putM w3 g (m' * 2) x)) := below_putM B3.out hgw x
            have HB2 : Hid (∀ y ∈ z :: B, ltM x y) := fun y hy => by
              rcases List.mem_cons.1 hy with rfl | hy
              · exact hlt2
              · exact HBX.out y hy
            have HAB2 : Hid (A' ++ z :: B = s) := by
              show _ = _
              rw [← HAB.out]; simp
            clear hz hlen3 hlen4
            go_wp2_with fail
            go_roundw
            case rel => exact ⟨A', z :: B, m', HAB2.out, by go_num, HA'.out, HB2.out, O4.out, B4.out⟩
            case measure => simp [intOf]
          · have hd : ltMb x z = false := ltMb_false.2 hlt2
            have HIN : Hid (InM (A' ++ [z] ++ x :: B)) := putM_sorted (by rw [HAB.out]; exact HSO.out) HBX.out (by
              intro y hy
              simp at hy
              subst hy
              exact hlt2)
            have HPE : Hid ((A' ++ [z] ++ x :: B).Perm (es.take (k + 1))) := by
              show List.Perm _ _
              rw [HX.out]; exact putM_perm HAB.out HP.out
            have HL : Hid ((A' ++ [z] ++ x :: B).length = k + 1) := by
              show _ = _
              have := congrArg List.length HAB.out; simp at this; simp; omega
            have HR2 : Hid (A' ++ [z] ++ x :: B = A' ++ z :: x :: B) := by show _ = _; simp
            rw [hd]
            clear KEEP hd
            go_wp2_with fail
            go_roundw
            case rel => exact ⟨k + 1, A' ++ [z] ++ x :: B, by omega, by go_num, by rw [HL.out, HR2.out]; exact O1.out, HPE.out, HIN.out, HBQ.out.trans (B1.out.mono hsq)⟩
            case measure => simp [intOf]; omega
    · have ek : es.take k = es := List.take_of_length_le (by omega)
      have HE : Hid (s = sortM es) := sortedM_uniq (by have := HP.out; rwa [ek] at this) HSO.out
      have O2 : Hid (wr.ownsRow w.heap.size 27 2 u3 (sortM es).length ((sortM es).flatMap encM)) := by
        show World.ownsRow _ _ _ _ _ _ _
        rw [← HE.out]; exact OW.out
      clear ek hsl
      go_wp2_with fail
      go_ret
      exact ⟨_, rfl, O2.out, HB.out⟩
end Go.Proofs.Ytihghhmhgakkaaa

namespace Go.Proofs.Ytihghhmhgakkaaa
set_option maxRecDepth 100000
open Go.ChangeShapes Go.WideShapes Go.ChangeAt Go.RowKit

/-- All mail. -/
def allQ (lo : List Ml) : Option (List (List Ml)) → List Ml
  | none => []
  | some f => lo ++ f.flatten
/-- What queued answers. -/
def QdP (w : World) (lo : List Ml) (o : Option (List (List Ml))) (e : Ending) (w' : World) : Prop := ∃ v', e = .returned (.tuple #[v', .bool o.isSome]) ∧ w'.ownsRow w.heap.size 27 2 v' (allQ lo o).length ((allQ lo o).flatMap encM) ∧ Below w.heap.size w w'
theorem QdP.no {w w' : World} {lo : List Ml} (h : Below w.heap.size w w') : QdP w lo none (.returned (.tuple #[.slice none 0 0, .bool false])) w' := ⟨_, rfl, World.ownsRow_nil _ _ _ _, h⟩
theorem quF_budget {n : Int} {lo : List Ml} {rs : List (List Int)} (h : ¬ (1 ≤ n ∧ n ≤ 1000)) : quF n lo rs = none := quF_no (by rw [Bool.eq_false_iff]; intro e; exact h ⟨(okQ_iff.1 e).1.1, (okQ_iff.1 e).1.2.1⟩)
theorem quF_loose {n : Int} {lo : List Ml} {rs : List (List Int)} (h : ¬ (lo.length : Int) < n) : quF n lo rs = none := quF_no (by rw [Bool.eq_false_iff]; intro e; exact h (okQ_iff.1 e).1.2.2.1)
theorem quF_runs {n : Int} {lo : List Ml} {rs : List (List Int)} (h : ¬ rs.length ≤ 5000) : quF n lo rs = none := quF_no (by rw [Bool.eq_false_iff]; intro e; exact h (okQ_iff.1 e).1.2.2.2)
theorem quF_barred {n : Int} {lo : List Ml} {rs : List (List Int)} (h : mayA lo = false) : quF n lo rs = none := quF_no (by rw [Bool.eq_false_iff]; intro e; rw [(okQ_iff.1 e).2] at h; cases h)

set_option maxHeartbeats 4000000 in
set_option maxRecDepth 100000 in
theorem queued_any (n : Int) (vl vr : Value) (lo : List Ml) (rs : List (List Int)) (w : World) (h : QuR w vl vr lo rs) (hB : QuB lo rs) :
    Calls Try.prog 30 #[.agg #[.int .i64 n, vl, vr]] w (QdP w lo (quF n lo rs)) := by
  have HR : Hid (QuR w vl vr lo rs) := h
  have HBY : Hid (∀ b ∈ rs, (∀ x ∈ b, 0 ≤ x ∧ x ≤ 255) ∧ b.length ≤ 140737488351232) := hB.2.1
  obtain ⟨a, cap, rfl, hc1, hm1, _⟩ := id h.1
  obtain ⟨c, cap2, rfl, hc2, hm2, _⟩ := id h.2
  unfold maxLen at hm1 hm2
  clear h hB
  have HI : Hid (∀ X, Calls Try.prog 44 #[.int .i64 n, .int .i64 1, .int .i64 1000] X fun e w' => e = .returned (.bool (inB n 1 1000)) ∧ w' = X) := fun X => in_any n 1 1000 X
  have HNo : Hid (quF n lo rs = none → ∀ w', Below w.heap.size w w' → QdP w lo (quF n lo rs) (.returned (.tuple #[.slice none 0 0, .bool false])) w') := fun e w' hw => by rw [e]; exact QdP.no hw
  have HYes : Hid (∀ f, quF n lo rs = some f → ∀ v w', w'.ownsRow w.heap.size 27 2 v (lo ++ f.flatten).length ((lo ++ f.flatten).flatMap encM) → Below w.heap.size w w' → QdP w lo (quF n lo rs) (.returned (.tuple #[v, .bool true])) w') := fun f e v w' ho hw => by rw [e]; exact ⟨_, rfl, ho, hw⟩
  have hb : ∀ o, Below w.heap.size w (w.alloc o) := fun o => below_alloc w o
  by_cases h0 : 1 ≤ n ∧ n ≤ 1000
  · by_cases h2 : (lo.length : Int) < n
    · by_cases h3 : rs.length ≤ 5000
      · have hin := in_yes h0
        rw [hin] at HI
        have e2 : ¬ n ≤ (lo.length : Int) := by omega
        have e3 : ¬ (5000 : Int) < (rs.length : Int) := by omega
        have h4 : lo.length < 1000 := by omega
        have HQ : Hid (mayA lo = true → quF n lo rs = unpF (5000 - lo.length) rs) := fun hm => quF_yes (okQ_iff.2 ⟨⟨h0.1, h0.2, h2, h3⟩, hm⟩)
        have HBar : Hid (mayA lo = false → quF n lo rs = none) := fun hm => quF_barred hm
        generalize QdP w lo (quF n lo rs) = P at *
        generalize quF n lo rs = o at *
        clear hin
        go_enter Try.func30, Try.ntmps30
        go_wp2_with fail
        refine (HI.out _).mono ?_
        rintro e w1 ⟨rfl, rfl⟩
        have Q0 := QX.new w (.int .i64 n) (.slice a lo.length cap) (.slice c rs.length cap2)
        have B0 : Hid (Below w.heap.size w (w.alloc (.cells #[.int .i64 n, .slice a lo.length cap, .slice c rs.length cap2] 25))) := hb _
        have hs0 : w.heap.size < (w.alloc (.cells #[.int .i64 n, .slice a lo.length cap, .slice c rs.length cap2] 25)).heap.size := by simp
        have R0 : Hid (QuR (w.alloc (.cells #[.int .i64 n, .slice a lo.length cap, .slice c rs.length cap2] 25)) (.slice a lo.length cap) (.slice c rs.length cap2) lo rs) := HR.out.below (hb _) (Nat.le_refl _)
        generalize w.alloc (.cells #[.int .i64 n, .slice a lo.length cap, .slice c rs.length cap2] 25) = W0 at *
        obtain ⟨q0, q1, q2⟩ := Q0.cells
        have QQ : Hid (QX W0 w.heap.size (.int .i64 n) (.slice a lo.length cap) (.slice c rs.length cap2)) := Q0
        clear Q0 HR HI hb h0
        go_wp2_with fail
        go_loopw [4, 5] (fun x i wr => ∃ k : Nat, k ≤ lo.length ∧ i = .int .i64 k ∧ mayA (lo.take k) = true ∧ wr.ownsRow W0.heap.size 27 2 x (lo.take k).length ((lo.take k).flatMap encM) ∧ Below W0.heap.size W0 wr) (fun _ i _ => lo.length - (intOf i).toNat)
        case atStart => exact ⟨0, by omega, rfl, rfl, World.ownsRow_nil _ _ _ _, Below.refl _ _⟩
        case round =>
          obtain ⟨k, hk, rfl, hmy, hown, hbel⟩ := hrel
          have MY : Hid (mayA (lo.take k) = true) := hmy
          have OW : Hid (wr.ownsRow W0.heap.size 27 2 u4 (lo.take k).length ((lo.take k).flatMap encM)) := hown
          have HB : Hid (Below W0.heap.size W0 wr) := hbel
          have hsr := hbel.size
          obtain ⟨r0, r1, r2⟩ := (QQ.out.below hbel hs0).cells
          have QR : Hid (QX wr w.heap.size (.int .i64 n) (.slice a lo.length cap) (.slice c rs.length cap2)) := QQ.out.below hbel hs0
          obtain ⟨ua, uc, rfl⟩ := (MlR.ownd hown).shape
          clear hmy hown hbel q0 q1 q2
          by_cases hlt : k < lo.length
          · obtain ⟨b, off, cap', e1, _, _, lt, hv⟩ := MlR.at (R0.out.1.below HB.out (Nat.le_refl _)) (by omega)
            injection e1 with e1 e9 e8
            subst e1 e8
            clear e9
            obtain ⟨x, hx⟩ := getX hlt
            obtain ⟨c1, c2⟩ := hv k x hx
            have HX : Hid (lo[k]? = some x) := hx
            have p0 : (0 : Int) ≤ (k : Int) := by omega
            have p1 : (k : Int) < (lo.length : Int) := by omega
            clear hv hx
            have HM : Hid (∀ X, Calls Try.prog 31 #[.agg #[.int .i64 x.1, .int .i64 x.2]] X fun e w' => e = .returned (.bool (mayM x)) ∧ Below X.heap.size X w') := fun X => mailMay_any x X
            cases hmx : mayM x
            · have HE : Hid (∀ w', Below w.heap.size w w' → P (.returned (.tuple #[.slice none 0 0, .bool false])) w') := HNo.out (HBar.out (mayA_hit HX.out hmx))
              rw [hmx] at HM
              clear hmx
              go_wp2_with fail
              refine (HM.out _).mono ?_
              rintro e w2 ⟨rfl, hb2⟩
              have HX : Hid (P (.returned (.tuple #[.slice none 0 0, .bool false])) w2) := HE.out _ ((B0.out.trans (HB.out.mono (by omega))).trans (hb2.mono (by omega)))
              clear hb2
              go_wp2_with fail
              exact HX.out
            · have MY2 : Hid (mayA (lo.take (k + 1)) = true) := mayA_cut HX.out MY.out hmx
              have HT : Hid (lo.take (k + 1) = lo.take k ++ [x]) := take_snoc HX.out
              have hlk : (lo.take k).length ≤ 1000 := by simp; omega
              rw [hmx] at HM
              clear hmx
              go_wp2_with fail
              refine (HM.out _).mono ?_
              rintro e w2 ⟨rfl, hb2⟩
              have O2 : Hid (w2.ownsRow W0.heap.size 27 2 (.slice ua (lo.take k).length uc) (lo.take k).length ((lo.take k).flatMap encM)) := own_below OW.out hb2 (Nat.le_refl _)
              have B2 : Hid (Below W0.heap.size W0 w2) := HB.out.trans (hb2.mono hsr)
              have hs2 := B2.out.size
              have d1 := (hb2.cell (p := ⟨b, off + k * 2, none⟩) lt).trans c1
              have d2 := (hb2.cell (p := ⟨b, off + k * 2 + 1, none⟩) lt).trans c2
              obtain ⟨s0, s1, s2⟩ := (QR.out.below hb2 (by omega)).cells
              clear hb2 OW HB r0 r1 r2 c1 c2 QR
              generalize lo.take k = t at *
              go_wp2_with (at_builtin; refine wpList_append_newK kM rfl _ _ rfl W0.heap.size _ t rfl (O2.out.alloc _) w2.heap.size x rfl #[.int .i64 x.1, .int .i64 x.2] rfl (0, 0) (heap_alloc_new _ _) (by simp [kM]; omega) (by unfold maxLen; omega) (by simp; omega) ?_)
              intro g gc w3 hown3 hb3 _
              have O3 : Hid (w3.ownsRow W0.heap.size 27 2 (.slice (some ⟨g, 0, none⟩) (t.length + 1) gc) (lo.take (k + 1)).length ((lo.take (k + 1)).flatMap encM)) := by show World.ownsRow _ _ _ _ _ _ _; rw [HT.out]; simpa [kM] using hown3
              have B3 : Hid (Below W0.heap.size W0 w3) := (B2.out.alloc hs2 _).trans hb3
              clear hown3 hb3
              go_wp2_with fail
              go_roundw
              case rel => exact ⟨k + 1, by omega, by go_num, MY2.out, O3.out, B3.out⟩
              case measure => simp [intOf]; omega
          · have ek : lo.take k = lo := List.take_of_length_le (by omega)
            rw [ek] at MY OW ⊢
            have OQ : Hid (o = unpF (5000 - lo.length) rs) := HQ.out MY.out
            clear HQ HBar MY ek
            have OWl : Hid (wr.ownsRow W0.heap.size 27 2 (.slice ua lo.length uc) lo.length (lo.flatMap encM)) := OW.out
            have HZ : Hid (UpTo (5000 - lo.length) rs 0 []) := UpTo.zero _ _
            obtain ⟨R, hR1, hR2⟩ : ∃ R : Nat, lo.length + R ≤ 5000 ∧ 5000 ≤ lo.length + R ∧ 5000 - lo.length = R := ⟨5000 - lo.length, by omega, by omega, rfl⟩
            rw [hR2.2] at OQ HZ
            have hR3 := hR2.1
            clear hR2 OW
            go_wp2_with fail
            go_loopw [4, 6] (fun x i ws => ∃ (k : Nat) (f : List (List Ml)), k ≤ rs.length ∧ i = .int .i64 k ∧ UpTo R rs k f ∧ ws.ownsRow W0.heap.size 27 2 x (lo ++ f.flatten).length ((lo ++ f.flatten).flatMap encM) ∧ Below W0.heap.size W0 ws) (fun _ i _ => rs.length - (intOf i).toNat)
            case atStart => exact ⟨0, [], by omega, rfl, HZ.out, by simpa using OWl.out, HB.out⟩
            case round =>
              obtain ⟨j, f, hj, rfl, hto, hown, hbel⟩ := hrel
              have TO : Hid (UpTo R rs j f) := hto
              have OA : Hid (wr.ownsRow W0.heap.size 27 2 u4 (lo ++ f.flatten).length ((lo ++ f.flatten).flatMap encM)) := hown
              have HB1 : Hid (Below W0.heap.size W0 wr) := hbel
              have hsr1 := hbel.size
              obtain ⟨r0, r1, r2⟩ := (QQ.out.below hbel hs0).cells
              have QR1 : Hid (QX wr w.heap.size (.int .i64 n) (.slice a lo.length cap) (.slice c rs.length cap2)) := QQ.out.below hbel hs0
              have hsum := hto.2.1
              have hfl : (lo ++ f.flatten).length ≤ lo.length + sumM f := by rw [List.length_append, sumM_flat]; omega
              have hfl2 : lo.length + sumM f ≤ (lo ++ f.flatten).length := by rw [List.length_append, sumM_flat]; omega
              obtain ⟨va, vc, rfl⟩ := (MlR.ownd hown).shape
              clear hto hown hbel HZ OWl
              by_cases hlt2 : j < rs.length
              · obtain ⟨b, off, cap', e1, lt, _, _, hv⟩ := (R0.out.2.below HB1.out (Nat.le_refl _)).at (by omega)
                injection e1 with e1 e9 e8
                subst e1 e8
                clear e9
                obtain ⟨l, hl⟩ := getX hlt2
                obtain ⟨u, hu, hpr⟩ := hv j l hl
                have HK : Hid (rs[j]? = some l) := hl
                have HU : Hid (∀ X, Reads .u8 X u l → Calls Try.prog 45 #[u] X (RunP X ((runF l).getD []))) := fun X hX => runOf_any u l X hX (HBY.out l (List.mem_of_getElem? hl)).1 (HBY.out l (List.mem_of_getElem? hl)).2
                have HP : Hid (Reads .u8 wr u l) := hpr
                obtain ⟨xa, xc, rfl, _⟩ := id hpr
                have p0 : (0 : Int) ≤ (j : Int) := by omega
                have p1 : (j : Int) < (rs.length : Int) := by omega
                clear hl hv hpr
                cases hrf : runF l with
                | none =>
                  have HE : Hid (∀ w', Below w.heap.size w w' → P (.returned (.tuple #[.slice none 0 0, .bool false])) w') := HNo.out (OQ.out.trans (TO.out.bad HK.out hrf))
                  rw [hrf] at HU
                  clear hrf
                  generalize (lo ++ f.flatten).length = tl at *
                  go_wp2_with fail
                  refine (HU.out _ HP.out).mono ?_
                  rintro e w2 ⟨v2, rfl, ho2, hb2⟩
                  have HX : Hid (P (.returned (.tuple #[.slice none 0 0, .bool false])) w2) := HE.out _ ((B0.out.trans (HB1.out.mono (by omega))).trans (hb2.mono (by omega)))
                  obtain ⟨ya, yc, rfl⟩ := (MlR.ownd (show w2.ownsRow wr.heap.size 27 2 v2 ([] : List Ml).length (([] : List Ml).flatMap encM) from ho2)).shape
                  clear hb2 ho2
                  go_wp2_with fail
                  exact HX.out
                | some x =>
                  obtain ⟨hx1, hx2, _, _⟩ := runF_inv hrf
                  rw [hrf] at HU
                  have hx0 : ((x.length : Int) == 0) = false := by
                    rw [beq_eq_false_iff_ne]
                    omega
                  by_cases hx : sumM f + x.length ≤ R
                  · have TO2 : Hid (UpTo R rs (j + 1) (f ++ [x])) := TO.out.step HK.out hrf hx
                    have HF : Hid (lo ++ (f ++ [x]).flatten = lo ++ f.flatten ++ x) := by show _ = _; simp
                    have htx : (lo ++ f.flatten).length + x.length ≤ 5000 := by omega
                    clear hrf hx TO hfl hfl2 hsum
                    generalize lo ++ f.flatten = t at *
                    obtain ⟨tx, htw, ht5⟩ : ∃ tx : Int, IntKind.i64.wrap ((t.length : Int) + (x.length : Int)) = tx ∧ ¬ 5000 < tx := ⟨_, rfl, by rw [IntKind.wrap_i64]; omega⟩
                    go_wp2_with fail
                    refine (HU.out _ HP.out).mono ?_
                    rintro e w2 ⟨v2, rfl, ho2, hb2⟩
                    have OX : Hid (w2.ownsRow wr.heap.size 27 2 v2 x.length (x.flatMap encM)) := ho2
                    have O2 : Hid (w2.ownsRow W0.heap.size 27 2 (.slice va t.length vc) t.length (t.flatMap encM)) := own_below OA.out hb2 (Nat.le_refl _)
                    have B2 : Hid (Below W0.heap.size W0 w2) := HB1.out.trans (hb2.mono hsr1)
                    have AP : Hid (AptM v2 (.slice va t.length vc)) := fun g g1 g2 => by
                      have k1 := (own_geM ho2 g1).1
                      have k2 := (own_geM OA.out g2).2
                      omega
                    obtain ⟨ya, yc, rfl⟩ := (MlR.ownd OX.out).shape
                    obtain ⟨WB, OB⟩ : ∃ WB : Nat, Hid (w2.ownsRow WB 27 2 (.slice ya x.length yc) x.length (x.flatMap encM)) := ⟨_, OX⟩
                    clear ho2 hb2 OA HB1 r0 r1 r2 OX
                    go_wp2_with fail
                    go_loopw [4, 8] (fun y i ws => ∃ (i2 : Nat), i2 ≤ x.length ∧ i = .int .i64 i2 ∧ ws.ownsRow W0.heap.size 27 2 y (t ++ x.take i2).length ((t ++ x.take i2).flatMap encM) ∧ ws.ownsRow WB 27 2 (.slice ya x.length yc) x.length (x.flatMap encM) ∧ AptM (.slice ya x.length yc) y ∧ Below W0.heap.size W0 ws) (fun _ i _ => x.length - (intOf i).toNat)
                    case atStart => exact ⟨0, by omega, rfl, by simpa using O2.out, OB.out, AP.out, B2.out⟩
                    case round =>
                      obtain ⟨m, hm, rfl, hown, hox, hap, hbel⟩ := hrel
                      have O3 : Hid (wr.ownsRow W0.heap.size 27 2 u4 (t ++ x.take m).length ((t ++ x.take m).flatMap encM)) := hown
                      have OX3 : Hid (wr.ownsRow WB 27 2 (.slice ya x.length yc) x.length (x.flatMap encM)) := hox
                      have AP3 : Hid (AptM (.slice ya x.length yc) u4) := hap
                      have B3 : Hid (Below W0.heap.size W0 wr) := hbel
                      have hs3 := hbel.size
                      obtain ⟨za, zc, rfl⟩ := (MlR.ownd hown).shape
                      clear hown hbel hap hox OB O2 B2 AP
                      by_cases hlt3 : m < x.length
                      · obtain ⟨b2, off2, cap3, e1, _, _, lt2, hv⟩ := MlR.at (MlR.ownd OX3.out) (by omega)
                        injection e1 with e1 e9 e8
                        subst e1 e8
                        clear e9
                        obtain ⟨z, hz⟩ := getX hlt3
                        obtain ⟨c1, c2⟩ := hv m z hz
                        have HT : Hid (t ++ x.take (m + 1) = (t ++ x.take m) ++ [z]) := by show _ = _; rw [take_snoc hz, List.append_assoc]
                        have hlk : (t ++ x.take m).length ≤ 5000 := by simp; omega
                        have p2 : (0 : Int) ≤ (m : Int) := by omega
                        have p3 : (m : Int) < (x.length : Int) := by omega
                        clear hv hz
                        generalize t ++ x.take m = tm at *
                        go_wp2_with (at_builtin; refine wpList_append_atK kM rfl _ _ rfl W0.heap.size _ tm rfl (O3.out.alloc _) wr.heap.size z rfl #[.int .i64 z.1, .int .i64 z.2] rfl (0, 0) (heap_alloc_new _ _) (by simp [kM]; omega) (by unfold maxLen; omega) (by simp; omega) ?_)
                        intro g gc w4 hown4 hb4 hg4 hl4
                        have O4 : Hid (w4.ownsRow W0.heap.size 27 2 (.slice (some ⟨g, 0, none⟩) (tm.length + 1) gc) (t ++ x.take (m + 1)).length ((t ++ x.take (m + 1)).flatMap encM)) := by show World.ownsRow _ _ _ _ _ _ _; rw [HT.out]; simpa [kM] using hown4
                        have B4 : Hid (Below W0.heap.size W0 w4) := (B3.out.alloc hs3 _).trans hb4
                        have OX4 : Hid (w4.ownsRow WB 27 2 (.slice (some ⟨b2, off2, none⟩) x.length yc) x.length (x.flatMap encM)) := (OX3.out.alloc _).kept hg4 AP3.out.or
                        have AP4 : Hid (AptM (.slice (some ⟨b2, off2, none⟩) x.length yc) (.slice (some ⟨g, 0, none⟩) (tm.length + 1) gc)) := fun q k1 k2 => by
                          injection k2 with k2
                          rcases hl4 with h4 | h4
                          · exact AP3.out q k1 (by rw [h4, ← k2])
                          · have := (own_geM OX3.out k1).2
                            have h5 : wr.heap.size ≤ g := by rw [h4]; simp
                            have h6 : g = q := k2
                            omega
                        clear hown4 hb4 hg4 hl4
                        go_wp2_with fail
                        go_roundw
                        case rel => exact ⟨m + 1, by omega, by go_num, O4.out, OX4.out, AP4.out, B4.out⟩
                        case measure => simp [intOf]; omega
                      · have ek : x.take m = x := List.take_of_length_le (by omega)
                        have O4 : Hid (wr.ownsRow W0.heap.size 27 2 (.slice za (t ++ x.take m).length zc) (lo ++ (f ++ [x]).flatten).length ((lo ++ (f ++ [x]).flatten).flatMap encM)) := by
                          show World.ownsRow _ _ _ _ _ _ _
                          have h := O3.out
                          rw [HF.out]
                          rw [ek] at h ⊢
                          exact h
                        clear ek O3
                        generalize (t ++ x.take m).length = tl at *
                        go_wp2_with fail
                        go_roundw
                        case rel => exact ⟨j + 1, f ++ [x], by omega, by go_num, TO2.out, O4.out, B3.out⟩
                        case measure => simp [intOf]; omega
                  · have HE : Hid (∀ w', Below w.heap.size w w' → P (.returned (.tuple #[.slice none 0 0, .bool false])) w') := HNo.out (OQ.out.trans (TO.out.much HK.out hrf (by omega)))
                    have htx : 5000 < (lo ++ f.flatten).length + x.length := by omega
                    have hty : (lo ++ f.flatten).length + x.length ≤ 7000 := by omega
                    clear hrf hx TO hfl hfl2 hsum OA
                    generalize (lo ++ f.flatten).length = tl at *
                    obtain ⟨tx, htw, ht5⟩ : ∃ tx : Int, IntKind.i64.wrap ((tl : Int) + (x.length : Int)) = tx ∧ 5000 < tx := ⟨_, rfl, by rw [IntKind.wrap_i64]; omega⟩
                    go_wp2_with fail
                    refine (HU.out _ HP.out).mono ?_
                    rintro e w2 ⟨v2, rfl, ho2, hb2⟩
                    have HX : Hid (P (.returned (.tuple #[.slice none 0 0, .bool false])) w2) := HE.out _ ((B0.out.trans (HB1.out.mono (by omega))).trans (hb2.mono (by omega)))
                    obtain ⟨ya, yc, rfl⟩ := (MlR.ownd (show w2.ownsRow wr.heap.size 27 2 v2 x.length (x.flatMap encM) from ho2)).shape
                    clear hb2 ho2
                    go_wp2_with fail
                    exact HX.out
              · have HX : Hid (P (.returned (.tuple #[.slice va (lo ++ f.flatten).length vc, .bool true])) wr) := HYes.out f (OQ.out.trans (TO.out.done (by omega))) _ _ (own_lower OA.out (by omega)) (B0.out.trans (HB1.out.mono (by omega)))
                clear TO OA hfl hfl2
                generalize (lo ++ f.flatten).length = tl at *
                go_wp2_with fail
                exact HX.out
      · have HE : Hid (∀ w', Below w.heap.size w w' → QdP w lo (quF n lo rs) (.returned (.tuple #[.slice none 0 0, .bool false])) w') := HNo.out (quF_runs h3)
        generalize QdP w lo (quF n lo rs) = P at *
        have hin := in_yes h0
        rw [hin] at HI
        have e2 : ¬ n ≤ (lo.length : Int) := by omega
        have e3 : (5000 : Int) < (rs.length : Int) := by omega
        clear hin HNo HYes
        go_enter Try.func30, Try.ntmps30
        go_wp2_with fail
        refine (HI.out _).mono ?_
        rintro e w1 ⟨rfl, rfl⟩
        go_wp2_with fail
        exact HE.out _ (hb _)
    · have HE : Hid (∀ w', Below w.heap.size w w' → QdP w lo (quF n lo rs) (.returned (.tuple #[.slice none 0 0, .bool false])) w') := HNo.out (quF_loose h2)
      generalize QdP w lo (quF n lo rs) = P at *
      have hin := in_yes h0
      rw [hin] at HI
      have e2 : n ≤ (lo.length : Int) := by omega
      clear hin HNo HYes
      go_enter Try.func30, Try.ntmps30
      go_wp2_with fail
      refine (HI.out _).mono ?_
      rintro e w1 ⟨rfl, rfl⟩
      go_wp2_with fail
      exact HE.out _ (hb _)
  · have HE : Hid (∀ w', Below w.heap.size w w' → QdP w lo (quF n lo rs) (.returned (.tuple #[.slice none 0 0, .bool false])) w') := HNo.out (quF_budget h0)
    generalize QdP w lo (quF n lo rs) = P at *
    have hin := in_no h0
    rw [hin] at HI
    clear hin HNo HYes
    go_enter Try.func30, Try.ntmps30
    go_wp2_with fail
    refine (HI.out _).mono ?_
    rintro e w1 ⟨rfl, rfl⟩
    go_wp2_with fail
    exact HE.out _ (hb _)
end Go.Proofs.Ytihghhmhgakkaaa

namespace Go.Proofs.Ytihghhmhgakkaaa
set_option maxRecDepth 100000
open Go.ChangeShapes Go.WideShapes Go.ChangeAt Go.RowKit
attribute [local go_sem ↓] exec_append

set_option maxHeartbeats 400000 in
theorem bytesOf_any (v : Value) (xs : List Int) (w : World) (h : Reads .u8 w v xs) (hl : xs.length ≤ 140737488355328) :
    Calls Try.prog 32 #[v] w fun e w' =>
      ∃ v', e = .returned v' ∧ w'.ownsRow w.heap.size 5 1 v' xs.length (xs.map (Value.int .u8)) ∧ Below w.heap.size w w' := by
  have HR : Hid (Reads .u8 w v xs) := h
  obtain ⟨a, cap, rfl, hc, hm, ha, _⟩ := h
  clear ha
  unfold maxLen at hm
  go_enter Try.func32, Try.ntmps32
  go_wp2_with fail
  go_loopw [3, 4] (fun v i wr => ∃ k : Nat, k ≤ xs.length ∧ i = .int .i64 k ∧ wr.ownsRow w.heap.size 5 1 v (xs.take k).length ((xs.take k).map (Value.int .u8)) ∧ Below w.heap.size w wr) (fun _ i _ => xs.length - (intOf i).toNat)
  case atStart => exact ⟨0, by omega, rfl, World.ownsRow_nil _ _ _ _, Below.refl _ _⟩
  case round =>
    obtain ⟨k, hk, rfl, hown, hbel⟩ := hrel
    have hs := hbel.size
    by_cases hlt : k < xs.length
    · obtain ⟨b, off, cap', e1, hc, hm, hb, hcell⟩ := (HR.out.below hbel (Nat.le_refl _)).plain (by omega)
      injection e1 with e1 _ e3
      subst e1 e3
      have hck := hcell k hlt
      have HTk : Hid (xs.take (k + 1) = xs.take k ++ [xs.getD k 0]) := take_snocI hlt
      have hlen : (xs.take k).length ≤ 140737488355327 := by simp; omega
      generalize xs.getD k 0 = x at *
      have OW : Hid (wr.ownsRow w.heap.size 5 1 u3 (xs.take k).length ((xs.take k).map (Value.int .u8))) := hown
      clear hown
      generalize xs.take k = f at *
      clear hcell
      go_wp2_with (at_builtin; refine wpList_append_reads rfl _ _ rfl w.heap.size _ f rfl (OW.out.alloc _) _ [x] rfl (reads_block (xs := [x]) (heap_alloc_new _ _) (by simp [maxLen])) (by simp; omega) (by simp; omega) ?_)
      intro v2 w2 hown2 hbel2 _
      have B2 : Hid (Below w.heap.size w w2) := (hbel.alloc hs _).trans hbel2
      have O2 : Hid (w2.ownsRow w.heap.size 5 1 v2 (xs.take (k + 1)).length ((xs.take (k + 1)).map (Value.int .u8))) := by show World.ownsRow _ _ _ _ _ _ _; rw [HTk.out]; simpa using hown2
      clear hown2 hbel2 hbel
      go_wp2
      go_roundw
      case rel => exact ⟨k + 1, by omega, by go_num, O2.out, B2.out⟩
      case measure => simp [intOf]; omega
    · have ek : xs.take k = xs := List.take_of_length_le (by omega)
      rw [ek] at hown
      have OW : Hid (wr.ownsRow w.heap.size 5 1 u3 xs.length (xs.map (Value.int .u8))) := hown
      clear hown ek
      go_wp2_with fail
      go_ret
      exact ⟨_, rfl, OW.out, hbel⟩
end Go.Proofs.Ytihghhmhgakkaaa
