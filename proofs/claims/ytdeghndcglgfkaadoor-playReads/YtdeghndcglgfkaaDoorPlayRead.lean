/-
  Contract of play.Read: P17.4.
-/
import Derived.Test.YtdeghndcglgfkaaDoorPlayLines
import Derived.Test.YtdeghndcglgfkaaDoorPlayLine
import Derived.Test.YtdeghndcglgfkaaDoorFuncLib
namespace Go.Proofs.YtdeghndcglgfkaaDoor
set_option maxRecDepth 100000
open Go.RowKit Go.Shelf
attribute [local go_sem] Oper.semAt_some

/-- The moves of the lines so far. -/
def mvsL (pre : List Ln) : List Mv := pre.map fun x => guessM (lineB x)
theorem mvs_snoc (pre : List Ln) (x : Ln) : mvsL (pre ++ [x]) = mvsL pre ++ [guessM (lineB x)] := by simp [mvsL]
/-- Between two rounds: what the boxes hold. -/
def InP (w : World) (pre : List Ln) (W : World) : Prop :=
  (∀ p ∈ pre, okP (lineB p)) ∧ (∃ u, W.heap[w.heap.size + 2]? = some (.cells #[u] 22 (0, 0)) ∧ W.ownsRow (w.heap.size + 4) 34 3 u (mvsL pre).length ((mvsL pre).flatMap encE)) ∧
    W.heap[w.heap.size]? = some (.cells #[.slice none 0 0] 22 (0, 0)) ∧ W.heap[w.heap.size + 1]? = some (.cells #[.int .i64 0] 24 (0, 0)) ∧ w.heap.size + 4 ≤ W.heap.size
theorem inP_own (w : World) : Own (InP w) := by
  rintro pre A B row ⟨h0, ⟨u, h1, h2⟩, h3, h4, h5⟩ hg hr
  exact ⟨h0, ⟨u, block_kept h1 hg hr, row_kept h2 hg hr⟩, block_kept h3 hg hr, block_kept h4 hg hr, Nat.le_trans h5 hg.size⟩
/-- Behind a line that is no move's. -/
def OutP (w : World) (c : Code) (pre : List Ln) (W : World) : Prop :=
  c = .ret ∧ (∃ p ∈ pre, ¬ okP (lineB p)) ∧ W.heap[w.heap.size]? = some (.cells #[.slice none 0 0] 22 (0, 0)) ∧ W.heap[w.heap.size + 1]? = some (.cells #[.int .i64 3] 24 (0, 0))
theorem outP_own (w : World) (c : Code) : Own (OutP w c) := by
  rintro pre A B row ⟨h0, h1, h2, h3⟩ hg hr
  exact ⟨h0, h1, block_kept h2 hg hr, block_kept h3 hg hr⟩
/-- What Read answers. -/
def RdP (w : World) (L : List UInt8) (e : Ending) (w' : World) : Prop :=
  ∃ v l f, e = .returned (.tuple #[v, .int .i64 f]) ∧ RdS L l f ∧ w'.ownsRow w.heap.size 34 3 v l.length (l.flatMap encE) ∧ Below w.heap.size w w'

set_option maxHeartbeats 4000000 in
theorem read_big (s : ByteArray) (hb : 5000000 < s.size) (w : World) : Calls Tryd.prog 11 #[.string s] w (RdP w s.data.toList) := by
  have hl : s.data.toList.length = s.size := Array.length_toList
  have HS : Hid (RdS s.data.toList [] 1) := .inl ⟨by omega, rfl, rfl⟩
  have h1 : (5000000 : Int) < (s.size : Int) := by omega
  generalize s.data.toList = L at HS ⊢
  clear hl
  go_enter Tryd.func11, Tryd.ntmps11
  go_wp2
  refine bodyPost_ret (v := .tuple #[.slice none 0 0, .int .i64 1]) (by simp [results, Tryd.results11, go_sem]) rfl ⟨_, [], 1, rfl, HS.out, World.ownsRow_nil _ _ _ _, ?_⟩
  exact ((Below.refl _ w).alloc (Nat.le_refl _) _).alloc (by simp) _

set_option maxHeartbeats 8000000 in
theorem read_small (s : ByteArray) (hs : s.size ≤ 5000000) (w : World) (hF : FrmF w.heap.size w) (hV : VarF w.heap.size w) : Calls Tryd.prog 11 #[.string s] w (RdP w s.data.toList) := by
  have HF : Hid (FrmF w.heap.size w) := hF
  have HV : Hid (VarF w.heap.size w) := hV
  have hl : s.data.toList.length = s.size := Array.length_toList
  have h1 : ¬ (5000000 : Int) < (s.size : Int) := by omega
  have HALL : Hid (∀ ys : List Ln, ys.map lineB = pcs s.size s.data.toList → (∀ p ∈ ys, okP (lineB p)) → (100000 < (mvsL ys).length → RdS s.data.toList [] 1) ∧ ((mvsL ys).length ≤ 100000 → RdS s.data.toList (mvsL ys) 0)) := by
    intro ys hys hok
    have e : mvsL ys = (pcs s.size s.data.toList).map guessM := by rw [← hys, mvsL, List.map_map]; rfl
    obtain ⟨q1, q2⟩ := pcs_all (L := s.data.toList) (P := pcs s.size s.data.toList) (by rw [hl]) (fun p hp => by
      rw [← hys] at hp
      obtain ⟨x, hx, rfl⟩ := List.mem_map.1 hp
      exact hok x hx)
    rw [← e] at q1 q2
    exact ⟨fun hlt => .inr ⟨by omega, .inl ⟨_, q1, q2, .inl ⟨hlt, rfl, rfl⟩⟩⟩, fun hle => .inr ⟨by omega, .inl ⟨_, q1, q2, .inr ⟨hle, rfl, rfl⟩⟩⟩⟩
  have HBAD : Hid (∀ pre : List Ln, (∃ r, pre.map lineB ++ r = pcs s.size s.data.toList) → (∃ p ∈ pre, ¬ okP (lineB p)) → RdS s.data.toList [] 3) := by
    rintro pre ⟨r, hr⟩ ⟨p, hp, hno⟩
    refine .inr ⟨by omega, .inr ⟨pcs_bad (p := lineB p) ?_ hno, rfl, rfl⟩⟩
    rw [hl, ← hr]
    exact List.mem_append_left _ (List.mem_map.2 ⟨p, hp, rfl⟩)
  obtain ⟨L, hL⟩ : ∃ L, L = s.data.toList := ⟨_, rfl⟩
  rw [← hL] at HALL HBAD ⊢
  refine (callsIn_wide (n := 5)).1 ?_
  refine callsIn_of_wp_marks Tryd.func11 rfl trivial ?_ rfl
  simp only [Tryd.ntmps11, List.size_toArray, List.length_cons, List.length_nil, Nat.reduceAdd, Nat.reduceSub, Array.replicate_succ, Array.replicate_zero, List.push_toArray, List.append_toArray, List.nil_append, List.cons_append]
  gi_wp2_with (refine ⟨trivial, ?_⟩; gi_at_call 18; refine (callsIn_wide.2 (lines_in _ _)).mono ?_; rintro e w' ⟨rfl, rfl⟩)
  have hB0 : Below w.heap.size w ((((w.alloc (.cells #[.slice none 0 0] 22)).alloc (.cells #[.int .i64 0] 24)).alloc (.cells #[.slice none 0 0] 22)).alloc (.cells #[.string s] 9)) := ((((Below.refl _ w).alloc (Nat.le_refl _) _).alloc (by simp) _).alloc (by simp; omega) _).alloc (by simp; omega) _
  have hI0 : InP w [] ((((w.alloc (.cells #[.slice none 0 0] 22)).alloc (.cells #[.int .i64 0] 24)).alloc (.cells #[.slice none 0 0] 22)).alloc (.cells #[.string s] 9)) := by
    refine ⟨fun p hp => by simp at hp, ⟨.slice none 0 0, ?_, World.ownsRow_nil _ _ _ _⟩, ?_, ?_, by simp⟩
    · refine (Below.heap_alloc _ _ _ (by simp)).trans ?_
      have := heap_alloc_new ((w.alloc (.cells #[.slice none 0 0] 22)).alloc (.cells #[.int .i64 0] 24)) (.cells #[.slice none 0 0] 22)
      simpa using this
    · exact (Below.heap_alloc _ _ _ (by simp; omega)).trans ((Below.heap_alloc _ _ _ (by simp; omega)).trans ((Below.heap_alloc _ _ _ (by simp)).trans (heap_alloc_new _ _)))
    · refine (Below.heap_alloc _ _ _ (by simp)).trans ((Below.heap_alloc _ _ _ (by simp)).trans ?_)
      have := heap_alloc_new (w.alloc (.cells #[.slice none 0 0] 22)) (.cells #[.int .i64 0] 24)
      simpa using this
  have hBs : ((((w.alloc (.cells #[.slice none 0 0] 22)).alloc (.cells #[.int .i64 0] 24)).alloc (.cells #[.slice none 0 0] 22)).alloc (.cells #[.string s] 9)).cell? ⟨w.heap.size + 1 + 1 + 1, 0, none⟩ = some (.string s) := by
    have := BX.new 9 (((w.alloc (.cells #[.slice none 0 0] 22)).alloc (.cells #[.int .i64 0] 24)).alloc (.cells #[.slice none 0 0] 22)) #[.string s]
    have h2 := this.cell 0
    simpa using h2
  have hsz : ((((w.alloc (.cells #[.slice none 0 0] 22)).alloc (.cells #[.int .i64 0] 24)).alloc (.cells #[.slice none 0 0] 22)).alloc (.cells #[.string s] 9)).heap.size = w.heap.size + 4 := by simp
  generalize (((w.alloc (.cells #[.slice none 0 0] 22)).alloc (.cells #[.int .i64 0] 24)).alloc (.cells #[.slice none 0 0] 22)).alloc (.cells #[.string s] 9) = W0 at hB0 hI0 hBs hsz ⊢
  refine wpIn_rangeFunc_ownF rfl (by omega) (gf := 28) (lb := #[.pointer (some ⟨w.heap.size + 1 + 1 + 1, 0, none⟩)]) rfl trivial (enters_of Tryd.func28 (by kernel_rfl) rfl)
    (lines_stops (w.heap.size + 1 + 1 + 1) w.heap.size s hs W0 hBs) belowK_t (belowK_b (by omega)) (Below.refl _ _) (fun _ => rfl)
    (fun pre W => InP w pre W ∧ Below w.heap.size w W) (fun c pre W => OutP w c pre W ∧ Below w.heap.size w W)
    (OwnFrom.and (Own.from (inP_own w) _) (ownFrom_below (Nat.le_refl _) (by omega)))
    (fun c => OwnFrom.and (Own.from (outP_own w c) _) (ownFrom_below (Nat.le_refl _) (by omega)))
    ⟨hI0, hB0⟩
    (fun x => { tmps := #[.string s, undef, .pointer (some ⟨w.heap.size, 0, none⟩), .pointer (some ⟨w.heap.size + 1, 0, none⟩), .pointer (some ⟨w.heap.size + 1 + 1, 0, none⟩), .string x.1, undef, undef, undef, .string s, .int .i64 s.size, .bool false, .string s, .func (.func 28) #[] #[.pointer (some ⟨w.heap.size + 1 + 1 + 1, 0, none⟩)], .string x.1, undef, undef, undef, undef, undef, undef, undef, undef, undef, undef, undef, undef, undef, undef, undef, undef, undef, undef, undef, undef, undef, undef], defers := [] }) ?assign ?body ?done ?stop
  case assign =>
    intro l x W K hK
    gi_wp2
    exact hK
  case stop =>
    rintro D c pre W hD hS ⟨⟨rfl, hbad, h2, h3⟩, hB⟩ hK
    rw [← hL] at hS
    have HR := Lib.hid (HBAD.out pre hS hbad)
    gi_wp2
    refine ⟨by simp, .inl ⟨_, _, rfl, run_takeDeferred hK, ?_⟩⟩
    have hr : ∀ r, (some D : Option Nat) = some r → ∃ o : Obj, W.heap[r]? = some o ∧ o.isCells = false := fun r e => by cases e; exact ⟨_, hK, rfl⟩
    have b2 := block_kept h2 (grownBy_putObj' _ D (.deferred none)) hr
    have b3 := block_kept h3 (grownBy_putObj' _ D (.deferred none)) hr
    have r0 : (W.putObj D (.deferred none)).cell? ⟨w.heap.size, 0, none⟩ = some (.slice none 0 0) := box1_cell b2
    have r1 : (W.putObj D (.deferred none)).cell? ⟨w.heap.size + 1, 0, none⟩ = some (.int .i64 3) := box1_cell b3
    refine ⟨.tuple #[.slice none 0 0, .int .i64 3], by simp [results, Tryd.results11, go_sem, r0, r1], _, [], 3, rfl, HR.out, World.ownsRow_nil _ _ _ _, hB.trans (belowK_b (w := w) (Nat.le_refl _) _ D _ _ (by omega) hK rfl rfl)⟩
  case done =>
    rintro D ys W hD hS ⟨⟨hok, ⟨u, h1, h2⟩, h3, h4, h5⟩, hB⟩ hK
    rw [← hL] at hS
    obtain ⟨hRb, hRs⟩ := HALL.out ys hS hok
    have O1 : Hid (W.ownsRow (w.heap.size + 4) 34 3 u (mvsL ys).length ((mvsL ys).flatMap encE)) := h2
    obtain ⟨ua, uc, rfl⟩ := (RowK.own encE_len h2).shape
    have hML : (mvsL ys).length ≤ 5000000 := by
      have := congrArg List.length hS
      have h9 := pcs_len s.size L
      rw [hL] at h9
      simp [mvsL] at this ⊢
      rw [hL] at this
      omega
    have c2 : W.cell? ⟨w.heap.size + 1 + 1, 0, none⟩ = some (.slice ua (mvsL ys).length uc) := box1_cell h1
    have d0 : W.cell? ⟨w.heap.size, 0, none⟩ = some (.slice none 0 0) := box1_cell h3
    have d1 : W.cell? ⟨w.heap.size + 1, 0, none⟩ = some (.int .i64 0) := box1_cell h4
    have f0 : W.frozen? ⟨w.heap.size, 0, none⟩ = false := box_frozen h3 0
    have f1 : W.frozen? ⟨w.heap.size + 1, 0, none⟩ = false := box_frozen h4 0
    have HB : Hid (Below w.heap.size w W) := hB
    have HD : Hid (W0.heap.size ≤ D) := hD
    have HK : Hid (W.heap[D]? = some (.deferred (some []))) := hK
    have HX : Hid (W.heap[w.heap.size]? = some (.cells #[.slice none 0 0] 22 (0, 0))) := h3
    have HY : Hid (W.heap[w.heap.size + 1]? = some (.cells #[.int .i64 0] 24 (0, 0))) := h4
    have FIN : Hid (∀ (v : Value) (f : Int) (l : List Mv), RdS L l f → W.ownsRow (w.heap.size + 4) 34 3 v l.length (l.flatMap encE) → ∀ W2, W2 = (W.setCell ⟨w.heap.size, 0, none⟩ v).setCell ⟨w.heap.size + 1, 0, none⟩ (.int .i64 f) →
        W2.heap[D]? = some (.deferred (some [])) ∧ (W2.putObj D (.deferred none)).cell? ⟨w.heap.size, 0, none⟩ = some v ∧ (W2.putObj D (.deferred none)).cell? ⟨w.heap.size + 1, 0, none⟩ = some (.int .i64 f) ∧ RdP w L (.returned (.tuple #[v, .int .i64 f])) (W2.putObj D (.deferred none))) := by
      rintro v f l hrd hv W2 rfl
      have a0 : ((W.setCell ⟨w.heap.size, 0, none⟩ v).setCell ⟨w.heap.size + 1, 0, none⟩ (.int .i64 f)).heap[w.heap.size]? = some (.cells #[v] 22 (0, 0)) := (Below.heap_setCell _ _ _ _ (by simp)).trans (box1_set HX.out)
      have a1 : ((W.setCell ⟨w.heap.size, 0, none⟩ v).setCell ⟨w.heap.size + 1, 0, none⟩ (.int .i64 f)).heap[w.heap.size + 1]? = some (.cells #[.int .i64 f] 24 (0, 0)) := box1_set ((Below.heap_setCell _ _ _ _ (by simp)).trans HY.out)
      have hK2 : ((W.setCell ⟨w.heap.size, 0, none⟩ v).setCell ⟨w.heap.size + 1, 0, none⟩ (.int .i64 f)).heap[D]? = some (.deferred (some [])) := (KeepsOthers.setCell _ _ _).same D _ ((KeepsOthers.setCell _ _ _).same D _ HK.out rfl) rfl
      have O2 := own_setB (own_setB (j := 0) hv (show w.heap.size < w.heap.size + 4 by omega) v) (j := 0) (show w.heap.size + 1 < w.heap.size + 4 by omega) (.int .i64 f)
      have hB2 : Below w.heap.size w ((W.setCell ⟨w.heap.size, 0, none⟩ v).setCell ⟨w.heap.size + 1, 0, none⟩ (.int .i64 f)) := (HB.out.setCell (p := ⟨w.heap.size, 0, none⟩) (Nat.le_refl _) _).setCell (p := ⟨w.heap.size + 1, 0, none⟩) (by simp) _
      generalize (W.setCell ⟨w.heap.size, 0, none⟩ v).setCell ⟨w.heap.size + 1, 0, none⟩ (.int .i64 f) = W2 at a0 a1 hK2 O2 hB2 ⊢
      have hr : ∀ r, (some D : Option Nat) = some r → ∃ o : Obj, W2.heap[r]? = some o ∧ o.isCells = false := fun r e => by cases e; exact ⟨_, hK2, rfl⟩
      refine ⟨hK2, box1_cell (block_kept a0 (grownBy_putObj' _ D (.deferred none)) hr), box1_cell (block_kept a1 (grownBy_putObj' _ D (.deferred none)) hr), v, l, f, rfl, hrd, own_lower (row_kept O2 (grownBy_putObj' _ D (.deferred none)) hr) (by omega), hB2.trans (belowK_b (w := w) (Nat.le_refl _) _ D _ _ (by have := HD.out; omega) hK2 rfl rfl)⟩
    clear h1 h2 h3 h4 hB hK hD hS hok
    by_cases hbig : 100000 < (mvsL ys).length
    · have FF := Lib.hid (FIN.out (.slice none 0 0) 1 [] (hRb hbig) (World.ownsRow_nil _ _ _ _) _ rfl)
      have hb1 : (100000 : Int) < ((mvsL ys).length : Int) := by omega
      generalize (mvsL ys).length = ml at *
      clear hRb hRs hbig FIN HALL HBAD
      gi_wp2
      obtain ⟨k1, r0, r1, hRD⟩ := FF.out
      refine ⟨by simp, .inl ⟨_, _, rfl, run_takeDeferred k1, ?_⟩⟩
      exact ⟨.tuple #[.slice none 0 0, .int .i64 1], by simp [results, Tryd.results11, go_sem, r0, r1], hRD⟩
    · have FF := Lib.hid (FIN.out (.slice ua (mvsL ys).length uc) 0 (mvsL ys) (hRs (by omega)) O1.out _ rfl)
      have hb1 : ¬ (100000 : Int) < ((mvsL ys).length : Int) := by omega
      generalize (mvsL ys).length = ml at *
      clear hRb hRs hbig FIN HALL HBAD
      gi_wp2
      obtain ⟨k1, r0, r1, hRD⟩ := FF.out
      refine ⟨by simp, .inl ⟨_, _, rfl, run_takeDeferred k1, ?_⟩⟩
      exact ⟨.tuple #[.slice ua ml uc, .int .i64 0], by simp [results, Tryd.results11, go_sem, r0, r1], by rw [← hL]; exact hRD⟩
  case body =>
    rintro l pre x W ⟨⟨hok, ⟨u, hx2, hown⟩, hx0, hx1, hsW⟩, hB⟩ hlt
    have HFW : Hid (FrmF w.heap.size W) := HF.out.on hB
    have HVW : Hid (VarF w.heap.size W) := HV.out.on hB
    have HN := guess_any x.1 x.2 W (HFW.out.up (by omega)) (HVW.out.up (by omega))
    have HOK : Hid (∀ p ∈ pre, okP (lineB p)) := hok
    have X2 : Hid (W.heap[w.heap.size + 2]? = some (.cells #[u] 22 (0, 0))) := hx2
    have X0 : Hid (W.heap[w.heap.size]? = some (.cells #[.slice none 0 0] 22 (0, 0))) := hx0
    have X1 : Hid (W.heap[w.heap.size + 1]? = some (.cells #[.int .i64 0] 24 (0, 0))) := hx1
    have OW : Hid (W.ownsRow (w.heap.size + 4) 34 3 u (mvsL pre).length ((mvsL pre).flatMap encE)) := hown
    have HB : Hid (Below w.heap.size w W) := hB
    have HSN : Hid (mvsL (pre ++ [x]) = mvsL pre ++ [guessM x.1.data.toList]) := mvs_snoc pre x
    have hml : (mvsL pre).length ≤ 5000000 := by simp [mvsL]; omega
    have HOP : Hid (okP (lineB x) ↔ plE (guessM x.1.data.toList) = 0 ∧ plW (guessM x.1.data.toList) = x.1.data.toList) := Iff.rfl
    have HLO := Lib.hid (fun X h1 h2 => lineOf_any (guessM x.1.data.toList) X h1 h2)
    obtain ⟨m, hm⟩ : ∃ m, m = guessM x.1.data.toList := ⟨_, rfl⟩
    rw [← hm] at HN HSN HOP HLO
    clear hm
    obtain ⟨mk, ma, mb⟩ := m
    simp only at HN HLO
    obtain ⟨ua, uc, rfl⟩ := (RowK.own encE_len hown).shape
    clear hx2 hx0 hx1 hown hB hok HALL HBAD
    gi_wp2_with (refine ⟨trivial, ?_⟩; gi_at_call 19; refine (CallsIn.inRound l (callsIn_wide.2 HN)).mono ?_; rintro e w1 ⟨rfl, hb1⟩; refine Hid.out ?_)
    have HB1 : Hid (Below W.heap.size W w1) := hb1
    have hs1 : W.heap.size ≤ w1.heap.size := hb1.size
    clear hb1 HN
    have HA1 : Hid (Below w.heap.size w (w1.alloc (.cells #[.int .i64 mk, .int .i64 ma, .int .i64 mb] 34))) := (HB.out.trans (HB1.out.mono (by omega))).alloc (by omega) _
    have HLP := HLO.out (w1.alloc (.cells #[.int .i64 mk, .int .i64 ma, .int .i64 mb] 34)) ((HF.out.on HA1.out).up HA1.out.size) ((HV.out.tb.on HA1.out).up HA1.out.size)
    clear HLO
    refine Lib.hid ?_
    gi_wp2_with (refine ⟨trivial, ?_⟩; gi_at_call 14; refine (CallsIn.inRound l (callsIn_wide.2 HLP)).mono ?_; rintro e w2 ⟨rfl, hb2⟩; refine Hid.out ?_)
    have HB2 : Hid (Below (w1.heap.size + 1) (w1.alloc (.cells #[.int .i64 mk, .int .i64 ma, .int .i64 mb] 34)) w2) := by show Below _ _ _; simpa using hb2
    have hs2 : w1.heap.size + 1 ≤ w2.heap.size := by have := HB2.out.size; simpa using this
    have HW2 : Hid (Below W.heap.size W w2) := (HB1.out.alloc hs1 _).trans (HB2.out.mono (by omega))
    have Y2 : Hid (w2.heap[w.heap.size + 2]? = some (.cells #[.slice ua (mvsL pre).length uc] 22 (0, 0))) := (HW2.out.block _ (by omega)).trans X2.out
    have Y0 : Hid (w2.heap[w.heap.size]? = some (.cells #[.slice none 0 0] 22 (0, 0))) := (HW2.out.block _ (by omega)).trans X0.out
    have Y1 : Hid (w2.heap[w.heap.size + 1]? = some (.cells #[.int .i64 0] 24 (0, 0))) := (HW2.out.block _ (by omega)).trans X1.out
    have O2 : Hid (w2.ownsRow (w.heap.size + 4) 34 3 (.slice ua (mvsL pre).length uc) (mvsL pre).length ((mvsL pre).flatMap encE)) := own_below OW.out HW2.out (Nat.le_refl _)
    have BM : Hid (BX 34 w2 w1.heap.size #[.int .i64 mk, .int .i64 ma, .int .i64 mb]) := BX.below (BX.new _ _ _) HB2.out (by omega)
    have BW : Hid (Below w.heap.size w w2) := HB.out.trans (HW2.out.mono (by omega))
    clear hb2 HLP
    have d0 : w2.cell? ⟨w.heap.size, 0, none⟩ = some (.slice none 0 0) := box1_cell Y0.out
    have d1 : w2.cell? ⟨w.heap.size + 1, 0, none⟩ = some (.int .i64 0) := box1_cell Y1.out
    have f0 : w2.frozen? ⟨w.heap.size, 0, none⟩ = false := box_frozen Y0.out 0
    have f1 : w2.frozen? ⟨w.heap.size + 1, 0, none⟩ = false := box_frozen Y1.out 0
    have FBAD : Hid (¬ okP (lineB x) → ∀ W3, W3 = (w2.setCell ⟨w.heap.size, 0, none⟩ (.slice none 0 0)).setCell ⟨w.heap.size + 1, 0, none⟩ (.int .i64 3) → KeepsOthers W W3 ∧ OutP w .ret (pre ++ [x]) W3 ∧ Below w.heap.size w W3) := by
      rintro hno W3 rfl
      refine ⟨(keeps_below HW2.out).trans ((KeepsOthers.setCell _ _ _).trans (KeepsOthers.setCell _ _ _)), ⟨rfl, ⟨x, by simp, hno⟩, ?_, ?_⟩, ?_⟩
      · exact (Below.heap_setCell _ _ _ _ (by simp)).trans (box1_set Y0.out)
      · exact box1_set ((Below.heap_setCell _ _ _ _ (by simp)).trans Y1.out)
      · exact (BW.out.setCell (p := ⟨w.heap.size, 0, none⟩) (Nat.le_refl _) _).setCell (p := ⟨w.heap.size + 1, 0, none⟩) (by simp) _
    by_cases hE : plE (mk, ma, mb) = 0
    · have HO : linO (mk, ma, mb) = .tuple #[.string ⟨(plW (mk, ma, mb)).toArray⟩, .int .i64 0] := by unfold linO; rw [hE, if_pos rfl]
      rw [HO]
      by_cases hW : plW (mk, ma, mb) = x.1.data.toList
      · have HY : Hid (okP (lineB x)) := HOP.out.2 ⟨hE, hW⟩
        have hT : (⟨(plW (mk, ma, mb)).toArray⟩ : ByteArray) = x.1 := by rw [hW]
        rw [hT]
        have hcmp : (x.1.toList == x.1.toList) = true := by simp
        have c2 : w2.cell? ⟨w.heap.size + 1 + 1, 0, none⟩ = some (.slice ua (mvsL pre).length uc) := box1_cell Y2.out
        have e2 : w2.frozen? ⟨w.heap.size + 1 + 1, 0, none⟩ = false := box_frozen Y2.out 0
        obtain ⟨m0, m1, m2, _⟩ := BM.out.all3
        obtain ⟨gg, gc, w3, hrun, hown3, hgr⟩ := run_append_newK kMv (w := w2.alloc (.cells #[.int .i64 mk, .int .i64 ma, .int .i64 mb] 34)) 22 (w.heap.size + 4) (.slice ua (mvsL pre).length uc) (mvsL pre) (O2.out.alloc _) w2.heap.size (mk, ma, mb) #[.int .i64 mk, .int .i64 ma, .int .i64 mb] rfl (0, 0) (heap_alloc_new _ _) (by simp [kMv]; omega) (by unfold maxLen; omega) (by simp; omega)
        have hb3 : Below (w.heap.size + 4) (w2.alloc (.cells #[.int .i64 mk, .int .i64 ma, .int .i64 mb] 34)) w3 := (Below.refl _ _).grown hgr (by simp; omega) (fun j hj => (O2.out.lt j hj).1)
        have O3 : Hid (w3.ownsRow (w.heap.size + 4) 34 3 (.slice (some ⟨gg, 0, none⟩) ((mvsL pre).length + 1) gc) (mvsL (pre ++ [x])).length ((mvsL (pre ++ [x])).flatMap encE)) := by rw [HSN.out]; exact hown3
        have HB3 : Hid (Below (w.heap.size + 4) w2 w3) := ((Below.refl _ _).alloc (by omega) _).trans hb3
        have Z2 : Hid (w3.heap[w.heap.size + 2]? = some (.cells #[.slice ua (mvsL pre).length uc] 22 (0, 0))) := (HB3.out.block _ (by omega)).trans Y2.out
        have Z0 : Hid (w3.heap[w.heap.size]? = some (.cells #[.slice none 0 0] 22 (0, 0))) := (HB3.out.block _ (by omega)).trans Y0.out
        have Z1 : Hid (w3.heap[w.heap.size + 1]? = some (.cells #[.int .i64 0] 24 (0, 0))) := (HB3.out.block _ (by omega)).trans Y1.out
        have z2 : w3.cell? ⟨w.heap.size + 1 + 1, 0, none⟩ = some (.slice ua (mvsL pre).length uc) := box1_cell Z2.out
        have z3 : w3.frozen? ⟨w.heap.size + 1 + 1, 0, none⟩ = false := box_frozen Z2.out 0
        have HKO : Hid (KeepsOthers W w3) := (keeps_below HW2.out).trans ((KeepsOthers.alloc w2 _).trans (KeepsOthers.of_grownBy hgr (by
          intro j o' hj ho
          rcases O2.out.2 with ⟨e1, _⟩ | ⟨g', cap', cur, e1, _, h5, _⟩
          · rw [e1] at hj; simp [Value.ownBlock] at hj
          · rw [e1] at hj
            simp [Value.ownBlock] at hj
            subst hj
            have h6 := (Below.heap_alloc w2 (.cells #[.int .i64 mk, .int .i64 ma, .int .i64 mb] 34) _ (Array.getElem?_eq_some_iff.1 h5).1).trans h5
            have h7 : some (Obj.cells cur 34 (0, 0)) = some o' := h6.symm.trans ho
            cases h7
            rfl)))
        unfold kMv at hrun
        simp only at hrun
        have HRUN := Lib.hid hrun
        clear hown3 hb3 hgr hE hW hT HO FBAD HOP hrun
        generalize (mvsL pre).length = ml at *
        refine Lib.hid ?_
        gi_wp2_with (gi_at_builtin; refine wpListIn_append_run _ rfl _ _ _ rfl _ _ _ _ rfl rfl HRUN.out ?_)
        refine ⟨HKO.out.trans (KeepsOthers.setCell _ _ _), ((HW2.out.mono (by omega)).trans (HB3.out.mono (by omega))).setCell (p := ⟨w.heap.size + 1 + 1, 0, none⟩) (by simp; omega) _, ⟨?_, ⟨_, box1_set Z2.out, own_setB O3.out (by omega) _⟩, (Below.heap_setCell _ _ _ _ (show w.heap.size ≠ w.heap.size + 1 + 1 by omega)).trans Z0.out, (Below.heap_setCell _ _ _ _ (by simp)).trans Z1.out, by rw [size_setCell]; have := HB3.out.size; omega⟩, (BW.out.trans (HB3.out.mono (by omega))).setCell (p := ⟨w.heap.size + 1 + 1, 0, none⟩) (by simp; omega) _⟩
        intro p hp
        rcases List.mem_append.1 hp with hp | hp
        · exact HOK.out p hp
        · simp at hp; rw [hp]; exact HY.out
      · have hno := Lib.hid (fun h : okP (lineB x) => hW (HOP.out.1 h).2)
        have hcmp := str_ne hW
        have FF := Lib.hid (FBAD.out hno.out _ rfl)
        generalize plW (mk, ma, mb) = LW at hcmp ⊢
        clear hE hW HO FBAD HOP
        refine Lib.hid ?_
        gi_wp2
        exact FF.out
    · have hno := Lib.hid (fun h : okP (lineB x) => hE (HOP.out.1 h).1)
      have HO : linO (mk, ma, mb) = .tuple #[.string ⟨#[]⟩, .int .i64 (plE (mk, ma, mb))] := by unfold linO; rw [if_neg hE]
      rw [HO]
      have hne : (plE (mk, ma, mb) != 0) = true := by simpa using hE
      have FF := Lib.hid (FBAD.out hno.out _ rfl)
      generalize plE (mk, ma, mb) = PE at hne ⊢
      clear hE HO FBAD HOP
      refine Lib.hid ?_
      gi_wp2
      exact FF.out
/-- play.Read. -/
theorem read_any (s : ByteArray) (w : World) (hF : FrmF w.heap.size w) (hV : VarF w.heap.size w) : Calls Tryd.prog 11 #[.string s] w (RdP w s.data.toList) := by
  by_cases hb : 5000000 < s.size
  · exact read_big s hb w
  · exact read_small s (by omega) w hF hV
end Go.Proofs.YtdeghndcglgfkaaDoor
