/-
  Contract of sheet's guess: the graph that the lines of a text tell, whatever is wrong in them.
-/
import Derived.Test.YtcfcpibamjgodaaDoorLinesWalk
import Derived.Test.YtcfcpibamjgodaaDoorRegionRound
import Derived.Test.YtcfcpibamjgodaaDoorGraphTwo
import Derived.RangeFuncBox
namespace Go.Proofs.YtcfcpibamjgodaaDoor
set_option maxRecDepth 100000
open Go.RowKit Go.Shelf
attribute [local go_sem] Oper.semAt_some

/-- What a line makes of a graph. -/
def stepN (l : List Int) (g : Int × List Ed) : Int × List Ed := match l with
  | [a] => (a, g.2)
  | [a, b, c] => (g.1, g.2 ++ [(a, b, c)])
  | _ => g
def stepB (g : Int × List Ed) (x : List UInt8) : Int × List Ed := stepN (numsL ⟨x.toArray⟩) g
/-- The graph that lines tell. -/
def tellL (xs : List (List UInt8)) : Int × List Ed := xs.foldl stepB (0, [])
/-- The graph that is guessed. -/
def guessF (s : List UInt8) : Int × List Ed := tellL (linesL s.length s)
theorem tell_snoc (xs : List (List UInt8)) (x : List UInt8) : tellL (xs ++ [x]) = stepB (tellL xs) x := by simp [tellL]
theorem line_str (x : Ln) : (⟨(lineB x).toArray⟩ : ByteArray) = x.1 := by
  apply ByteArray.ext
  simp [lineB]
theorem tell_len : ∀ xs : List (List UInt8), ∀ g : Int × List Ed, (xs.foldl stepB g).2.length ≤ g.2.length + xs.length
  | [], g => by simp
  | x :: r, g => by
    have := tell_len r (stepB g x)
    have h2 : (stepB g x).2.length ≤ g.2.length + 1 := by
      unfold stepB stepN
      split <;> simp
    simp only [List.foldl_cons, List.length_cons]
    omega

/-- Between two rounds: what the boxes hold. -/
def InG (w : World) (pre : List Ln) (W : World) : Prop :=
  (∃ u, W.heap[w.heap.size + 1]? = some (.cells #[.int .i64 (tellL (pre.map lineB)).1, u] 24 (0, 0)) ∧ W.ownsRow (w.heap.size + 3) 48 3 u (tellL (pre.map lineB)).2.length ((tellL (pre.map lineB)).2.flatMap encE)) ∧
    W.heap[w.heap.size]? = some (.cells #[.int .i64 0, .slice none 0 0] 24 (0, 0)) ∧ w.heap.size + 3 ≤ W.heap.size

theorem block_kept {W W' : World} {row : Option Nat} {k : Nat} {c : Array Value} {t : TypeId} {fz : Nat × Nat} (h : W.heap[k]? = some (.cells c t fz)) (hg : W.grownBy W' row) (hr : ∀ r, row = some r → ∃ o : Obj, W.heap[r]? = some o ∧ o.isCells = false) : W'.heap[k]? = some (.cells c t fz) := by
  refine (hg.block k (Array.getElem?_eq_some_iff.1 h).1 ?_).trans h
  intro e
  obtain ⟨o, ho, hc⟩ := hr k e.symm
  rw [h] at ho
  cases ho
  cases hc
theorem row_kept {W W' : World} {row : Option Nat} {base : Nat} {e : TypeId} {size : Nat} {v : Value} {k : Nat} {xs : List Value} (h : W.ownsRow base e size v k xs) (hg : W.grownBy W' row) (hr : ∀ r, row = some r → ∃ o : Obj, W.heap[r]? = some o ∧ o.isCells = false) : W'.ownsRow base e size v k xs := by
  refine h.kept hg ?_
  rcases h.2 with ⟨rfl, _⟩ | ⟨g, cap, cur, rfl, _, hgb, _⟩
  · exact .inl rfl
  · refine .inr fun e' => ?_
    obtain ⟨o, ho, hc⟩ := hr g (by simpa [Value.ownBlock] using e'.symm)
    rw [hgb] at ho; cases ho; cases hc
theorem inG_own (w : World) : Own (InG w) := by
  rintro pre A B row ⟨⟨u, h1, h2⟩, h3, h4⟩ hg hr
  exact ⟨⟨u, block_kept h1 hg hr, row_kept h2 hg hr⟩, block_kept h3 hg hr, Nat.le_trans h4 hg.size⟩

theorem set_n {w : World} {b : Nat} {n d : Int} {u : Value} (h : w.heap[b]? = some (.cells #[.int .i64 n, u] 24 (0, 0))) : (w.setCell ⟨b, 0, none⟩ (.int .i64 d)).heap[b]? = some (.cells #[.int .i64 d, u] 24 (0, 0)) := by
  simp only [World.setCell, Array.getElem?_modify, if_true]
  rw [h]
  rfl
theorem set_es {w : World} {b : Nat} {n : Int} {u v : Value} (h : w.heap[b]? = some (.cells #[.int .i64 n, u] 24 (0, 0))) : (w.setCell ⟨b, 1, none⟩ v).heap[b]? = some (.cells #[.int .i64 n, v] 24 (0, 0)) := by
  simp only [World.setCell, Array.getElem?_modify, if_true]
  rw [h]
  rfl
theorem own_setB {w : World} {base b j k : Nat} {e : TypeId} {size : Nat} {v : Value} {xs : List Value} (h : w.ownsRow base e size v k xs) (hb : b < base) (x : Value) : (w.setCell ⟨b, j, none⟩ x).ownsRow base e size v k xs := by
  refine ⟨h.1, ?_⟩
  rcases h.2 with hv | ⟨g, cap, cur, h1, h2, h3, h4⟩
  · exact .inl hv
  · exact .inr ⟨g, cap, cur, h1, h2, (Below.heap_setCell _ _ _ _ (by intro e; have : g = b := e; omega)).trans h3, h4⟩
theorem keeps_below {W W' : World} (h : Below W.heap.size W W') : KeepsOthers W W' := ⟨h.size, fun k _ hk _ => (h.block k (Array.getElem?_eq_some_iff.1 hk).1).trans hk⟩

set_option maxHeartbeats 4000000 in
theorem guess_any (s : ByteArray) (hs : s.size ≤ 20000) (w : World) (hV : VarF w.heap.size w) :
    Calls Tryd.prog 22 #[.string s] w fun e w' => ∃ v, e = .returned (.agg #[.int .i64 (guessF s.data.toList).1, v]) ∧ w'.ownsRow w.heap.size 48 3 v (guessF s.data.toList).2.length ((guessF s.data.toList).2.flatMap encE) ∧ Below w.heap.size w w' := by
  obtain ⟨m, hm⟩ := hV.mx
  have h8 := hV.lt
  have HV : Hid (VarF w.heap.size w) := hV
  have HGF : Hid (∀ xs : List Ln, xs.map lineB = linesL s.size s.data.toList → tellL (xs.map lineB) = guessF s.data.toList) := by
    intro xs hxs
    rw [hxs, guessF, show s.data.toList.length = s.size from Array.length_toList]
  generalize guessF s.data.toList = GF at HGF ⊢
  refine (callsIn_wide (n := 5)).1 ?_
  refine callsIn_of_wp_marks Tryd.func22 rfl trivial ?_ rfl
  simp only [Tryd.ntmps22, List.size_toArray, List.length_cons, List.length_nil, Nat.reduceAdd, Nat.reduceSub, Array.replicate_succ, Array.replicate_zero, List.push_toArray, List.append_toArray, List.nil_append, List.cons_append]
  gi_wp2_with (refine ⟨trivial, ?_⟩; gi_at_call 30; refine (callsIn_wide.2 (lines_in _ _)).mono ?_; rintro e w' ⟨rfl, rfl⟩)
  have hB0 : Below w.heap.size w (((w.alloc (.cells #[.int .i64 0, .slice none 0 0] 24)).alloc (.cells #[.int .i64 0, .slice none 0 0] 24)).alloc (.cells #[.string s] 9)) := (((Below.refl _ w).alloc (Nat.le_refl _) _).alloc (by simp) _).alloc (by simp; omega) _
  have hI0 : InG w [] (((w.alloc (.cells #[.int .i64 0, .slice none 0 0] 24)).alloc (.cells #[.int .i64 0, .slice none 0 0] 24)).alloc (.cells #[.string s] 9)) := by
    refine ⟨⟨.slice none 0 0, ?_, World.ownsRow_nil _ _ _ _⟩, ?_, by simp⟩
    · exact (Below.heap_alloc _ _ _ (by simp)).trans (heap_second _ _ _ _)
    · exact (Below.heap_alloc _ _ _ (by simp; omega)).trans ((Below.heap_alloc _ _ _ (by simp)).trans (heap_alloc_new _ _))
  have hBs : (((w.alloc (.cells #[.int .i64 0, .slice none 0 0] 24)).alloc (.cells #[.int .i64 0, .slice none 0 0] 24)).alloc (.cells #[.string s] 9)).cell? ⟨w.heap.size + 1 + 1, 0, none⟩ = some (.string s) := cell_third _ _ _ _ _
  have hsz : (((w.alloc (.cells #[.int .i64 0, .slice none 0 0] 24)).alloc (.cells #[.int .i64 0, .slice none 0 0] 24)).alloc (.cells #[.string s] 9)).heap.size = w.heap.size + 3 := by simp
  generalize ((w.alloc (.cells #[.int .i64 0, .slice none 0 0] 24)).alloc (.cells #[.int .i64 0, .slice none 0 0] 24)).alloc (.cells #[.string s] 9) = W0 at hB0 hI0 hBs hsz ⊢
  have hm0 : W0.cell? ⟨1, 0, none⟩ = some (.int .i64 m) := (hB0.cell (p := ⟨1, 0, none⟩) (Nat.lt_of_lt_of_le (by decide) h8)).trans hm
  refine wpIn_rangeFunc_ownF rfl (by omega) (gf := 36) (lb := #[.pointer (some ⟨w.heap.size + 1 + 1, 0, none⟩)]) rfl trivial (enters_of Tryd.func36 (by kernel_rfl) rfl)
    (lines_stops (w.heap.size + 1 + 1) w.heap.size s m (by omega) hs W0 hBs hm0) belowK_t (belowK_b (by omega)) (Below.refl _ _) (fun _ => rfl)
    (fun pre W => InG w pre W ∧ Below w.heap.size w W) (fun _ _ _ => False)
    (OwnFrom.and (Own.from (inG_own w) _) (ownFrom_below (Nat.le_refl _) (by omega)))
    (fun _ _ _ _ _ hs _ _ => hs)
    ⟨hI0, hB0⟩
    (fun x => { tmps := #[.string s, undef, .pointer (some ⟨w.heap.size, 0, none⟩), .pointer (some ⟨w.heap.size + 1, 0, none⟩), .string x.1, undef, .string s, .func (.func 36) #[] #[.pointer (some ⟨w.heap.size + 1 + 1, 0, none⟩)], .string x.1, undef, undef, undef, undef, undef, undef, undef, undef, undef, undef, undef, undef, undef, undef, undef, undef, undef, undef, undef, undef, undef, undef, undef, undef, undef, undef, undef, undef], defers := [] }) ?assign ?body ?done ?stop
  case assign =>
    intro l x W K hK
    gi_wp2
    exact hK
  case stop =>
    rintro D c pre W _ _ h _
    exact h.elim
  case done =>
    rintro D ys W hD hS ⟨⟨⟨u, h1, h2⟩, h3, h4⟩, hB⟩ hK
    rw [HGF.out ys hS] at h1 h2
    have O1 : Hid (W.ownsRow (w.heap.size + 3) 48 3 u GF.2.length (GF.2.flatMap encE)) := h2
    obtain ⟨ua, un, uc, rfl⟩ : ∃ a n c, u = .slice a n c := by obtain ⟨a, c, e, _⟩ := RowK.own encE_len h2; exact ⟨_, _, _, e⟩
    have c0 : W.cell? ⟨w.heap.size + 1, 0, none⟩ = some (.int .i64 GF.1) := by rw [cell_of h1]; rfl
    have c1 : W.cell? ⟨w.heap.size + 1, 1, none⟩ = some (.slice ua un uc) := by rw [cell_of h1]; rfl
    have d0 : W.cell? ⟨w.heap.size, 0, none⟩ = some (.int .i64 0) := by rw [cell_of h3]; rfl
    have d1 : W.cell? ⟨w.heap.size, 1, none⟩ = some (.slice none 0 0) := by rw [cell_of h3]; rfl
    have f0 : W.frozen? ⟨w.heap.size, 0, none⟩ = false := by simp only [World.frozen?, h3]; simp
    have f1 : W.frozen? ⟨w.heap.size, 1, none⟩ = false := by simp only [World.frozen?, h3]; simp
    have HB : Hid (Below w.heap.size w W) := hB
    have HD : Hid (W0.heap.size ≤ D) := hD
    have HK : Hid (W.heap[D]? = some (.deferred (some []))) := hK
    have HX : Hid (W.heap[w.heap.size]? = some (.cells #[.int .i64 0, .slice none 0 0] 24 (0, 0))) := h3
    clear h1 h2 h3 hB hK hD
    gi_wp2
    have hb2 : ((W.setCell ⟨w.heap.size, 0, none⟩ (.int .i64 GF.1)).setCell ⟨w.heap.size, 1, none⟩ (.slice ua un uc)).heap[w.heap.size]? = some (.cells #[.int .i64 GF.1, .slice ua un uc] 24 (0, 0)) := set_es (set_n HX.out)
    have hK2 : ((W.setCell ⟨w.heap.size, 0, none⟩ (.int .i64 GF.1)).setCell ⟨w.heap.size, 1, none⟩ (.slice ua un uc)).heap[D]? = some (.deferred (some [])) := (KeepsOthers.setCell _ _ _).same D _ ((KeepsOthers.setCell _ _ _).same D _ HK.out rfl) rfl
    have O2 := own_setB (own_setB (j := 0) O1.out (show w.heap.size < w.heap.size + 3 by omega) (.int .i64 GF.1)) (j := 1) (show w.heap.size < w.heap.size + 3 by omega) (.slice ua un uc)
    have hB2 : Below w.heap.size w ((W.setCell ⟨w.heap.size, 0, none⟩ (.int .i64 GF.1)).setCell ⟨w.heap.size, 1, none⟩ (.slice ua un uc)) := (HB.out.setCell (p := ⟨w.heap.size, 0, none⟩) (Nat.le_refl _) _).setCell (p := ⟨w.heap.size, 1, none⟩) (Nat.le_refl _) _
    generalize (W.setCell ⟨w.heap.size, 0, none⟩ (.int .i64 GF.1)).setCell ⟨w.heap.size, 1, none⟩ (.slice ua un uc) = W2 at hb2 hK2 O2 hB2 ⊢
    refine ⟨by simp, .inl ⟨_, _, rfl, run_takeDeferred hK2, ?_⟩⟩
    have hr : ∀ r, (some D : Option Nat) = some r → ∃ o : Obj, W2.heap[r]? = some o ∧ o.isCells = false := fun r e => by cases e; exact ⟨_, hK2, rfl⟩
    have hb3 := block_kept hb2 (grownBy_putObj' _ D (.deferred none)) hr
    have r0 : (W2.putObj D (.deferred none)).cell? ⟨w.heap.size, 0, none⟩ = some (.int .i64 GF.1) := by rw [cell_of hb3]; rfl
    have r1 : (W2.putObj D (.deferred none)).cell? ⟨w.heap.size, 1, none⟩ = some (.slice ua un uc) := by rw [cell_of hb3]; rfl
    refine ⟨.agg #[.int .i64 GF.1, .slice ua un uc], by simp [results, Tryd.results22, go_sem, r0, r1], _, rfl, own_lower (row_kept O2 (grownBy_putObj' _ D (.deferred none)) hr) (by omega), hB2.trans (belowK_b (w := w) (Nat.le_refl _) _ D _ _ (by have := HD.out; omega) hK2 rfl rfl)⟩
  case body =>
    rintro l pre x W ⟨⟨⟨u, hx1, hown⟩, hx0, hsW⟩, hB⟩ hlt
    have HG := HV.out.on hB
    have HN := numbers_any x.1 x.2 W (HG.up (by omega))
    have HX1 : Hid (W.heap[w.heap.size + 1]? = some (.cells #[.int .i64 (tellL (pre.map lineB)).1, u] 24 (0, 0))) := hx1
    have HX0 : Hid (W.heap[w.heap.size]? = some (.cells #[.int .i64 0, .slice none 0 0] 24 (0, 0))) := hx0
    have OW : Hid (W.ownsRow (w.heap.size + 3) 48 3 u (tellL (pre.map lineB)).2.length ((tellL (pre.map lineB)).2.flatMap encE)) := hown
    have HB : Hid (Below w.heap.size w W) := hB
    have HTL : Hid (tellL ((pre ++ [x]).map lineB) = stepN (numsL x.1) (tellL (pre.map lineB))) := by
      show _ = _
      rw [List.map_append, List.map_cons, List.map_nil, tell_snoc, stepB, line_str]
    have hle : (tellL (pre.map lineB)).2.length ≤ 20000 := by
      have := tell_len (pre.map lineB) (0, [])
      simp at this
      unfold tellL
      omega
    generalize numsL x.1 = NL at HN HTL
    generalize tellL (pre.map lineB) = T at HX1 OW HTL hle
    obtain ⟨tn, te⟩ := T
    simp only at HX1 OW hle
    clear hx1 hx0 hown hB
    gi_wp2_with (refine ⟨trivial, ?_⟩; gi_at_call 31; refine (CallsIn.inRound l (callsIn_wide.2 HN)).mono ?_; rintro e w1 ⟨na, nn, nc, rfl, hrow, hb1⟩; refine Hid.out ?_)
    have HB1 : Hid (Below W.heap.size W w1) := hb1
    have HR : Hid (w1.ownsRow W.heap.size 3 1 (.slice na nn nc) NL.length (NL.flatMap encI)) := hrow
    have Y1 : Hid (w1.heap[w.heap.size + 1]? = some (.cells #[.int .i64 tn, u] 24 (0, 0))) := (hb1.block _ (by omega)).trans HX1.out
    have Y0 : Hid (w1.heap[w.heap.size]? = some (.cells #[.int .i64 0, .slice none 0 0] 24 (0, 0))) := (hb1.block _ (by omega)).trans HX0.out
    have O1 : Hid (w1.ownsRow (w.heap.size + 3) 48 3 u te.length (te.flatMap encE)) := own_below OW.out hb1 (Nat.le_refl _)
    have hs1 : W.heap.size ≤ w1.heap.size := hb1.size
    have BW : Hid (Below w.heap.size w w1) := HB.out.trans (below_low hb1 (by omega))
    obtain ⟨ua, un, uc, rfl⟩ : ∃ a n c, u = .slice a n c := by obtain ⟨a, c, e, _⟩ := RowK.own encE_len OW.out; exact ⟨_, _, _, e⟩
    have hnn : nn = NL.length := by
      rcases own_cases hrow with ⟨e, e0, _⟩ | ⟨g, cap, e, _⟩
      · injection e with _ e2 _; omega
      · injection e with _ e2 _
    clear hb1 hrow HX1 HX0 OW
    by_cases h1 : NL.length = 1
    · obtain ⟨d, rfl⟩ : ∃ d, NL = [d] := List.length_eq_one_iff.1 h1
      obtain ⟨g, rfl, hg0, hg1, hc0⟩ : ∃ g, na = some ⟨g, 0, none⟩ ∧ W.heap.size ≤ g ∧ 1 ≤ nc ∧ w1.cell? ⟨g, 0, none⟩ = some (.int .i64 d) := by
        rcases own_cases HR.out with ⟨e, e0, _⟩ | ⟨g, cap, e, hg, _, hc, _, hv⟩
        · simp at e0
        · injection e with e1 e2 e3
          subst e1 e3
          exact ⟨g, rfl, hg, by simpa using hc, hv 0 _ rfl⟩
      have hn1 : Hid (nn = 1) := (by simpa using hnn : nn = 1)
      have i1 : ((nn : Int) == 1) = true := by simp; have := hn1.out; omega
      have q1 : (0 : Int) < (nn : Int) := by have := hn1.out; omega
      have q2 : 0 < nn := by have := hn1.out; omega
      clear hnn h1
      have y1 : w1.cell? ⟨w.heap.size + 1, 0, none⟩ = some (.int .i64 tn) := by rw [cell_of Y1.out]; rfl
      have y2 : w1.frozen? ⟨w.heap.size + 1, 0, none⟩ = false := by simp only [World.frozen?, Y1.out]; simp
      refine Lib.hid ?_
      gi_wp2
      have eT : tellL ((pre ++ [x]).map lineB) = (d, te) := by rw [HTL.out]; rfl
      refine ⟨(keeps_below HB1.out).trans (KeepsOthers.setCell _ _ _), (below_low HB1.out (by omega)).setCell (p := ⟨w.heap.size + 1, 0, none⟩) (by simp) _, ⟨⟨_, by rw [eT]; exact set_n Y1.out, by rw [eT]; exact own_setB O1.out (by omega) _⟩, (Below.heap_setCell _ _ _ _ (by simp)).trans Y0.out, by rw [size_setCell]; omega⟩, BW.out.setCell (p := ⟨w.heap.size + 1, 0, none⟩) (by simp) _⟩
    · by_cases h3 : NL.length = 3
      · obtain ⟨a, b, c, rfl⟩ : ∃ a b c, NL = [a, b, c] := by
          match NL, h3 with
          | [a, b, c], _ => exact ⟨a, b, c, rfl⟩
        obtain ⟨g, rfl, hg0, hc0, hc1, hc2⟩ : ∃ g, na = some ⟨g, 0, none⟩ ∧ W.heap.size ≤ g ∧ w1.cell? ⟨g, 0, none⟩ = some (.int .i64 a) ∧ w1.cell? ⟨g, 1, none⟩ = some (.int .i64 b) ∧ w1.cell? ⟨g, 2, none⟩ = some (.int .i64 c) := by
          rcases own_cases HR.out with ⟨e, e0, _⟩ | ⟨g, cap, e, hg, _, hc, _, hv⟩
          · simp at e0
          · injection e with e1 e2 e3
            subst e1 e3
            refine ⟨g, rfl, hg, hv 0 _ rfl, ?_, ?_⟩
            · have := hv 1 _ rfl; rwa [addr_add] at this
            · have := hv 2 _ rfl; rwa [addr_add] at this
        have hn3 : Hid (nn = 3) := (by simpa using hnn : nn = 3)
        have i1 : ((nn : Int) == 1) = false := by simp; have := hn3.out; omega
        have i3 : ((nn : Int) == 3) = true := by simp; have := hn3.out; omega
        have q0 : (0 : Int) < (nn : Int) := by have := hn3.out; omega
        have q1 : (1 : Int) < (nn : Int) := by have := hn3.out; omega
        have q2 : (2 : Int) < (nn : Int) := by have := hn3.out; omega
        have r0 : 0 < nn := by have := hn3.out; omega
        have r1 : 1 < nn := by have := hn3.out; omega
        have r2 : 2 < nn := by have := hn3.out; omega
        have lt1 : g < w1.heap.size := World.block_lt_of_cell? _ _ hc0
        have y1 : w1.cell? ⟨w.heap.size + 1, 1, none⟩ = some (.slice ua un uc) := by rw [cell_of Y1.out]; rfl
        have y2 : w1.frozen? ⟨w.heap.size + 1, 1, none⟩ = false := by simp only [World.frozen?, Y1.out]; simp
        have hszA : (w1.alloc (.cells #[.int .i64 a, .int .i64 b, .int .i64 c] 48)).drew.heap.size = w1.heap.size + 1 := by simp
        obtain ⟨gg, gc, w2, hrun, hown2, hgr⟩ := run_append_newK kE (w := (w1.alloc (.cells #[.int .i64 a, .int .i64 b, .int .i64 c] 48)).drew) 22 (w.heap.size + 3) (.slice ua un uc) te ((O1.out.alloc _).drew) w1.heap.size (a, b, c) #[.int .i64 a, .int .i64 b, .int .i64 c] rfl (0, 0) (heap_alloc_new _ _) (by simp [kE]; omega) (by unfold maxLen; omega) (by rw [hszA]; omega)
        unfold kE at hrun
        simp only at hrun
        have hbb : Below (w.heap.size + 3) w1 w2 := (((Below.refl _ _).alloc (by omega) _).drew).grown hgr (by rw [hszA]; omega) (fun j hj => (O1.out.lt j hj).1)
        have B2 : Hid (Below (w.heap.size + 3) w1 w2) := hbb
        have GR : Hid ((w1.alloc (.cells #[.int .i64 a, .int .i64 b, .int .i64 c] 48)).drew.grownBy w2 (Value.slice ua un uc).ownBlock) := hgr
        have O2 : Hid (w2.ownsRow (w.heap.size + 3) 48 3 (.slice (some ⟨gg, 0, none⟩) (te.length + 1) gc) (te ++ [(a, b, c)]).length ((te ++ [(a, b, c)]).flatMap encE)) := hown2
        have Y1b : Hid (w2.heap[w.heap.size + 1]? = some (.cells #[.int .i64 tn, .slice ua un uc] 24 (0, 0))) := (hbb.block _ (by omega)).trans Y1.out
        have Y0b : Hid (w2.heap[w.heap.size]? = some (.cells #[.int .i64 0, .slice none 0 0] 24 (0, 0))) := (hbb.block _ (by omega)).trans Y0.out
        have z1 : w2.cell? ⟨w.heap.size + 1, 1, none⟩ = some (.slice ua un uc) := by rw [cell_of Y1b.out]; rfl
        have z2 : w2.frozen? ⟨w.heap.size + 1, 1, none⟩ = false := by simp only [World.frozen?, Y1b.out]; simp
        have hgne : some g ≠ (Value.slice ua un uc).ownBlock := by
          intro e
          obtain ⟨cs, fz, hk⟩ : ∃ cs fz, w1.heap[g]? = some (.cells cs 3 fz) := by
            rcases HR.out.2 with ⟨e1, _⟩ | ⟨g', cap', cur, e1, _, h5, _⟩
            · injection e1 with e1 _ _; cases e1
            · injection e1 with e1 _ _; cases e1; exact ⟨_, _, h5⟩
          rcases O1.out.2 with ⟨e1, _⟩ | ⟨g', cap', cur, e1, _, h5, _⟩
          · rw [e1] at e; simp [Value.ownBlock] at e
          · rw [e1] at e
            simp [Value.ownBlock] at e
            subst e
            rw [hk] at h5
            injection h5 with h5
            injection h5 with _ h5 _
            cases h5
        have eg : w2.heap[g]? = w1.heap[g]? := (GR.out.block g (by rw [hszA]; omega) hgne).trans (Below.heap_alloc _ _ _ lt1)
        have HSD : Hid (w1.drew.cell? ⟨w.heap.size + 1, 1, none⟩ = some (.slice ua un uc) ∧ w1.drew.cell? ⟨g, 0, none⟩ = some (.int .i64 a) ∧ w1.drew.cell? ⟨g, 1, none⟩ = some (.int .i64 b) ∧ w1.drew.cell? ⟨g, 2, none⟩ = some (.int .i64 c)) := ⟨y1, hc0, hc1, hc2⟩
        have cA : ∀ (q j : Nat) (v : Value), w1.cell? ⟨q, j, none⟩ = some v → (w1.alloc (.cells #[.int .i64 a, .int .i64 b, .int .i64 c] 48)).drew.cell? ⟨q, j, none⟩ = some v := fun q j v hq => ((below_alloc w1 _).cell (p := ⟨q, j, none⟩) (World.block_lt_of_cell? _ _ hq)).trans hq
        have HSE : Hid ((w1.alloc (.cells #[.int .i64 a, .int .i64 b, .int .i64 c] 48)).drew.cell? ⟨w.heap.size + 1, 1, none⟩ = some (.slice ua un uc) ∧ (w1.alloc (.cells #[.int .i64 a, .int .i64 b, .int .i64 c] 48)).drew.cell? ⟨g, 0, none⟩ = some (.int .i64 a) ∧ (w1.alloc (.cells #[.int .i64 a, .int .i64 b, .int .i64 c] 48)).drew.cell? ⟨g, 1, none⟩ = some (.int .i64 b) ∧ (w1.alloc (.cells #[.int .i64 a, .int .i64 b, .int .i64 c] 48)).drew.cell? ⟨g, 2, none⟩ = some (.int .i64 c)) := ⟨cA _ _ _ y1, cA _ _ _ hc0, cA _ _ _ hc1, cA _ _ _ hc2⟩
        have cB : ∀ (j : Nat) (v : Value), w1.cell? ⟨g, j, none⟩ = some v → w2.cell? ⟨g, j, none⟩ = some v := fun j v hq => (World.cell?_of_block (a := ⟨g, j, none⟩) eg).trans hq
        have HSF : Hid (w2.cell? ⟨w.heap.size + 1, 1, none⟩ = some (.slice ua un uc) ∧ w2.cell? ⟨g, 0, none⟩ = some (.int .i64 a) ∧ w2.cell? ⟨g, 1, none⟩ = some (.int .i64 b) ∧ w2.cell? ⟨g, 2, none⟩ = some (.int .i64 c)) := ⟨z1, cB _ _ hc0, cB _ _ hc1, cB _ _ hc2⟩
        have HKO : Hid (KeepsOthers W w2) := (keeps_below HB1.out).trans (((KeepsOthers.alloc w1 _).trans (KeepsOthers.drew _)).trans (KeepsOthers.of_grownBy GR.out (by
          intro j o' hj ho
          rcases O1.out.2 with ⟨e1, _⟩ | ⟨g', cap', cur, e1, _, h5, _⟩
          · rw [e1] at hj; simp [Value.ownBlock] at hj
          · rw [e1] at hj
            simp [Value.ownBlock] at hj
            subst hj
            have h6 := (Below.heap_alloc w1 (.cells #[.int .i64 a, .int .i64 b, .int .i64 c] 48) _ (Array.getElem?_eq_some_iff.1 h5).1).trans h5
            have h7 : some (Obj.cells cur 48 (0, 0)) = some o' := h6.symm.trans ho
            cases h7
            rfl)))
        clear hown2 hgr hbb cA cB eg hgne hnn h3 h1 HN
        refine Lib.hid ?_
        gi_wp2
        refine region_lastR (S := fun V => V.cell? ⟨w.heap.size + 1, 1, none⟩ = some (.slice ua un uc) ∧ V.cell? ⟨g, 0, none⟩ = some (.int .i64 a) ∧ V.cell? ⟨g, 1, none⟩ = some (.int .i64 b) ∧ V.cell? ⟨g, 2, none⟩ = some (.int .i64 c)) (by kernel_rfl) (by kernel_rfl) (by rintro ⟨_, _, h⟩; exact h) (by kernel_rfl) (by kernel_rfl) (by kernel_rfl) ?_
        simp only [List.pop_toArray, List.dropLast_cons_cons, List.dropLast_singleton, List.size_toArray, List.length_cons, List.length_nil, Nat.reduceAdd]
        refine takeH (i := 0) (v := .pointer (some ⟨w.heap.size + 1, 1, none⟩)) (d := 21) rfl rfl (by kernel_rfl) (by kernel_rfl) (by kernel_rfl) (fun _ _ _ h => h) (by rfl) (fun V hV => by obtain ⟨v1, v2, v3, v4⟩ := hV; go_simp) HSD.out ?_
        simp only [Act.put, List.setIfInBounds_toArray, List.set_cons_zero, List.set_cons_succ]
        refine takeH (i := 1) (v := .slice ua un uc) (d := 22) rfl rfl (by kernel_rfl) (by kernel_rfl) (by kernel_rfl) (fun _ _ _ h => h) (by rfl) (fun V hV => by obtain ⟨v1, v2, v3, v4⟩ := hV; go_simp) HSD.out ?_
        simp only [Act.put, List.setIfInBounds_toArray, List.set_cons_zero, List.set_cons_succ]
        refine takeH (i := 2) (v := .slice (some ⟨g, 0, none⟩) nn nc) (d := 23) rfl rfl (by kernel_rfl) (by kernel_rfl) (by kernel_rfl) (fun _ _ _ h => h) (by rfl) (fun V hV => by obtain ⟨v1, v2, v3, v4⟩ := hV; go_simp) HSD.out ?_
        simp only [Act.put, List.setIfInBounds_toArray, List.set_cons_zero, List.set_cons_succ]
        refine takeH (i := 3) (v := .pointer (some ⟨g, 0, none⟩)) (d := 24) rfl rfl (by kernel_rfl) (by kernel_rfl) (by kernel_rfl) (fun _ _ _ h => h) (by rfl) (fun V hV => by obtain ⟨v1, v2, v3, v4⟩ := hV; go_simp) HSD.out ?_
        simp only [Act.put, List.setIfInBounds_toArray, List.set_cons_zero, List.set_cons_succ]
        refine takeH (i := 4) (v := .int .i64 a) (d := 25) rfl rfl (by kernel_rfl) (by kernel_rfl) (by kernel_rfl) (fun _ _ _ h => h) (by rfl) (fun V hV => by obtain ⟨v1, v2, v3, v4⟩ := hV; go_simp) HSD.out ?_
        simp only [Act.put, List.setIfInBounds_toArray, List.set_cons_zero, List.set_cons_succ]
        refine takeH (i := 5) (v := .slice (some ⟨g, 0, none⟩) nn nc) (d := 26) rfl rfl (by kernel_rfl) (by kernel_rfl) (by kernel_rfl) (fun _ _ _ h => h) (by rfl) (fun V hV => by obtain ⟨v1, v2, v3, v4⟩ := hV; go_simp) HSD.out ?_
        simp only [Act.put, List.setIfInBounds_toArray, List.set_cons_zero, List.set_cons_succ]
        refine takeH (i := 6) (v := .pointer (some ⟨g, 1, none⟩)) (d := 27) rfl rfl (by kernel_rfl) (by kernel_rfl) (by kernel_rfl) (fun _ _ _ h => h) (by rfl) (fun V hV => by obtain ⟨v1, v2, v3, v4⟩ := hV; go_simp) HSD.out ?_
        simp only [Act.put, List.setIfInBounds_toArray, List.set_cons_zero, List.set_cons_succ]
        refine takeH (i := 7) (v := .int .i64 b) (d := 28) rfl rfl (by kernel_rfl) (by kernel_rfl) (by kernel_rfl) (fun _ _ _ h => h) (by rfl) (fun V hV => by obtain ⟨v1, v2, v3, v4⟩ := hV; go_simp) HSD.out ?_
        simp only [Act.put, List.setIfInBounds_toArray, List.set_cons_zero, List.set_cons_succ]
        refine takeH (i := 8) (v := .slice (some ⟨g, 0, none⟩) nn nc) (d := 29) rfl rfl (by kernel_rfl) (by kernel_rfl) (by kernel_rfl) (fun _ _ _ h => h) (by rfl) (fun V hV => by obtain ⟨v1, v2, v3, v4⟩ := hV; go_simp) HSD.out ?_
        simp only [Act.put, List.setIfInBounds_toArray, List.set_cons_zero, List.set_cons_succ]
        refine takeH (i := 9) (v := .pointer (some ⟨g, 2, none⟩)) (d := 30) rfl rfl (by kernel_rfl) (by kernel_rfl) (by kernel_rfl) (fun _ _ _ h => h) (by rfl) (fun V hV => by obtain ⟨v1, v2, v3, v4⟩ := hV; go_simp) HSD.out ?_
        simp only [Act.put, List.setIfInBounds_toArray, List.set_cons_zero, List.set_cons_succ]
        refine takeH (i := 10) (v := .int .i64 c) (d := 31) rfl rfl (by kernel_rfl) (by kernel_rfl) (by kernel_rfl) (fun _ _ _ h => h) (by rfl) (fun V hV => by obtain ⟨v1, v2, v3, v4⟩ := hV; go_simp) HSD.out ?_
        simp only [Act.put, List.setIfInBounds_toArray, List.set_cons_zero, List.set_cons_succ]
        refine takeH (i := 11) (v := .agg #[.int .i64 a, .int .i64 b, .int .i64 c]) (d := 32) rfl rfl (by kernel_rfl) (by kernel_rfl) (by kernel_rfl) (fun _ _ _ h => h) (by rfl) (fun V hV => by obtain ⟨v1, v2, v3, v4⟩ := hV; go_simp) HSD.out ?_
        simp only [Act.put, List.setIfInBounds_toArray, List.set_cons_zero, List.set_cons_succ]
        refine oneH (i := 12) rfl (by kernel_rfl) rfl (op_run (d := 33) (v' := .slice (some ⟨w1.heap.size, 0, none⟩) 1 1) (w' := (w1.alloc (.cells #[.int .i64 a, .int .i64 b, .int .i64 c] 48)).drew) rfl (by go_simp) ⟨HSE.out, ?_⟩)
        simp only [Act.put, List.setIfInBounds_toArray, List.set_cons_zero, List.set_cons_succ]
        refine oneH (i := 13) rfl (by kernel_rfl) rfl (call_append (d := 34) (s := .tmp 22) (x := .tmp 33) (t := 22) rfl rfl (v := .slice ua un uc) (v2 := .slice (some ⟨w1.heap.size, 0, none⟩) 1 1) (by simp [Act.eval]) (by simp [Act.eval]) hrun ⟨HSF.out, ?_⟩)
        simp only [Act.put, List.setIfInBounds_toArray, List.set_cons_zero, List.set_cons_succ]
        refine takeH (i := 14) (v := .pointer (some ⟨w.heap.size + 1, 1, none⟩)) (d := 35) rfl rfl (by kernel_rfl) (by kernel_rfl) (by kernel_rfl) (fun _ _ _ h => h) (by rfl) (fun V hV => by obtain ⟨v1, v2, v3, v4⟩ := hV; go_simp) HSF.out ?_
        simp only [Act.put, List.setIfInBounds_toArray, List.set_cons_zero, List.set_cons_succ]
        refine wpAnyH_done (by kernel_rfl) ?_ _
        show Oper.wp Tryd.prog _ _ w2 _ _
        unfold Oper.wp
        go_simp
        have eT : tellL ((pre ++ [x]).map lineB) = (tn, te ++ [(a, b, c)]) := by rw [HTL.out]; rfl
        exact ⟨HKO.out.trans (KeepsOthers.setCell _ _ _), ((below_low HB1.out (by omega)).trans (below_low B2.out (by omega))).setCell (p := ⟨w.heap.size + 1, 1, none⟩) (by simp) _, ⟨⟨_, by rw [eT]; exact set_es Y1b.out, by rw [eT]; exact own_setB O2.out (by omega) _⟩, (Below.heap_setCell _ _ _ _ (by simp)).trans Y0b.out, by rw [size_setCell]; have := B2.out.size; omega⟩, (BW.out.trans (below_low B2.out (by omega))).setCell (p := ⟨w.heap.size + 1, 1, none⟩) (by simp) _⟩
      · have n1 : ¬ nn = 1 := by omega
        have n3 : ¬ nn = 3 := by omega
        have i1 : ((nn : Int) == 1) = false := by simp; omega
        have i3 : ((nn : Int) == 3) = false := by simp; omega
        refine Lib.hid ?_
        gi_wp2_with fail
        have eT : tellL ((pre ++ [x]).map lineB) = (tn, te) := by
          rw [HTL.out]
          match NL, h1, h3 with
          | [], _, _ => rfl
          | [_], h, _ => exact absurd rfl h
          | [_, _], _, _ => rfl
          | [_, _, _], _, h => exact absurd rfl h
          | _ :: _ :: _ :: _ :: _, _, _ => rfl
        exact ⟨keeps_below HB1.out, below_low HB1.out (by omega), ⟨⟨_, by rw [eT]; exact Y1.out, by rw [eT]; exact O1.out⟩, Y0.out, by omega⟩, BW.out⟩
end Go.Proofs.YtcfcpibamjgodaaDoor
