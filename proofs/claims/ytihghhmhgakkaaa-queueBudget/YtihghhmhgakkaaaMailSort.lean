/-
  Contract of slices.SortFunc with merge's compare, on a row of mail of the call's own; merge.Sort.
-/
import Derived.Test.YtihghhmhgakkaaaMailCmp
import Derived.Test.YtihghhmhgakkaaaMailLaid
import Derived.Test.YtihghhmhgakkaaaMailRes
import Derived.Shelf.SlSortCmp.QuietGrown
namespace Go.Proofs.Ytihghhmhgakkaaa
set_option maxRecDepth 100000
open Go.ChangeShapes Go.WideShapes Go.ChangeAt Go.RowKit Go.Sort

theorem ltOf_cmpM (x y : Ml) : ltOf cmpM x y = ltMb x y := cmpM_lt x y
theorem swoM : SWO (ltOf cmpM) where
  irrefl x := by rw [ltOf_cmpM, ltMb_false]; unfold ltM; omega
  trans x y z h1 h2 := by
    rw [ltOf_cmpM, ltMb_true] at *
    unfold ltM at *; omega
  ntrans x y z h1 h2 := by
    rw [ltOf_cmpM, ltMb_false] at *
    unfold ltM at *; omega
theorem totM (x y : Ml) (h1 : ltOf cmpM x y = false) (h2 : ltOf cmpM y x = false) : x = y := by
  rw [ltOf_cmpM, ltMb_false] at h1 h2
  unfold ltM at h1 h2
  have e1 : x.1 = y.1 := by omega
  have e2 : x.2 = y.2 := by omega
  exact Prod.ext e1 e2
theorem sortM_of (es : List Ml) : (es.mergeSort fun x y => !ltOf cmpM y x) = sortM es := by
  unfold sortM
  congr 1
  funext x y
  rw [ltOf_cmpM]
  rfl
/-- A world behind W: blocks are laid, nothing is turned; the boxes of the two pieces of mail. -/
def CmpG (W V : World) (a0 a1 b0 b1 : Int) : Prop :=
  V.cell? ⟨W.heap.size, 0, none⟩ = some (.int .i64 a0) ∧ V.cell? ⟨W.heap.size + 1, 0, none⟩ = some (.int .i64 b0) ∧ V.cell? ⟨W.heap.size, 1, none⟩ = some (.int .i64 a1) ∧ V.cell? ⟨W.heap.size + 1, 1, none⟩ = some (.int .i64 b1) ∧ ∃ q os', V = grow (W.drewN q) os'
theorem cmpG_start (W : World) (a0 a1 b0 b1 : Int) : CmpG W ((W.alloc (.cells #[.int .i64 a0, .int .i64 a1] 27)).alloc (.cells #[.int .i64 b0, .int .i64 b1] 27)).drew a0 a1 b0 b1 := by
  refine ⟨by simp, by simp, by simp, by simp, 1, #[.cells #[.int .i64 a0, .int .i64 a1] 27, .cells #[.int .i64 b0, .int .i64 b1] 27], ?_⟩
  rw [alloc_eq_grow, alloc_eq_grow, grow_grow]; rfl
theorem cmpG_alloc {W V : World} {a0 a1 b0 b1 : Int} (h : CmpG W V a0 a1 b0 b1) (o : Obj) : CmpG W (V.alloc o) a0 a1 b0 b1 := by
  obtain ⟨h1, h2, h3, h4, q, os, h7⟩ := h
  have c : ∀ {p : Addr} {v : Value}, V.cell? p = some v → (V.alloc o).cell? p = some v := fun {p v} hp => ((below_alloc V o).cell (p := p) (World.block_lt_of_cell? V p hp)).trans hp
  exact ⟨c h1, c h2, c h3, c h4, q, os ++ #[o], by rw [alloc_eq_grow, h7, grow_grow]⟩

set_option maxHeartbeats 2000000 in
set_option maxRecDepth 100000 in
/-- merge's compare: in whatever world; blocks are laid, nothing is turned. -/
theorem mailCmp_grow (x y : Ml) (W : World) : Calls Try.prog 51 #[.agg #[.int .i64 x.1, .int .i64 x.2], .agg #[.int .i64 y.1, .int .i64 y.2]] W fun e w' => e = .returned (.int .i64 (cmpM x y)) ∧ ∃ q os', w' = grow (W.drewN q) os' := by
  unfold cmpM
  obtain ⟨a0, a1⟩ := x
  obtain ⟨b0, b1⟩ := y
  simp only
  have HS0 : Hid (CmpG W _ a0 a1 b0 b1) := cmpG_start W a0 a1 b0 b1
  generalize hor : or2 (cmpI a0 b0) (cmpI a1 b1) = rr
  have c3 : Hid (∀ (q : Nat) (V : World), V.heap[q]? = some (.cells #[.int .i64 (cmpI a0 b0), .int .i64 (cmpI a1 b1)] 3 (0, 0)) → Calls Try.prog 66 #[.slice (some ⟨q, 0, none⟩) 2 2] V fun e w' => e = .returned (.int .i64 rr) ∧ w' = V) := fun q V h => by rw [← hor]; exact cmpOr2_any _ _ q V (by rw [cell_of_row _ _ _ _ _ _ h]; rfl) (by rw [cell_of_row _ _ _ _ _ _ h]; rfl)
  clear hor
  go_enter Try.func51, Try.ntmps51
  go_wp2_with fail
  go_region_held3 (fun V => V.cell? ⟨W.heap.size, 0, none⟩ = some (.int .i64 a0) ∧ V.cell? ⟨W.heap.size + 1, 0, none⟩ = some (.int .i64 b0) ∧ V.cell? ⟨W.heap.size, 1, none⟩ = some (.int .i64 a1) ∧ V.cell? ⟨W.heap.size + 1, 1, none⟩ = some (.int .i64 b1) ∧ ∃ q os', V = grow (W.drewN q) os') (first | exact HS0.out | assumption | exact cmpG_alloc (by assumption) _) (first | (go_at_call 67; refine (cmpInt_any _ _ _).mono ?_; rintro e w1 ⟨rfl, rfl⟩) | (go_at_call 66; refine (c3.out _ _ (heap_third' _ _ _ _ _)).mono ?_; rintro e w1 ⟨rfl, rfl⟩))
  all_goals (rename_i hh; clear hh)
  go_wp2_with fail
  go_ret
  exact ⟨rfl, 1, _, by rw [alloc_eq_grow, alloc_eq_grow, alloc_eq_grow, grow_grow, grow_grow]; rfl⟩
theorem cmpLaysM (blk off size : Nat) (w : World) : CmpLays Try.prog 51 #[] encM 2 cmpM blk off size w := fun _ _ _ _ x y => mailCmp_grow x y _

theorem flatM_get (d : List Ml) (t : Nat) (h : t < d.length * 2) : (d.flatMap encM)[t]? = some (flatK encM 2 d.toArray)[t]! := by
  have h1 : t / 2 < d.length := by omega
  have h2 : t % 2 < 2 := by omega
  have hx : d[t / 2]? = some d[t / 2] := List.getElem?_eq_getElem h1
  have hm2 : t % 2 < (encM d[t / 2]).length := h2
  have hu : (encM d[t / 2])[t % 2]? = some (encM d[t / 2])[t % 2] := List.getElem?_eq_getElem hm2
  have := flat_at encM_len hx hu
  rw [show t / 2 * 2 + t % 2 = t by omega] at this
  rw [this, get_flatK _ _ _ _ (by simpa using h)]
  congr 1
  have e1 : d.toArray[t / 2]! = d[t / 2] := by rw [getElem!_pos _ _ (by simpa using h1)]; simp
  rw [e1]
  exact (getElem!_pos (encM d[t / 2]) (t % 2) hm2).symm

/-- An owned row of edges, in the sort's words. -/
theorem holdsM_own {w : World} {base g n cap : Nat} {d : List Ml} (h : w.ownsRow base 27 2 (.slice (some ⟨g, 0, none⟩) n cap) d.length (d.flatMap encM)) : HoldsK encM 2 w g 0 d.toArray := by
  intro j hj
  rw [size_flatK] at hj
  have hj' : j < d.length * 2 := by simpa using hj
  rcases own_shapeK h with ⟨hv, _⟩ | ⟨g', cap', hv, _, _, _, _, hc⟩
  · cases hv
  · injection hv with h1 h2 h3
    injection h1 with h1
    injection h1 with h1
    subst h1 h2 h3
    refine ⟨?_, frozenK h _⟩
    have := hc j _ (flatM_get d j hj')
    rw [Nat.zero_add]; exact this
/-- .. and back, behind the sort. -/
theorem ownM_sorted {w : World} {base g n cap m : Nat} {d d' : List Ml} {os : Array Obj} (h : w.ownsRow base 27 2 (.slice (some ⟨g, 0, none⟩) n cap) d.length (d.flatMap encM)) (hl : d'.length = d.length) :
    (sortWorldK encM 2 w g 0 m d'.toArray os).ownsRow base 27 2 (.slice (some ⟨g, 0, none⟩) n cap) d'.length (d'.flatMap encM) ∧ Below base w (sortWorldK encM 2 w g 0 m d'.toArray os) := by
  rcases h.2 with ⟨hv, _⟩ | ⟨g', cap', cur, hv, hg, hgg, hc, hm, hcur, htk⟩
  · cases hv
  · injection hv with h1 h2 h3
    injection h1 with h1
    injection h1 with h1
    subst h1 h2 h3
    have lt : g < w.heap.size := (Array.getElem?_eq_some_iff.1 hgg).1
    have hblk : (sortWorldK encM 2 w g 0 m d'.toArray os).heap[g]? = some (.cells (putCells id 0 (flatK encM 2 d'.toArray) cur) 27 (0, 0)) := by
      simp only [sortWorldK, grow, putRowK, putRow, mapBlock, Sort.ahead]
      rw [Array.getElem?_append_left (by simpa using lt), Array.getElem?_modify, if_pos rfl, hgg]
      rfl
    refine ⟨⟨flat_len encM_len d', .inr ⟨g, cap, _, by rw [hl], hg, hblk, by rw [hl]; exact hc, hm, by simp [putCells, hcur], ?_⟩⟩, ?_⟩
    · refine List.ext_getElem? fun t => ?_
      rcases Nat.lt_or_ge t (d'.length * 2) with ht | ht
      · rw [List.getElem?_take_of_lt ht, flatM_get d' t ht, Array.getElem?_toList]
        simp only [putCells, Array.getElem?_mapIdx]
        have hc2 : t < cur.size := by rw [hcur]; rw [hl] at ht; omega
        rw [Array.getElem?_eq_getElem hc2, Option.map_some, if_pos ⟨by omega, by rw [size_flatK]; simpa using ht⟩]
        rfl
      · rw [List.getElem?_eq_none (by rw [List.length_take]; omega), List.getElem?_eq_none (by rw [flat_len encM_len d']; omega)]
    · refine ⟨rfl, rfl, rfl, ?_, fun k hk => ?_⟩
      · simp [sortWorldK, grow, putRowK, putRow, mapBlock, Sort.ahead]
      · have hk2 : k < w.heap.size := by omega
        simp only [sortWorldK, grow, putRowK, putRow, mapBlock, Sort.ahead]
        rw [Array.getElem?_append_left (by simpa using hk2), Array.getElem?_modify, if_neg (by omega)]

/-- slices.SortFunc with compare. -/
theorem sortM_any (base : Nat) (v : Value) (es : List Ml) (w : World) (h : w.ownsRow base 27 2 v es.length (es.flatMap encM)) (hl : es.length < 4611686018427387904) :
    Calls Try.prog 50 #[v, .func (.func 51) #[] #[]] w fun e w' => e = .returned (.tuple #[]) ∧ w'.ownsRow base 27 2 v (sortM es).length ((sortM es).flatMap encM) ∧ Below base w w' := by
  rcases own_shapeK h with ⟨rfl, h0, _⟩ | ⟨g, cap, rfl, hg, lt, hc, hm, _⟩
  · have : es = [] := List.eq_nil_of_length_eq_zero h0
    subst this
    have hcon := AnyF.slices_SortFunc_none Try.sortM none 0 (.func (.func 51) #[] #[]) w
    change Calls Try.prog 50 _ _ _ at hcon
    refine hcon.mono ?_
    rintro e w' ⟨rfl, rfl⟩
    exact ⟨rfl, by simpa [sortM] using h, Below.refl _ _⟩
  · have eg : ∀ args w, (callFunc 51 args).run Try.prog w = .ok (.enter 51 args) w := Go.Proofs.enters_of Try.func51 (by kernel_rfl) rfl
    have hcon := AnyQ.slices_SortFunc_total Try.sortM 2 Try.isAgg27 Try.sizeOf27 encM encM_len (fun x u hu => encM_one x u hu) cmpM swoM 51 #[] g 0 cap es.toArray w eg (cmpLaysM _ _ _ _) (holdsM_own h) lt (by simpa using hl) totM
    change Calls Try.prog 50 _ _ _ at hcon
    rw [show es.toArray.size = es.length by simp] at hcon
    rw [sortM_of] at hcon
    refine hcon.mono ?_
    rintro e w' ⟨rfl, m, os, rfl⟩
    have := ownM_sorted (m := m) (os := os) h (sortM_len es)
    exact ⟨rfl, this.1, this.2⟩

/-- What merge.Sort answers, and the document's. -/
def SrtP (w : World) (es : List Ml) (e : Ending) (w' : World) : Prop := ∃ v', e = .returned (.tuple #[v', .int .i64 (errS es.length)]) ∧ w'.ownsRow w.heap.size 27 2 v' (okL (errS es.length) (sortM es)).length ((okL (errS es.length) (sortM es)).flatMap encM) ∧ Below w.heap.size w w'
set_option maxHeartbeats 1000000 in
theorem mergeSort_any (v : Value) (es : List Ml) (w : World) (h : MlR w v es) : Calls Try.prog 36 #[v] w (SrtP w es) := by
  have HR : Hid (MlR w v es) := h
  obtain ⟨a, cap, rfl, hc, hm, _, _⟩ := h
  unfold maxLen at hm
  by_cases hn : es.length > 5000
  · have e1 : errS es.length = 1 := if_pos hn
    have HE : Hid (SrtP w es (.returned (.tuple #[.slice none 0 0, .int .i64 1])) w) := by
      unfold SrtP
      rw [e1]
      exact ⟨_, rfl, by rw [okL_no (by decide)]; exact World.ownsRow_nil _ _ _ _, Below.refl _ _⟩
    clear e1
    go_enter Try.func36, Try.ntmps36
    go_wp2_with fail
    go_ret2
    exact HE.out
  · have e1 : errS es.length = 0 := if_neg hn
    have HE : Hid (∀ v' w', w'.ownsRow w.heap.size 27 2 v' (sortM es).length ((sortM es).flatMap encM) → Below w.heap.size w w' → SrtP w es (.returned (.tuple #[v', .int .i64 0])) w') := by
      intro v' w' h1 h2
      unfold SrtP
      rw [e1, okL_yes]
      exact ⟨_, rfl, h1, h2⟩
    clear e1
    generalize SrtP w es = P at *
    go_enter Try.func36, Try.ntmps36
    go_wp2_with (at_builtin; refine wpList_append_rowK kM rfl _ _ rfl w.heap.size _ ([] : List Ml) rfl (World.ownsRow_nil _ _ _ _) _ es rfl HR.out ?d1 ?d2 (Nat.le_refl _) ?_)
    case d1 => simp [kM]; omega
    case d2 => simp [maxLen]; omega
    intro v' w' hown hb _
    have OW : Hid (w'.ownsRow w.heap.size 27 2 v' es.length (es.flatMap encM)) := by
      show World.ownsRow _ _ _ _ _ _ _
      simpa [kM] using hown
    have HB : Hid (Below w.heap.size w w') := hb
    obtain ⟨va, vn, vc, rfl⟩ : ∃ a n c, v' = .slice a n c := by obtain ⟨a, c, e, _⟩ := MlR.ownd OW.out; exact ⟨_, _, _, e⟩
    clear hown hb
    go_wp2_with fail
    refine (sortM_any _ _ es _ OW.out (by omega)).mono ?_
    rintro e w2 ⟨rfl, hown2, hb2⟩
    have HX : Hid (P (.returned (.tuple #[.slice va vn vc, .int .i64 0])) w2) := HE.out _ _ hown2 (HB.out.trans hb2)
    clear hown2 hb2
    go_wp2_with fail
    exact HX.out
theorem mergeSort_ref (v : Value) (es : List Ml) (w : World) (h : MlR w v es) : Calls Try.prog 36 #[v] w (RefP w (errS es.length) (sortM es)) := mergeSort_any v es w h
end Go.Proofs.Ytihghhmhgakkaaa
