/-
  Contract of disk's mayBe: a disk at work may be, as P3.1 says; the names go into a map.
-/
import Derived.Test.YthakibcfmbkpkaaDoorNameWalk
import Derived.Maps.OwnSet
import Derived.BigRegion
import Derived.Deep.DeepMust
namespace Go.Proofs.YthakibcfmbkpkaaDoor
set_option maxRecDepth 100000
open Go.ChangeShapes Go.WideShapes Go.ChangeAt Go.RowKit Go.Maps

def keyF (f : FileL) : Lit := .string f.name.data.toList
def keyL (fs : List FileL) : List Lit := fs.map keyF
theorem keyF_key (f : FileL) : WideAt.IsKeyLit (keyF f) := trivial
theorem keyL_key (fs : List FileL) : ∀ x ∈ keyL fs, WideAt.IsKeyLit x := by
  intro x hx
  obtain ⟨f, _, rfl⟩ := List.mem_map.1 hx
  exact keyF_key f
theorem keyF_inj {f g : FileL} : keyF f = keyF g ↔ f.name = g.name := by
  rw [← name_eq, ByteArray.toList_eq, ByteArray.toList_eq]
  constructor
  · intro h; injection h
  · intro h; unfold keyF; rw [h]
theorem any_same {acc : List Lit} {f : FileL} : acc.any (fun y => y.sameKey (keyF f)) = true ↔ keyF f ∈ acc := by
  rw [List.any_eq_true]
  constructor
  · rintro ⟨y, hy, h⟩
    rw [(WideAt.sameKey_iff (keyF_key f)).1 h] at hy
    exact hy
  · intro h; exact ⟨_, h, WideAt.sameKey_self (keyF_key f)⟩
theorem addKey_in {acc : List Lit} {f : FileL} (h : keyF f ∈ acc) : addKey acc (keyF f) = acc := by rw [addKey, if_pos (any_same.2 h)]
theorem addKey_out {acc : List Lit} {f : FileL} (h : keyF f ∉ acc) : addKey acc (keyF f) = acc ++ [keyF f] := by rw [addKey, if_neg (fun e => h (any_same.1 e))]
theorem fold_le : ∀ (fs : List FileL) (acc : List Lit), ((keyL fs).foldl addKey acc).length ≤ acc.length + fs.length
  | [], acc => by simp [keyL]
  | f :: r, acc => by
    have ih := fold_le r (addKey acc (keyF f))
    have : (addKey acc (keyF f)).length ≤ acc.length + 1 := by
      by_cases h : keyF f ∈ acc
      · rw [addKey_in h]; omega
      · rw [addKey_out h]; simp
    simp only [keyL, List.map_cons, List.foldl_cons, List.length_cons] at *
    omega
theorem fold_eq : ∀ (fs : List FileL) (acc : List Lit), ((keyL fs).foldl addKey acc).length = acc.length + fs.length ↔ distB fs = true ∧ ∀ f ∈ fs, keyF f ∉ acc
  | [], acc => by simp [keyL, distB]
  | f :: r, acc => by
    have e : ((keyL (f :: r)).foldl addKey acc).length = ((keyL r).foldl addKey (addKey acc (keyF f))).length := rfl
    rw [e]
    by_cases h : keyF f ∈ acc
    · rw [addKey_in h]
      have := fold_le r acc
      constructor
      · intro h2; simp only [List.length_cons] at h2; omega
      · rintro ⟨_, h2⟩; exact absurd h (h2 f (by simp))
    · rw [addKey_out h]
      have ih := fold_eq r (acc ++ [keyF f])
      have e2 : (acc ++ [keyF f]).length + r.length = acc.length + (f :: r).length := by simp; omega
      rw [← e2, ih, distB, Bool.and_eq_true, List.all_eq_true]
      constructor
      · rintro ⟨h1, h2⟩
        refine ⟨⟨fun g hg => ?_, h1⟩, fun g hg => ?_⟩
        · have := h2 g hg
          simp only [List.mem_append, List.mem_singleton, not_or] at this
          simpa using fun e => this.2 (keyF_inj.2 e)
        · rcases List.mem_cons.1 hg with rfl | hg
          · exact h
          · have := h2 g hg
            simp only [List.mem_append, List.mem_singleton, not_or] at this
            exact this.1
      · rintro ⟨⟨h1, h2⟩, h3⟩
        refine ⟨h2, fun g hg => ?_⟩
        simp only [List.mem_append, List.mem_singleton, not_or]
        refine ⟨h3 g (by simp [hg]), fun e => ?_⟩
        have := h1 g hg
        simp at this
        exact this (keyF_inj.1 e)
/-- How many names there are. -/
theorem size_names (fs : List FileL) : size (setOf (.agg [] : DataW Unit) (keyL fs)) = fs.length ↔ distB fs = true := by
  rw [size_setOf _ _ (keyL_key fs)]
  have := fold_eq fs []
  simpa using this
theorem keyL_snoc {fs : List FileL} {k : Nat} (h : k < fs.length) : keyL (fs.take (k + 1)) = keyL (fs.take k) ++ [keyF (fs.getD k noF)] := by
  rw [take_snocF h]; simp [keyL]

theorem ownsMap_below {w w' : World} {B b n : Nat} {k : TypeId} {D : DataW Unit} (h : w.ownsMap Tryd.prog k unitElem b n D) (hb : Below B w w') (hB : b < B) : w'.ownsMap Tryd.prog k unitElem b n D := by
  obtain ⟨es, cl, h1, h2⟩ := h
  exact ⟨es, cl, (hb.block b hB).trans h1, h2⟩
theorem law9 : Keyed Tryd.prog 9 := string_keyed Tryd.underlying9

set_option maxHeartbeats 1000000 in
set_option maxRecDepth 100000 in
theorem mayBe_any (pb : Nat) (v : Value) (fs : List FileL) (w : World) (hp : w.cell? ⟨pb, 0, none⟩ = some v) (h : DiskR w v fs) (hg : Good fs) :
    Calls Tryd.prog 40 #[.pointer (some ⟨pb, 0, none⟩)] w fun e w' => e = .returned (.bool (mayB fs)) ∧ Below w.heap.size w w' := by
  have hmm := @run_makeMap Tryd.prog
  have lp : pb < w.heap.size := World.block_lt_of_cell? w _ hp
  have HG : Hid (Good fs) := hg
  obtain ⟨a, cap, rfl, hc, hm, ha, hel⟩ := h
  have HEL : Hid (0 < fs.length → ∃ b off, a = some ⟨b, off, none⟩ ∧ b < w.heap.size ∧ ∃ vs : Nat → Value, ∀ i, i < fs.length → FileC w b (off + i * 3) (vs i) (fs.getD i noF)) := hel
  clear ha hel hg
  unfold maxLen at hm
  by_cases hlong : 40 < fs.length
  · have HM : Hid (mayB fs = false) := may_long hlong
    have hl : (40 : Int) < (fs.length : Int) := by omega
    go_enter Tryd.func40, Tryd.ntmps40
    go_wp2_with fail
    go_ret
    exact ⟨ret_bool HM.out.symm, Below.refl _ _⟩
  · have hl : ¬ (40 : Int) < (fs.length : Int) := by omega
    have hpm : ∀ X, (w.alloc X).cell? ⟨pb, 0, none⟩ = some (.slice a fs.length cap) := fun X => ((below_alloc w X).cell (p := ⟨pb, 0, none⟩) lp).trans hp
    go_enter Tryd.func40, Tryd.ntmps40
    go_wp2_with fail
    go_loopw [20] (fun i wr => ∃ k : Nat, k ≤ fs.length ∧ i = .int .i64 k ∧ (∀ j, j < k → okB (fs.getD j noF) = true) ∧ wr.ownsMap Tryd.prog 9 unitElem w.heap.size k (setOf (.agg [] : DataW Unit) (keyL (fs.take k))) ∧ Below w.heap.size w wr) (fun i _ => fs.length - (intOf i).toNat)
    case atStart => exact ⟨0, by omega, rfl, fun j hj => by omega, World.ownsMap_made _ _ _ _, below_alloc _ _⟩
    case round =>
      obtain ⟨k, hk, rfl, hok, hown, hbel⟩ := hrel
      have HOK : Hid (∀ j, j < k → okB (fs.getD j noF) = true) := hok
      have HO : Hid (wr.ownsMap Tryd.prog 9 unitElem w.heap.size k (setOf (.agg [] : DataW Unit) (keyL (fs.take k)))) := hown
      have HB : Hid (Below w.heap.size w wr) := hbel
      have hpr : wr.cell? ⟨pb, 0, none⟩ = some (.slice a fs.length cap) := (hbel.cell (p := ⟨pb, 0, none⟩) lp).trans hp
      have hsz := hown.lt
      clear hok hown hbel
      by_cases hlt : k < fs.length
      · obtain ⟨b, off, rfl, lt, vs, hv⟩ := HEL.out (by omega)
        obtain ⟨c1, c2, c3, c4⟩ := ((hv k hlt).below HB.out (Nat.le_refl _))
        obtain ⟨da, dc, hdv, hd1, hd2, _, _⟩ := c4
        rw [hdv] at c2
        have hgd := HG.out k hlt
        have hnm : (fs.getD k noF).name.size ≤ maxLen := hgd.2.2.2.1
        have hdl : (fs.getD k noF).data.length ≤ maxLen := by omega
        have HNX : Hid (okB (fs.getD k noF) = true → ∀ j, j < k + 1 → okB (fs.getD j noF) = true) := fun h1 j hj => by
          rcases Nat.lt_succ_iff_lt_or_eq.1 hj with h | h
          · exact HOK.out j h
          · rw [h]; exact h1
        have HBAD : Hid (okB (fs.getD k noF) = false → mayB fs = false) := may_bad hlt
        have HKS : Hid (setOf (.agg [] : DataW Unit) (keyL (fs.take (k + 1))) = (setOf (.agg [] : DataW Unit) (keyL (fs.take k))).put (keyF (fs.getD k noF)) (.agg [])) := by
          show _ = _
          rw [keyL_snoc hlt, setOf_snoc]
        clear hv HEL hdv hd1 hd2 hgd
        generalize fs.getD k noF = f at *
        go_wp2_with fail
        refine (fileMay_any f da dc _ hnm hdl).mono ?_
        rintro e w2 ⟨rfl, hb2⟩
        have B2 : Hid (Below wr.heap.size wr w2) := (below_alloc wr _).trans (hb2.mono (by simp))
        have hb3 : Below (wr.heap.size + 1) (wr.alloc (.cells #[.string f.name, .slice da f.data.length dc, .int .i64 f.synced] 46)) w2 := by simpa using hb2
        have n1 : w2.cell? ⟨wr.heap.size, 0, none⟩ = some (.string f.name) := (hb3.cell (p := ⟨wr.heap.size, 0, none⟩) (Nat.lt_succ_self _)).trans (by simp)
        have O2 : Hid (w2.ownsMap Tryd.prog 9 unitElem w.heap.size k (setOf (.agg [] : DataW Unit) (keyL (fs.take k)))) := ownsMap_below HO.out B2.out hsz
        have hs2 : w.heap.size ≤ w2.heap.size := by have := B2.out.size; omega
        clear hb2 hb3
        by_cases h1 : okB f = true
        · go_wp2_with (at_mapUpdate; go_must (refine wpList_mapUpdate_own _ rfl _ _ _ 78 rfl 9 80 law9 Tryd.underlying78 (unitElem (H := Unit)) w.heap.size k _ rfl O2.out (by unfold maxLen; omega) _ _ _ rfl rfl (WideMaps.keyOf_string_mk Tryd.underlying9 hnm) _ [] unitElem_mk ?_))
          intro w3 hown3 hgrow3
          have O3 : Hid (w3.ownsMap Tryd.prog 9 unitElem w.heap.size (k + 1) (setOf (.agg [] : DataW Unit) (keyL (fs.take (k + 1))))) := by show World.ownsMap _ _ _ _ _ _ _; rw [HKS.out]; exact hown3
          have B3 : Hid (Below w.heap.size w w3) := (HB.out.trans (B2.out.mono (by omega))).grown hgrow3 hs2 (fun j hj => by cases hj; exact Nat.le_refl _)
          clear hown3 hgrow3
          go_wp2_with fail
          go_roundw
          case rel => exact ⟨k + 1, by omega, by go_num, HNX.out h1, O3.out, B3.out⟩
          case measure => simp [intOf]; omega
        · have h1' : okB f = false := by simpa using h1
          have HM : Hid (mayB fs = false) := HBAD.out h1'
          clear h1
          go_wp2_with fail
          go_ret
          exact ⟨ret_bool HM.out.symm, HB.out.trans (B2.out.mono (by omega))⟩
      · have ek : fs.take k = fs := List.take_of_length_le (by omega)
        have O2 := HO.out
        rw [ek] at O2
        have hlen1 := O2.len Tryd.underlying78 3
        have hlen2 := O2.drew.len Tryd.underlying78 3
        have HD : Hid (size (setOf (.agg [] : DataW Unit) (keyL fs)) = fs.length ↔ distB fs = true) := size_names fs
        have HM : Hid (mayB fs = distB fs) := by
          have h1 : fs.all okB = true := all_getD.2 (fun i hi => HOK.out i (by omega))
          have h2 : decide (fs.length ≤ 40) = true := by simp; omega
          simp [Hid, mayB, h1, h2]
        clear ek O2
        generalize size (setOf (.agg [] : DataW Unit) (keyL fs)) = q at *
        go_wp2_with fail
        go_region
        all_goals
          go_wp2_with fail
          go_ret
          refine ⟨ret_bool ?_, HB.out.drew⟩
          rw [HM.out]
          by_cases hd : distB fs = true
          · rw [hd]
            have := HD.out.2 hd
            simp [this]
          · have : ¬ q = fs.length := fun e => hd (HD.out.1 e)
            have hd' : distB fs = false := by simpa using hd
            rw [hd']
            simp
            omega
end Go.Proofs.YthakibcfmbkpkaaDoor
