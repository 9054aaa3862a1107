/-
  Contract of the document's own Appended: what P3.2 says.
-/
import Derived.Test.YtdhaccljidhdcaaRefLib
import Derived.Test.YtdhaccljidhdcaaAppendWalk
namespace Go.Proofs.Ytdhaccljidhdcaa
open Go.ChangeShapes Go.WideShapes Go.ChangeAt Go.RowKit
attribute [local go_sem ↓] exec_append

/-- A disk of the call's own in the block g, by way of the box o; the data of file k is dl. -/
structure PutD (w : World) (B o g cap k : Nat) (fs : List FileL) (vs : Nat → Value) (dv : Value) (dl : List Int) : Prop where
  le : fs.length ≤ cap
  max : cap ≤ maxLen
  lt : g < w.heap.size
  olt : o < w.heap.size
  free : ∀ j, w.frozen? ⟨g, j, none⟩ = false
  nm : w.cell? ⟨g, k * 3, none⟩ = some (.string (fs.getD k noF).name)
  dc : w.cell? ⟨g, k * 3 + 1, none⟩ = some dv
  sy : w.cell? ⟨g, k * 3 + 2, none⟩ = some (.int .i64 (fs.getD k noF).synced)
  own : w.ownsRow B 5 1 dv dl.length (dl.map (Value.int .u8))
  cells : ∀ i, i < fs.length → i ≠ k → w.cell? ⟨g, i * 3, none⟩ = some (.string (fs.getD i noF).name) ∧ w.cell? ⟨g, i * 3 + 1, none⟩ = some (vs i) ∧ w.cell? ⟨g, i * 3 + 2, none⟩ = some (.int .i64 (fs.getD i noF).synced)
  owns : ∀ i, i < fs.length → i ≠ k → w.ownsRow B 5 1 (vs i) (fs.getD i noF).data.length ((fs.getD i noF).data.map (Value.int .u8))
  apart : ∀ i, i < fs.length → i ≠ k → (vs i).ownBlock = none ∨ (vs i).ownBlock ≠ dv.ownBlock
  far : ∀ i, i < fs.length → i ≠ k → (vs i).ownBlock = none ∨ (vs i).ownBlock ≠ some g
  gd : dv.ownBlock ≠ some g
  od : dv.ownBlock ≠ some o
  og : o ≠ g
  box : w.cell? ⟨o, 0, none⟩ = some (.slice (some ⟨g, 0, none⟩) fs.length cap)

theorem PutD.below {w w' : World} {A B o g cap k : Nat} {fs : List FileL} {vs : Nat → Value} {dv : Value} {dl : List Int} (h : PutD w B o g cap k fs vs dv dl) (hb : Below A w w') (hA : w.heap.size ≤ A) : PutD w' B o g cap k fs vs dv dl := by
  have hg := Nat.lt_of_lt_of_le h.lt hA
  have ho := Nat.lt_of_lt_of_le h.olt hA
  have c : ∀ j, w'.cell? ⟨g, j, none⟩ = w.cell? ⟨g, j, none⟩ := fun j => hb.cell (p := ⟨g, j, none⟩) hg
  exact ⟨h.le, h.max, Nat.lt_of_lt_of_le h.lt hb.size, Nat.lt_of_lt_of_le h.olt hb.size, fun j => (hb.frozen (p := ⟨g, j, none⟩) hg).trans (h.free j), (c _).trans h.nm, (c _).trans h.dc, (c _).trans h.sy, own_below h.own hb hA,
    fun i hi hne => ⟨(c _).trans (h.cells i hi hne).1, (c _).trans (h.cells i hi hne).2.1, (c _).trans (h.cells i hi hne).2.2⟩, fun i hi hne => own_below (h.owns i hi hne) hb hA, h.apart, h.far, h.gd, h.od, h.og, (hb.cell (p := ⟨o, 0, none⟩) ho).trans h.box⟩
theorem PutD.alloc {w : World} {B o g cap k : Nat} {fs : List FileL} {vs : Nat → Value} {dv : Value} {dl : List Int} (h : PutD w B o g cap k fs vs dv dl) (x : Obj) : PutD (w.alloc x) B o g cap k fs vs dv dl := h.below (below_alloc w x) (Nat.le_refl _)
theorem PutD.drew {w : World} {B o g cap k : Nat} {fs : List FileL} {vs : Nat → Value} {dv : Value} {dl : List Int} (h : PutD w B o g cap k fs vs dv dl) : PutD w.drew B o g cap k fs vs dv dl := h.below (Below.refl w.heap.size w).drew (Nat.le_refl _)

theorem PutD.mid {w w' : World} {B o g cap k : Nat} {fs : List FileL} {vs : Nat → Value} {dv : Value} {dl : List Int} (h : PutD w B o g cap k fs vs dv dl) (hg : w.grownBy w' dv.ownBlock) :
    w'.cell? ⟨g, k * 3 + 1, none⟩ = some dv ∧ w'.frozen? ⟨g, k * 3 + 1, none⟩ = false ∧ w'.cell? ⟨o, 0, none⟩ = some (.slice (some ⟨g, 0, none⟩) fs.length cap) :=
  ⟨(hg.cell_far ⟨g, k * 3 + 1, none⟩ h.lt (fun e => h.gd e.symm)).trans h.dc, (hg.frozen_far ⟨g, k * 3 + 1, none⟩ h.lt (fun e => h.gd e.symm)).trans (h.free _), (hg.cell_far ⟨o, 0, none⟩ h.olt (fun e => h.od e.symm)).trans h.box⟩
/-- The data of file k was appended to, and stored. -/
theorem PutD.step {w w' : World} {B o g cap k g' n c : Nat} {fs : List FileL} {vs : Nat → Value} {dv : Value} {dl dl' : List Int} (h : PutD w B o g cap k fs vs dv dl) (hg : w.grownBy w' dv.ownBlock) (hown : w'.ownsRow B 5 1 (.slice (some ⟨g', 0, none⟩) n c) dl'.length (dl'.map (Value.int .u8))) (hat : dv.ownBlock = some g' ∨ g' = w.heap.size) :
    PutD (w'.setCell ⟨g, k * 3 + 1, none⟩ (.slice (some ⟨g', 0, none⟩) n c)) B o g cap k fs vs (.slice (some ⟨g', 0, none⟩) n c) dl' := by
  obtain ⟨m1, m2, m3⟩ := h.mid hg
  have cell : ∀ j, w'.cell? ⟨g, j, none⟩ = w.cell? ⟨g, j, none⟩ := fun j => hg.cell_far ⟨g, j, none⟩ h.lt (fun e => h.gd e.symm)
  have frz : ∀ j, w'.frozen? ⟨g, j, none⟩ = w.frozen? ⟨g, j, none⟩ := fun j => hg.frozen_far ⟨g, j, none⟩ h.lt (fun e => h.gd e.symm)
  have hgg : g' ≠ g := fun e => by
    subst e
    rcases hat with e | e
    · exact h.gd e
    · have := h.lt; omega
  have hgo : g' ≠ o := fun e => by
    subst e
    rcases hat with e | e
    · exact h.od e
    · have := h.olt; omega
  have oth : ∀ i, i < fs.length → i ≠ k → (vs i).ownBlock = none ∨ (vs i).ownBlock ≠ some g' := fun i hi hne => by
    rcases hat with e | e
    · rw [← e]; exact h.apart i hi hne
    · subst e
      refine .inr fun e => ?_
      have := ((h.owns i hi hne).lt _ e).2
      omega
  have sc : ∀ {j x}, j ≠ k * 3 + 1 → (w'.setCell ⟨g, k * 3 + 1, none⟩ x).cell? ⟨g, j, none⟩ = w.cell? ⟨g, j, none⟩ := fun hj => by
    rw [World.cell?_setCell_other _ _ _ _ (addr_ne (fun e => hj e.symm)), cell]
  refine ⟨h.le, h.max, ?_, ?_, fun j => (World.frozen?_setCell _ _ _ _).trans ((frz j).trans (h.free j)), (sc (by omega)).trans h.nm, World.cell?_setCell_same _ _ _ m1, (sc (by omega)).trans h.sy, own_other hown (.inr (fun e => hgg (by injection e))), ?_, ?_, oth, h.far, fun e => hgg (by injection e), fun e => hgo (by injection e), h.og, ?_⟩
  · rw [size_setCell]; exact Nat.lt_of_lt_of_le h.lt hg.size
  · rw [size_setCell]; exact Nat.lt_of_lt_of_le h.olt hg.size
  · intro i hi hne
    obtain ⟨c1, c2, c3⟩ := h.cells i hi hne
    exact ⟨(sc (by omega)).trans c1, (sc (by omega)).trans c2, (sc (by omega)).trans c3⟩
  · intro i hi hne
    exact own_other ((h.owns i hi hne).kept hg (h.apart i hi hne)) (h.far i hi hne)
  · rw [World.cell?_setCell_other _ _ _ _ (fun e => h.og (congrArg Addr.block e).symm)]; exact m3
theorem PutD.reads {w : World} {B o g cap k : Nat} {fs : List FileL} {vs : Nat → Value} {dv : Value} {dl : List Int} (h : PutD w B o g cap k fs vs dv dl) (hk : k < fs.length) : DiskR w (.slice (some ⟨g, 0, none⟩) fs.length cap) (fs.set k { fs.getD k noF with data := dl }) := by
  refine ⟨_, cap, by rw [List.length_set], by rw [List.length_set]; exact h.le, h.max, fun e => (by cases e), fun _ => ⟨g, 0, rfl, h.lt, fun i => if i = k then dv else vs i, fun i hi => ?_⟩⟩
  rw [List.length_set] at hi
  rw [Nat.zero_add]
  by_cases e : i = k
  · subst e
    rw [getD_set_eq hi]
    show FileC _ _ _ (if i = i then dv else _) _
    rw [if_pos rfl]
    exact ⟨h.nm, h.dc, h.sy, reads_own h.own⟩
  · rw [getD_set_ne e]
    show FileC _ _ _ (if i = k then dv else vs i) _
    rw [if_neg e]
    obtain ⟨c1, c2, c3⟩ := h.cells i hi e
    exact ⟨c1, c2, c3, reads_own (h.owns i hi e)⟩
theorem OwnD.put0 {w : World} {B o g n cap k : Nat} {fs : List FileL} {vs : List Value} (h : OwnD w B (.slice (some ⟨g, 0, none⟩) n cap) fs vs) (hk : k < fs.length) (holt : o < w.heap.size) (hog : o ≠ g) (hod : (vs.getD k undef).ownBlock ≠ some o) (hbox : w.cell? ⟨o, 0, none⟩ = some (.slice (some ⟨g, 0, none⟩) fs.length cap)) :
    PutD w B o g cap k fs (fun i => vs.getD i undef) (vs.getD k undef) (fs.getD k noF).data := by
  obtain ⟨hrow, _⟩ := h.rowF
  obtain ⟨c1, c2, c3, _⟩ := hrow.file k hk
  have hfar : ∀ i, i < fs.length → (vs.getD i undef).ownBlock = none ∨ (vs.getD i undef).ownBlock ≠ some g := fun i hi => own_apart (h.data i hi) h.row (by decide)
  have hgd : (vs.getD k undef).ownBlock ≠ some g := fun e => by
    rcases hfar k hk with e1 | e1
    · rw [e1] at e; cases e
    · exact e1 e
  refine ⟨hrow.le, hrow.max, hrow.lt, holt, hrow.free, c1, c2, c3, h.data k hk, ?_, fun i hi _ => h.data i hi, ?_, fun i hi _ => hfar i hi, hgd, hod, hog, hbox⟩
  · intro i hi _
    obtain ⟨d1, d2, d3, _⟩ := hrow.file i hi
    exact ⟨d1, d2, d3⟩
  · intro i hi hne
    rcases Nat.lt_or_gt_of_ne hne with hlt | hgt
    · rcases h.apart i k hlt hk with e1 | e1
      · rcases (h.data i hi).2 with ⟨hv, _⟩ | ⟨g', _, _, hv, _⟩
        · exact .inl (by show (vs.getD i undef).ownBlock = none; rw [hv]; rfl)
        · exact .inr (by show (vs.getD i undef).ownBlock ≠ _; rw [e1, hv]; intro hh; cases hh)
      · exact .inr (fun e2 => e1 e2.symm)
    · exact h.apart k i hgt hi

/-- A cell of a block that the disk does not own is written. -/
theorem OwnD.setFar {w : World} {base p : Nat} {v : Value} {fs : List FileL} {vs : List Value} (h : OwnD w base v fs vs) (hv : v.ownBlock ≠ some p) (hd : ∀ i, i < fs.length → (vs.getD i undef).ownBlock ≠ some p) (x : Value) : OwnD (w.setCell ⟨p, 0, none⟩ x) base v fs vs :=
  ⟨h.len, own_other h.row (.inr hv), fun i hi => own_other (h.data i hi) (.inr (hd i hi)), h.apart⟩
/-- What an append of one byte to a row of bytes comes to. -/
theorem run_byte {w : World} {B : Nat} {dv : Value} {dl : List Int} (h : w.ownsRow B 5 1 dv dl.length (dl.map (Value.int .u8))) (x : Int) (hl : dl.length + 1 ≤ 140737488355328) (hB : B ≤ w.heap.size) :
    ∃ g c w', AppOk Try.prog #[25, 25] 25 #[dv, .slice (some ⟨w.heap.size, 0, none⟩) 1 1] (w.alloc (.cells #[.int .u8 x] 5)).drew ∧
      appV Try.prog #[25, 25] 25 #[dv, .slice (some ⟨w.heap.size, 0, none⟩) 1 1] (w.alloc (.cells #[.int .u8 x] 5)).drew = .slice (some ⟨g, 0, none⟩) (dl.length + 1) c ∧
      appW Try.prog #[25, 25] 25 #[dv, .slice (some ⟨w.heap.size, 0, none⟩) 1 1] (w.alloc (.cells #[.int .u8 x] 5)).drew = w' ∧
      w'.ownsRow B 5 1 (.slice (some ⟨g, 0, none⟩) (dl.length + 1) c) (dl ++ [x]).length ((dl ++ [x]).map (Value.int .u8)) ∧ (w.alloc (.cells #[.int .u8 x] 5)).drew.grownBy w' dv.ownBlock ∧ (dv.ownBlock = some g ∨ g = (w.alloc (.cells #[.int .u8 x] 5)).drew.heap.size) := by
  obtain ⟨i0, hi, hz0, hz1, hz2⟩ := info_parts Try.info5
  obtain ⟨g, c, w', hrun, hown, hgrow, hat, _⟩ := run_append_lies (P := Try.prog) (w.alloc (.cells #[.int .u8 x] 5)).drew 25 25 B 5 i0 _ 1 1 Try.underlying25 hi hz0 hz1 hz2 rfl (by omega) dv _ _ ((h.alloc _).drew)
    ⟨w.heap.size, 0, none⟩ 1 1 [.int .u8 x] (by rfl) (World.news_of_block (cs := #[.int .u8 x]) (t := 5) (fr := (0, 0)) (heap_alloc_new w _)) (fun u hu => by simp at hu; subst hu; rfl)
    (by omega) (by unfold maxLen; omega) (by omega) (by simp; omega) _ rfl
  obtain ⟨a1, a2, a3⟩ := appOk_of hrun
  exact ⟨g, c, w', a1, a2, a3, by simpa using hown, hgrow, hat⟩

set_option maxHeartbeats 4000000 in
set_option maxRecDepth 100000 in
theorem appended_any (v : Value) (fs : List FileL) (n : ByteArray) (b : Value) (x : List Int) (w : World) (h : DiskR w v fs) (hg : Good fs) (hl : fs.length * 48 ≤ 140737488351232) (_hn : n.size ≤ maxLen) (hr : Reads .u8 w b x) :
    Calls Try.prog 12 #[.agg #[v], .string n, b] w fun e w' => ∃ v', e = .returned (.tuple #[.agg #[v'], .int .i64 (chF fs (appendF fs n x)).2]) ∧ DiskR w' v' (chF fs (appendF fs n x)).1 ∧ Below w.heap.size w w' := by
  obtain ⟨i0, hi, hz0, hz1, hz2⟩ := info_parts Try.infoF
  have HG : Hid (Good fs) := hg
  have HD : Hid (DiskR w v fs) := h
  have HR : Hid (Reads .u8 w b x) := hr
  obtain ⟨a, cap, rfl, hc, hm, _, _⟩ := h
  obtain ⟨ba, bc, rfl, hbc, hbm, _, _⟩ := hr
  clear hg
  unfold maxLen at hm hbm
  go_enter Try.func12, Try.ntmps12
  go_wp2_with fail
  refine (diskMay_any _ fs _ ?_).mono ?_
  · exact (HD.out.below (below_alloc _ _) (Nat.le_refl _)).below (below_alloc _ _) (Nat.le_refl _)
  rintro e w1 ⟨rfl, hb1⟩
  have B0 : Hid (Below (w.heap.size + 2) ((w.alloc (.cells #[.slice a fs.length cap] 24)).alloc (.cells #[.slice none 0 0] 24)) w1) := by simpa [Hid] using hb1
  have r0 := two_cell0 B0.out
  have t1 := two_cell1 B0.out
  have t2 := two_frozen1 B0.out
  have hs1 : w.heap.size + 2 ≤ w1.heap.size := by have := B0.out.size; simp at this; omega
  have B1 : Hid (Below w.heap.size w w1) := below_two B0.out
  have D1 : Hid (DiskR w1 (.slice a fs.length cap) fs) := HD.out.below B1.out (Nat.le_refl _)
  clear hb1
  cases hmay : mayB fs with
  | false =>
    have HF : Hid (chF fs (appendF fs n x) = ([], 9)) := by simp [chF, Hid, hmay]
    clear hmay
    go_wp2_with fail
    refine bodyPost_ret (v := .tuple #[.agg #[.slice none 0 0], .int .i64 9]) (by simp [results, Try.results12, go_sem, t1]) rfl ⟨.slice none 0 0, by rw [HF.out], by rw [HF.out]; exact diskR_nil _, B1.out.setCell (show w.heap.size ≤ w.heap.size + 1 by omega) _⟩
  | true =>
    have HFC : Hid (chF fs (appendF fs n x) = appendF fs n x) := by simp [chF, Hid, hmay]
    have HMAY : Hid (mayB fs = true) := hmay
    have h40 := (may_iff.1 hmay).1
    clear hmay
    go_wp2_with fail
    refine (in_any _ _ _ _).mono ?_
    rintro e w1' ⟨rfl, rfl⟩
    cases h0 : nmB n with
    | false =>
      have HF : Hid (appendF fs n x = ([], 1)) := appendF_size h0
      have hin : inB (n.size : Int) 1 20 = false := inB_no (by simp [nmB] at h0; omega)
      clear h0
      rw [hin]
      go_wp2_with fail
      refine bodyPost_ret (v := .tuple #[.agg #[.slice none 0 0], .int .i64 1]) (by simp [results, Try.results12, go_sem, t1]) rfl ⟨.slice none 0 0, by rw [HFC.out, HF.out], by rw [HFC.out, HF.out]; exact diskR_nil _, B1.out.setCell (show w.heap.size ≤ w.heap.size + 1 by omega) _⟩
    | true =>
      have hin : inB (n.size : Int) 1 20 = true := inB_yes (by simp [nmB] at h0; omega)
      rw [hin]
      go_wp2_with fail
      refine (diskCopy_any _ fs _ D1.out HG.out hl).mono ?_
      rintro e w3 ⟨v3, vs3, rfl, ho3, hb3⟩
      have B3 : Hid (Below (w.heap.size + 2) ((w.alloc (.cells #[.slice a fs.length cap] 24)).alloc (.cells #[.slice none 0 0] 24)) w3) := B0.out.trans (hb3.mono (by omega))
      have r03 := two_cell0 B3.out
      have t13 := two_cell1 B3.out
      have t23 := two_frozen1 B3.out
      have hs3 := hb3.size
      have O3 : Hid (OwnD w3 w1'.heap.size v3 fs vs3) := ho3
      have D3 : Hid (DiskR w3 (.slice a fs.length cap) fs) := HD.out.below (below_two B3.out) (Nat.le_refl _)
      obtain ⟨ya, yc, hv3, _, _, _, _⟩ := ho3.reads
      subst hv3
      clear hb3 ho3 r0 t1 t2 hin
      have r03' : ∀ X, (w3.alloc X).cell? ⟨w.heap.size, 0, none⟩ = some (.slice a fs.length cap) := fun X => ((below_alloc w3 X).cell (p := ⟨w.heap.size, 0, none⟩) (show w.heap.size < w3.heap.size by omega)).trans r03
      go_wp2_with fail
      refine (fileAt_any _ fs n _ ?_).mono ?_
      · exact D3.out.below (below_alloc _ _) (Nat.le_refl _)
      rintro e w2 ⟨rfl, hb2⟩
      have hb2' : Below (w3.heap.size + 1) (w3.alloc (.cells #[.slice ya fs.length yc] 24)) w2 := by simpa using hb2
      have B32 : Hid (Below w3.heap.size w3 w2) := box_below hb2'
      have bx0 := box_cell hb2'
      have bf0 : w2.frozen? ⟨w3.heap.size, 0, none⟩ = false := (hb2'.frozen (p := ⟨w3.heap.size, 0, none⟩) (Nat.lt_succ_self _)).trans (frozen_new0 _ _ _)
      have B2 : Hid (Below (w.heap.size + 2) ((w.alloc (.cells #[.slice a fs.length cap] 24)).alloc (.cells #[.slice none 0 0] 24)) w2) := B3.out.trans (B32.out.mono (by omega))
      have r02 := two_cell0 B2.out
      have t12 := two_cell1 B2.out
      have t22 := two_frozen1 B2.out
      have hs2 : w3.heap.size + 1 ≤ w2.heap.size := by have := hb2'.size; simp at this; omega
      have O2 : Hid (OwnD w2 w1'.heap.size (.slice ya fs.length yc) fs vs3) := O3.out.below B32.out (Nat.le_refl _)
      clear hb2 hb2' r03 r03' t13 t23
      rcases atF_cases fs n with ⟨k, hk, e, _, _⟩ | ⟨e, _⟩
      · have HF : Hid (appendF fs n x = putF fs k x) := appendF_some h0 e
        rw [e]
        clear e h0
        rcases O2.out.row_or with ⟨_, hnil⟩ | ⟨g, yc', hv, hg, hrow⟩
        · subst hnil; simp at hk
        injection hv with hv1 _ hv3
        subst hv1 hv3
        have hglt : g < w3.heap.size := by
          rcases O3.out.row_or with ⟨h9, _⟩ | ⟨g', yc', hv, _, hr9⟩
          · cases h9
          · injection hv with hv1 _ _
            injection hv1 with hv1
            injection hv1 with hv1
            subst hv1
            exact hr9.lt
        have P2 : Hid (PutD w2 w1'.heap.size w3.heap.size g yc k fs (fun i => vs3.getD i undef) (vs3.getD k undef) (fs.getD k noF).data) := O2.out.put0 hk (by omega) (by omega) (fun e9 => by have := O3.out.lt k hk _ e9; omega) bx0
        clear hrow bx0
        have hd0 := P2.out.own
        have hdl9 : (fs.getD k noF).data.length ≤ 100000 ∨ 100000 < (fs.getD k noF).data.length := by omega
        have bx := P2.out.box
        have dc := P2.out.dc
        rw [(show fs.length = fs.length from rfl)] at bx
        have HP : Hid (vs3.getD k undef = vs3.getD k undef) := rfl
        obtain ⟨da, dcap, hdv, hdc, hdm, _, _⟩ := reads_own hd0
        unfold maxLen at hdm
        have P2' : Hid (PutD w2 w1'.heap.size w3.heap.size g yc k fs (fun i => vs3.getD i undef) (.slice da (fs.getD k noF).data.length dcap) (fs.getD k noF).data) := by rw [← hdv]; exact P2.out
        rw [hdv] at dc
        have hKL : k < fs.length := hk
        have q0 : (0 : Int) ≤ (k : Int) := by omega
        have q1 : (k : Int) < (fs.length : Int) := by omega
        have hcm := P2.out.max
        have hcl := P2.out.le
        rw [(show fs.length = fs.length from rfl)] at hcl
        unfold maxLen at hcm
        clear hd0 hdv HP
        by_cases hov : 100000 < (fs.getD k noF).data.length + x.length
        · have HF2 : Hid (putF fs k x = ([], 10)) := putF_over hov
          have hov' : (100000 : Int) - ((fs.getD k noF).data.length : Int) < (x.length : Int) := by omega
          generalize (fs.getD k noF).data = dl at *
          go_wp2_with fail
          refine bodyPost_ret (v := .tuple #[.agg #[.slice none 0 0], .int .i64 10]) (by simp [results, Try.results12, go_sem, t12]) rfl ⟨.slice none 0 0, by rw [HFC.out, HF.out, HF2.out], by rw [HFC.out, HF.out, HF2.out]; exact diskR_nil _, (below_two B2.out).setCell (show w.heap.size ≤ w.heap.size + 1 by omega) _⟩
        · have HF2 : Hid (putF fs k x = (fs.set k { fs.getD k noF with data := (fs.getD k noF).data ++ x }, 0)) := putF_ok hov
          have hov' : ¬ (100000 : Int) - ((fs.getD k noF).data.length : Int) < (x.length : Int) := by omega
          generalize hDL : (fs.getD k noF).data = dl at *
          clear hDL
          go_wp2_with fail
          go_loopw [10] (fun i wr => ∃ (m : Nat) (dv : Value), m ≤ x.length ∧ i = .int .i64 m ∧ PutD wr w1'.heap.size w3.heap.size g yc k fs (fun i => vs3.getD i undef) dv (dl ++ x.take m) ∧ w2.heap.size ≤ wr.heap.size ∧ Below (w.heap.size + 2) ((w.alloc (.cells #[.slice a fs.length cap] 24)).alloc (.cells #[.slice none 0 0] 24)) wr) (fun i _ => x.length - (intOf i).toNat)
          case atStart => exact ⟨0, _, by omega, rfl, by simpa using P2'.out, Nat.le_refl _, B2.out⟩
          case round =>
            obtain ⟨m, dv, hm, rfl, hput, hsz, hbel⟩ := hrel
            have HPT : Hid (PutD wr w1'.heap.size w3.heap.size g yc k fs (fun i => vs3.getD i undef) dv (dl ++ x.take m)) := hput
            have HB : Hid (Below (w.heap.size + 2) ((w.alloc (.cells #[.slice a fs.length cap] 24)).alloc (.cells #[.slice none 0 0] 24)) wr) := hbel
            have bx4 := hput.box
            rw [(show fs.length = fs.length from rfl)] at bx4
            have dc4 := hput.dc
            obtain ⟨ea, ec, hev, _, _, _, _⟩ := reads_own hput.own
            rw [hev] at HPT dc4
            have hgl := hput.lt
            have hlen : (dl ++ x.take m).length ≤ 100000 := by rw [List.length_append, List.length_take]; omega
            clear hput hbel hev
            by_cases hlt : m < x.length
            · obtain ⟨b0, off, bc', e1, _, _, hb0, hcell⟩ := (HR.out.below (below_two HB.out) (Nat.le_refl _)).plain (by omega)
              injection e1 with e1 _ e3
              subst e1 e3
              have hck := hcell m hlt
              have HTk : Hid (x.take (m + 1) = x.take m ++ [x.getD m 0]) := take_snocI hlt
              generalize x.getD m 0 = y at *
              obtain ⟨gg, gc, w5, a1, a2, a3, hown5, hgrow5, hat5⟩ := run_byte HPT.out.own y (by omega) (by omega)
              obtain ⟨z1, z2, z3⟩ := ((HPT.out.alloc _).drew).mid hgrow5
              have P5 : Hid (PutD (w5.setCell ⟨g, k * 3 + 1, none⟩ (.slice (some ⟨gg, 0, none⟩) ((dl ++ x.take m).length + 1) gc)) w1'.heap.size w3.heap.size g yc k fs (fun i => vs3.getD i undef) (.slice (some ⟨gg, 0, none⟩) ((dl ++ x.take m).length + 1) gc) (dl ++ x.take (m + 1))) := by
                show PutD _ _ _ _ _ _ _ _ _ _
                rw [HTk.out, ← List.append_assoc]
                exact ((HPT.out.alloc _).drew).step hgrow5 hown5 hat5
              have B5 : Hid (Below (w.heap.size + 2) ((w.alloc (.cells #[.slice a fs.length cap] 24)).alloc (.cells #[.slice none 0 0] 24)) w5) := ((HB.out.alloc (by omega) _).drew).grown hgrow5 (by simp; omega) (fun j hj => by have := (HPT.out.own.lt j hj).1; omega)
              have hs5 : wr.heap.size ≤ w5.heap.size := by have := hgrow5.size; simp at this; omega
              have hgB : w.heap.size + 2 ≤ g := by omega
              rw [(show fs.length = fs.length from rfl)] at z3
              have k5 : ∀ X, (wr.alloc X).cell? ⟨w3.heap.size, 0, none⟩ = some (.slice (some ⟨g, 0, none⟩) fs.length yc) := fun X => ((below_alloc wr X).cell (p := ⟨w3.heap.size, 0, none⟩) (show w3.heap.size < wr.heap.size by omega)).trans bx4
              have k6 : ∀ X, (wr.alloc X).cell? ⟨g, k * 3 + 1, none⟩ = some (.slice ea (dl ++ x.take m).length ec) := fun X => ((below_alloc wr X).cell (p := ⟨g, k * 3 + 1, none⟩) hgl).trans dc4
              clear hown5 hgrow5 hat5 hcell
              generalize hLN : (dl ++ x.take m).length = ln at *
              clear hLN
              go_wp2_with fail
              go_region
              go_wp2_with fail
              go_roundw
              case rel => exact ⟨m + 1, _, by omega, by go_num, P5.out, by rw [size_setCell]; omega, B5.out.setCell (p := ⟨g, k * 3 + 1, none⟩) (show w.heap.size + 2 ≤ g by omega) _⟩
              case measure => simp [intOf]; omega
            · have ek : x.take m = x := List.take_of_length_le (by omega)
              have D6 : Hid (∀ z, DiskR (wr.setCell ⟨w.heap.size + 1, 0, none⟩ z) (.slice (some ⟨g, 0, none⟩) fs.length yc) (fs.set k { fs.getD k noF with data := dl ++ x })) := fun z => by
                have h9 := (HPT.out.reads (by rw [(show fs.length = fs.length from rfl)]; exact hKL)).setBox (y := z) (two_block1 HB.out)
                rw [ek, (show fs.length = fs.length from rfl)] at h9
                exact h9
              have t15 := two_cell1 HB.out
              have t25 := two_frozen1 HB.out
              clear ek
              generalize x.take m = xm at *
              go_wp2_with fail
              exact bodyPost_ret (v := .tuple #[.agg #[.slice (some ⟨g, 0, none⟩) fs.length yc], .int .i64 0]) (by simp [results, Try.results12, go_sem, t15]) rfl ⟨_, by rw [HFC.out, HF.out, HF2.out], by rw [HFC.out, HF.out, HF2.out]; exact D6.out _, (below_two HB.out).setCell (show w.heap.size ≤ w.heap.size + 1 by omega) _⟩
      · by_cases hfull : fs.length = 40
        · have HF : Hid (appendF fs n x = ([], 10)) := appendF_full h0 e hfull
          rw [e]
          clear e h0
          have hfe : ((fs.length : Int) == 40) = true := by rw [hfull]; rfl
          clear hfull
          go_wp2_with fail
          refine bodyPost_ret (v := .tuple #[.agg #[.slice none 0 0], .int .i64 10]) (by simp [results, Try.results12, go_sem, t12]) rfl ⟨.slice none 0 0, by rw [HFC.out, HF.out], by rw [HFC.out, HF.out]; exact diskR_nil _, (below_two B2.out).setCell (show w.heap.size ≤ w.heap.size + 1 by omega) _⟩
        · have HF : Hid (appendF fs n x = putF (fs ++ [⟨n, [], 0⟩]) fs.length x) := appendF_new h0 e hfull
          rw [e]
          clear e h0
          have hfe : ((fs.length : Int) == 40) = false := by rw [beq_eq_false_iff_ne]; omega
          have HFL : Hid (fs.length ≠ 40) := hfull
          clear hfull
          go_wp2_with (at_builtin; refine wpList_append_lies _ rfl _ _ _ rfl w1'.heap.size 50 i0 _ 3 48 Try.underlying22 hi hz0 hz1 hz2 rfl (by omega) _ _ _ rfl (O2.out.row.alloc _) ⟨w2.heap.size, 0, none⟩ 1 1 [.string n, .slice none 0 0, .int .i64 0] rfl rfl (World.news_of_block (cs := #[.string n, .slice none 0 0, .int .i64 0]) (t := 50) (fr := (0, 0)) (heap_alloc_new w2 _)) (file_oneCell ⟨n, [], 0⟩ rfl) (by omega) (by unfold maxLen; omega) (by omega) (by simp; omega) (w2.heap.size + 1) (by simp) ?_)
          intro g gcap w4 hown4 hgrow4 hat4 hlt4
          have O4 : OwnD w4 w1'.heap.size (.slice (some ⟨g, 0, none⟩) (fs.length + 1) gcap) (fs ++ [⟨n, [], 0⟩]) (vs3 ++ [.slice none 0 0]) := (O2.out.alloc _).snoc (B := w2.heap.size + 1) (f := ⟨n, [], 0⟩) hown4 hgrow4 (World.ownsRow_nil _ _ _ _) (by omega) (fun i hi k hk => by have := O2.out.lt i hi k hk; omega)
          have hol : ∀ j, (Value.slice ya fs.length yc).ownBlock = some j → j < w3.heap.size := fun j hj => (O3.out.row.lt j hj).2
          have hno : some w3.heap.size ≠ (Value.slice ya fs.length yc).ownBlock := fun e9 => by have := hol _ e9.symm; omega
          have hog : w3.heap.size ≠ g := fun e9 => by
            rcases hat4 with e8 | e8
            · have := hol _ e8; omega
            · omega
          have hvo : ∀ i, i < (fs ++ [(⟨n, [], 0⟩ : FileL)]).length → ((vs3 ++ [Value.slice none 0 0]).getD i undef).ownBlock ≠ some w3.heap.size := fun i hi9 e9 => by
            by_cases hlt9 : i < fs.length
            · rw [getD_app_left (by rw [O3.out.len]; exact hlt9)] at e9
              have := O3.out.lt i hlt9 _ e9
              omega
            · have ei : i = vs3.length := by rw [O3.out.len]; simp at hi9; omega
              subst ei
              rw [getD_app_last] at e9
              cases e9
          have c4 : w4.cell? ⟨w3.heap.size, 0, none⟩ = some (.slice ya fs.length yc) := (hgrow4.cell_far ⟨w3.heap.size, 0, none⟩ (show w3.heap.size < _ by simp; omega) hno).trans (((below_alloc w2 _).cell (p := ⟨w3.heap.size, 0, none⟩) (show w3.heap.size < w2.heap.size by omega)).trans bx0)
          have f4 : w4.frozen? ⟨w3.heap.size, 0, none⟩ = false := (hgrow4.frozen_far ⟨w3.heap.size, 0, none⟩ (show w3.heap.size < _ by simp; omega) hno).trans (((below_alloc w2 _).frozen (p := ⟨w3.heap.size, 0, none⟩) (show w3.heap.size < w2.heap.size by omega)).trans bf0)
          have B4 : Hid (Below (w.heap.size + 2) ((w.alloc (.cells #[.slice a fs.length cap] 24)).alloc (.cells #[.slice none 0 0] 24)) (w4.setCell ⟨w3.heap.size, 0, none⟩ (.slice (some ⟨g, 0, none⟩) (fs.length + 1) gcap))) := ((B2.out.alloc (by omega) _).grown hgrow4 (by simp; omega) (fun j hj => by have := (O2.out.row.lt j hj).1; omega)).setCell (p := ⟨w3.heap.size, 0, none⟩) (show w.heap.size + 2 ≤ w3.heap.size by omega) _
          have hs4 : w2.heap.size ≤ w4.heap.size := by have := hgrow4.size; simp at this; omega
          have HSZ : Hid (w2.heap.size ≤ (w4.setCell ⟨w3.heap.size, 0, none⟩ (.slice (some ⟨g, 0, none⟩) (fs.length + 1) gcap)).heap.size) := by show _ ≤ _; rw [size_setCell]; exact hs4
          have O5 : OwnD (w4.setCell ⟨w3.heap.size, 0, none⟩ (.slice (some ⟨g, 0, none⟩) (fs.length + 1) gcap)) w1'.heap.size (.slice (some ⟨g, 0, none⟩) (fs.length + 1) gcap) (fs ++ [⟨n, [], 0⟩]) (vs3 ++ [.slice none 0 0]) := O4.setFar (fun e9 => hog (by injection e9 with e9; exact e9.symm)) hvo _
          have hgB : w1'.heap.size ≤ g := (O4.row.lt g rfl).1
          have t14 := two_cell1 B4.out
          have t24 := two_frozen1 B4.out
          have c5 : (w4.setCell ⟨w3.heap.size, 0, none⟩ (.slice (some ⟨g, 0, none⟩) (fs.length + 1) gcap)).cell? ⟨w3.heap.size, 0, none⟩ = some (.slice (some ⟨g, 0, none⟩) (fs.length + 1) gcap) := World.cell?_setCell_same _ _ _ c4
          have P3 : PutD (w4.setCell ⟨w3.heap.size, 0, none⟩ (.slice (some ⟨g, 0, none⟩) (fs.length + 1) gcap)) w1'.heap.size w3.heap.size g gcap fs.length (fs ++ [⟨n, [], 0⟩]) (fun i => (vs3 ++ [Value.slice none 0 0]).getD i undef) ((vs3 ++ [Value.slice none 0 0]).getD fs.length undef) ((fs ++ [(⟨n, [], 0⟩ : FileL)]).getD fs.length noF).data := O5.put0 (by simp) (by rw [size_setCell]; omega) hog (hvo _ (by simp)) (by rw [c5]; simp)
          have HL : Hid ((fs ++ [(⟨n, [], 0⟩ : FileL)]).length = fs.length + 1) := by show _ = _; simp
          generalize (fs ++ [(⟨n, [], 0⟩ : FileL)]) = FZ at *
          generalize (fun i => (vs3 ++ [Value.slice none 0 0]).getD i undef) = VS at *
          generalize (vs3 ++ [Value.slice none 0 0]).getD fs.length undef = dv0 at *
          have P2 : Hid (PutD (w4.setCell ⟨w3.heap.size, 0, none⟩ (.slice (some ⟨g, 0, none⟩) (fs.length + 1) gcap)) w1'.heap.size w3.heap.size g gcap fs.length FZ VS dv0 (FZ.getD fs.length noF).data) := P3
          clear O4 O5 P3 hown4 hgrow4 hat4 hol hno hvo bx0 bf0 c5
          have hd0 := P2.out.own
          have hdl9 : (FZ.getD fs.length noF).data.length ≤ 100000 ∨ 100000 < (FZ.getD fs.length noF).data.length := by omega
          have bx := P2.out.box
          have dc := P2.out.dc
          rw [HL.out] at bx
          have HP : Hid (dv0 = dv0) := rfl
          obtain ⟨da, dcap, hdv, hdc, hdm, _, _⟩ := reads_own hd0
          unfold maxLen at hdm
          have P2' : Hid (PutD (w4.setCell ⟨w3.heap.size, 0, none⟩ (.slice (some ⟨g, 0, none⟩) (fs.length + 1) gcap)) w1'.heap.size w3.heap.size g gcap fs.length FZ VS (.slice da (FZ.getD fs.length noF).data.length dcap) (FZ.getD fs.length noF).data) := by rw [← hdv]; exact P2.out
          rw [hdv] at dc
          have hKL : fs.length < (fs.length + 1) := Nat.lt_succ_self _
          have q0 : (0 : Int) ≤ (fs.length : Int) := by omega
          have q1 : (fs.length : Int) < (fs.length : Int) + 1 := by omega
          have hcm := P2.out.max
          have hcl := P2.out.le
          rw [HL.out] at hcl
          unfold maxLen at hcm
          clear hd0 hdv HP
          by_cases hov : 100000 < (FZ.getD fs.length noF).data.length + x.length
          · have HF2 : Hid (putF FZ fs.length x = ([], 10)) := putF_over hov
            have hov' : (100000 : Int) - ((FZ.getD fs.length noF).data.length : Int) < (x.length : Int) := by omega
            generalize (FZ.getD fs.length noF).data = dl at *
            go_wp2_with fail
            refine bodyPost_ret (v := .tuple #[.agg #[.slice none 0 0], .int .i64 10]) (by simp [results, Try.results12, go_sem, t14]) rfl ⟨.slice none 0 0, by rw [HFC.out, HF.out, HF2.out], by rw [HFC.out, HF.out, HF2.out]; exact diskR_nil _, (below_two B4.out).setCell (show w.heap.size ≤ w.heap.size + 1 by omega) _⟩
          · have HF2 : Hid (putF FZ fs.length x = (FZ.set fs.length { FZ.getD fs.length noF with data := (FZ.getD fs.length noF).data ++ x }, 0)) := putF_ok hov
            have hov' : ¬ (100000 : Int) - ((FZ.getD fs.length noF).data.length : Int) < (x.length : Int) := by omega
            generalize hDL : (FZ.getD fs.length noF).data = dl at *
            clear hDL
            go_wp2_with fail
            go_loopw [10] (fun i wr => ∃ (m : Nat) (dv : Value), m ≤ x.length ∧ i = .int .i64 m ∧ PutD wr w1'.heap.size w3.heap.size g gcap fs.length FZ VS dv (dl ++ x.take m) ∧ w2.heap.size ≤ wr.heap.size ∧ Below (w.heap.size + 2) ((w.alloc (.cells #[.slice a fs.length cap] 24)).alloc (.cells #[.slice none 0 0] 24)) wr) (fun i _ => x.length - (intOf i).toNat)
            case atStart => exact ⟨0, _, by omega, rfl, by simpa using P2'.out, HSZ.out, B4.out⟩
            case round =>
              obtain ⟨m, dv, hm, rfl, hput, hsz, hbel⟩ := hrel
              have HPT : Hid (PutD wr w1'.heap.size w3.heap.size g gcap fs.length FZ VS dv (dl ++ x.take m)) := hput
              have HB : Hid (Below (w.heap.size + 2) ((w.alloc (.cells #[.slice a fs.length cap] 24)).alloc (.cells #[.slice none 0 0] 24)) wr) := hbel
              have bx4 := hput.box
              rw [HL.out] at bx4
              have dc4 := hput.dc
              obtain ⟨ea, ec, hev, _, _, _, _⟩ := reads_own hput.own
              rw [hev] at HPT dc4
              have hgl := hput.lt
              have hlen : (dl ++ x.take m).length ≤ 100000 := by rw [List.length_append, List.length_take]; omega
              clear hput hbel hev
              by_cases hlt : m < x.length
              · obtain ⟨b0, off, bc', e1, _, _, hb0, hcell⟩ := (HR.out.below (below_two HB.out) (Nat.le_refl _)).plain (by omega)
                injection e1 with e1 _ e3
                subst e1 e3
                have hck := hcell m hlt
                have HTk : Hid (x.take (m + 1) = x.take m ++ [x.getD m 0]) := take_snocI hlt
                generalize x.getD m 0 = y at *
                obtain ⟨gg, gc, w5, a1, a2, a3, hown5, hgrow5, hat5⟩ := run_byte HPT.out.own y (by omega) (by omega)
                obtain ⟨z1, z2, z3⟩ := ((HPT.out.alloc _).drew).mid hgrow5
                have P5 : Hid (PutD (w5.setCell ⟨g, fs.length * 3 + 1, none⟩ (.slice (some ⟨gg, 0, none⟩) ((dl ++ x.take m).length + 1) gc)) w1'.heap.size w3.heap.size g gcap fs.length FZ VS (.slice (some ⟨gg, 0, none⟩) ((dl ++ x.take m).length + 1) gc) (dl ++ x.take (m + 1))) := by
                  show PutD _ _ _ _ _ _ _ _ _ _
                  rw [HTk.out, ← List.append_assoc]
                  exact ((HPT.out.alloc _).drew).step hgrow5 hown5 hat5
                have B5 : Hid (Below (w.heap.size + 2) ((w.alloc (.cells #[.slice a fs.length cap] 24)).alloc (.cells #[.slice none 0 0] 24)) w5) := ((HB.out.alloc (by omega) _).drew).grown hgrow5 (by simp; omega) (fun j hj => by have := (HPT.out.own.lt j hj).1; omega)
                have hs5 : wr.heap.size ≤ w5.heap.size := by have := hgrow5.size; simp at this; omega
                have hgB : w.heap.size + 2 ≤ g := by omega
                rw [HL.out] at z3
                have k5 : ∀ X, (wr.alloc X).cell? ⟨w3.heap.size, 0, none⟩ = some (.slice (some ⟨g, 0, none⟩) (fs.length + 1) gcap) := fun X => ((below_alloc wr X).cell (p := ⟨w3.heap.size, 0, none⟩) (show w3.heap.size < wr.heap.size by omega)).trans bx4
                have k6 : ∀ X, (wr.alloc X).cell? ⟨g, fs.length * 3 + 1, none⟩ = some (.slice ea (dl ++ x.take m).length ec) := fun X => ((below_alloc wr X).cell (p := ⟨g, fs.length * 3 + 1, none⟩) hgl).trans dc4
                clear hown5 hgrow5 hat5 hcell
                generalize hLN : (dl ++ x.take m).length = ln at *
                clear hLN
                go_wp2_with fail
                go_region
                go_wp2_with fail
                go_roundw
                case rel => exact ⟨m + 1, _, by omega, by go_num, P5.out, by rw [size_setCell]; omega, B5.out.setCell (p := ⟨g, fs.length * 3 + 1, none⟩) (show w.heap.size + 2 ≤ g by omega) _⟩
                case measure => simp [intOf]; omega
              · have ek : x.take m = x := List.take_of_length_le (by omega)
                have D6 : Hid (∀ z, DiskR (wr.setCell ⟨w.heap.size + 1, 0, none⟩ z) (.slice (some ⟨g, 0, none⟩) (fs.length + 1) gcap) (FZ.set fs.length { FZ.getD fs.length noF with data := dl ++ x })) := fun z => by
                  have h9 := (HPT.out.reads (by rw [HL.out]; exact hKL)).setBox (y := z) (two_block1 HB.out)
                  rw [ek, HL.out] at h9
                  exact h9
                have t15 := two_cell1 HB.out
                have t25 := two_frozen1 HB.out
                clear ek
                generalize x.take m = xm at *
                go_wp2_with fail
                exact bodyPost_ret (v := .tuple #[.agg #[.slice (some ⟨g, 0, none⟩) (fs.length + 1) gcap], .int .i64 0]) (by simp [results, Try.results12, go_sem, t15]) rfl ⟨_, by rw [HFC.out, HF.out, HF2.out], by rw [HFC.out, HF.out, HF2.out]; exact D6.out _, (below_two HB.out).setCell (show w.heap.size ≤ w.heap.size + 1 by omega) _⟩
end Go.Proofs.Ytdhaccljidhdcaa
