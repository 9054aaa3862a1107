/-
  Contracts of disk.Append and of what it does: what P3.2 says.
-/
import Derived.Test.YtdhaccljidhdcabFaceLib
namespace Go.Proofs.Ytdhaccljidhdcab
open Go.ChangeShapes Go.WideShapes Go.ChangeAt Go.RowKit

/-- The files with these bytes behind the data of file k, if there is room. -/
def putF (fs : List FileL) (k : Nat) (l : List Int) : List FileL × Int :=
  if 100000 < (fs.getD k noF).data.length + l.length then ([], 10) else (fs.set k { fs.getD k noF with data := (fs.getD k noF).data ++ l }, 0)
/-- P3.2, of a disk that may be. -/
def appendF (fs : List FileL) (n : ByteArray) (l : List Int) : List FileL × Int :=
  if nmB n = true then if atF fs n < 0 then (if fs.length = 40 then ([], 10) else putF (fs ++ [⟨n, [], 0⟩]) fs.length l) else putF fs (atF fs n).toNat l else ([], 1)
theorem appendF_size {fs : List FileL} {n : ByteArray} {l : List Int} (h : nmB n = false) : appendF fs n l = ([], 1) := by simp [appendF, h]
theorem appendF_full {fs : List FileL} {n : ByteArray} {l : List Int} (h : nmB n = true) (h1 : atF fs n = -1) (h2 : fs.length = 40) : appendF fs n l = ([], 10) := by simp [appendF, h, h1, h2]
theorem appendF_new {fs : List FileL} {n : ByteArray} {l : List Int} (h : nmB n = true) (h1 : atF fs n = -1) (h2 : fs.length ≠ 40) : appendF fs n l = putF (fs ++ [⟨n, [], 0⟩]) fs.length l := by simp [appendF, h, h1, h2]
theorem appendF_some {fs : List FileL} {n : ByteArray} {l : List Int} {k : Nat} (h : nmB n = true) (h1 : atF fs n = k) : appendF fs n l = putF fs k l := by
  simp only [appendF, h, h1, if_true]
  rw [if_neg (by omega)]; simp
theorem putF_over {fs : List FileL} {k : Nat} {l : List Int} (h : 100000 < (fs.getD k noF).data.length + l.length) : putF fs k l = ([], 10) := by simp only [putF, if_pos h]
theorem putF_ok {fs : List FileL} {k : Nat} {l : List Int} (h : ¬ 100000 < (fs.getD k noF).data.length + l.length) : putF fs k l = (fs.set k { fs.getD k noF with data := (fs.getD k noF).data ++ l }, 0) := by simp only [putF, if_neg h]
theorem putF_err {fs : List FileL} {k : Nat} {l : List Int} : (putF fs k l).2 ≠ 0 → (putF fs k l).1 = [] := by
  unfold putF; split <;> simp
theorem appendF_err {fs : List FileL} {n : ByteArray} {l : List Int} : (appendF fs n l).2 ≠ 0 → (appendF fs n l).1 = [] := by
  cases h0 : nmB n with
  | false => rw [appendF_size h0]; simp
  | true =>
    rcases atF_cases fs n with ⟨k, hk, e, _, _⟩ | ⟨e, _⟩
    · rw [appendF_some h0 e]; exact putF_err
    · by_cases h2 : fs.length = 40
      · rw [appendF_full h0 e h2]; simp
      · rw [appendF_new h0 e h2]; exact putF_err
theorem good_put {fs : List FileL} {k : Nat} {l : List Int} (hg : Good fs) (hl : ∀ x ∈ l, 0 ≤ x ∧ x ≤ 255) : Good (putF fs k l).1 := by
  by_cases h : 100000 < (fs.getD k noF).data.length + l.length
  · rw [putF_over h]; exact good_nil
  · rw [putF_ok h]
    refine good_set hg (fun hk => ?_)
    obtain ⟨h1, h2, h3, h4, h5⟩ := hg k hk
    refine ⟨fun x hx => ?_, h2, h3, h4, ?_⟩
    · rcases List.mem_append.1 hx with h9 | h9
      · exact h1 x h9
      · exact hl x h9
    · show ((fs.getD k noF).data ++ l).length ≤ _
      rw [List.length_append]; omega
theorem good_snoc {fs : List FileL} {f : FileL} (hg : Good fs) (hf : GoodF f) : Good (fs ++ [f]) := fun i hi => by
  by_cases hlt : i < fs.length
  · rw [getD_app_left hlt]; exact hg i hlt
  · have e : i = fs.length := by simp at hi; omega
    subst e
    rw [getD_app_last]; exact hf
theorem good_append {fs : List FileL} {n : ByteArray} {l : List Int} (hg : Good fs) (hn : n.size ≤ maxLen) (hl : ∀ x ∈ l, 0 ≤ x ∧ x ≤ 255) : Good (appendF fs n l).1 := by
  cases h0 : nmB n with
  | false => rw [appendF_size h0]; exact good_nil
  | true =>
    rcases atF_cases fs n with ⟨k, hk, e, _, _⟩ | ⟨e, _⟩
    · rw [appendF_some h0 e]; exact good_put hg hl
    · by_cases h2 : fs.length = 40
      · rw [appendF_full h0 e h2]; exact good_nil
      · rw [appendF_new h0 e h2]; exact good_put (good_snoc hg ⟨by simp, (show (-9223372036854775808 : Int) ≤ 0 by decide), (show (0 : Int) ≤ 9223372036854775807 by decide), hn, by simp⟩) hl

/-- The data of one file was appended to: the disk behind that. -/
theorem OwnD.put {w w' : World} {B g cap k : Nat} {fs : List FileL} {vs : List Value} {v' : Value} {l : List Int} (h : OwnD w B (.slice (some ⟨g, 0, none⟩) fs.length cap) fs vs) (hk : k < fs.length) (hg : w.grownBy w' (vs.getD k undef).ownBlock) (hr : Reads .u8 w' v' l) :
    DiskR (w'.setCell ⟨g, k * 3 + 1, none⟩ v') (.slice (some ⟨g, 0, none⟩) fs.length cap) (fs.set k { fs.getD k noF with data := l }) ∧ g < w.heap.size ∧ w'.cell? ⟨g, k * 3 + 1, none⟩ = some (vs.getD k undef) ∧ w'.frozen? ⟨g, k * 3 + 1, none⟩ = false := by
  obtain ⟨hrow, _⟩ := h.rowF
  have hgk : some g ≠ (vs.getD k undef).ownBlock := by
    rcases own_apart h.row (h.data k hk) (by decide) with e | e
    · cases e
    · exact e
  have cell : ∀ o, w'.cell? ⟨g, o, none⟩ = w.cell? ⟨g, o, none⟩ := fun o => hg.cell_far ⟨g, o, none⟩ hrow.lt hgk
  have frz : ∀ o, w'.frozen? ⟨g, o, none⟩ = w.frozen? ⟨g, o, none⟩ := fun o => hg.frozen_far ⟨g, o, none⟩ hrow.lt hgk
  obtain ⟨c1, c2, c3, c4⟩ := hrow.file k hk
  have hne : ∀ n, vs.getD k undef ≠ .int .u8 n := fun n hh => by obtain ⟨a, c, e, _⟩ := c4; rw [e] at hh; cases hh
  have c2' := (cell (k * 3 + 1)).trans c2
  refine ⟨?_, hrow.lt, c2', (frz _).trans (hrow.free _)⟩
  refine ⟨_, cap, by rw [List.length_set], by rw [List.length_set]; exact hrow.le, hrow.max, fun e => (by cases e), fun _ => ⟨g, 0, rfl, by rw [size_setCell]; exact Nat.lt_of_lt_of_le hrow.lt hg.size, fun i => if i = k then v' else vs.getD i undef, fun i hi => ?_⟩⟩
  rw [List.length_set] at hi
  rw [Nat.zero_add]
  by_cases e : i = k
  · subst e
    rw [getD_set_eq hi]
    show FileC _ _ _ (if i = i then v' else _) _
    rw [if_pos rfl]
    refine ⟨?_, World.cell?_setCell_same _ _ _ c2', ?_, hr.set c2' hne⟩
    · rw [World.cell?_setCell_other _ _ _ _ (addr_ne (by omega)), cell]; exact c1
    · rw [World.cell?_setCell_other _ _ _ _ (addr_ne (by omega)), cell]; exact c3
  · rw [getD_set_ne e]
    show FileC _ _ _ (if i = k then v' else vs.getD i undef) _
    rw [if_neg e]
    obtain ⟨d1, d2, d3, _⟩ := hrow.file i hi
    have d4 : w'.ownsRow B 5 1 (vs.getD i undef) (fs.getD i noF).data.length ((fs.getD i noF).data.map (Value.int .u8)) := (h.data i hi).kept hg (by
      rcases Nat.lt_or_gt_of_ne e with hlt | hgt
      · rcases h.apart i k hlt hk with e1 | e1
        · rcases (h.data i hi).2 with ⟨hv, _⟩ | ⟨g', _, _, hv, _⟩
          · rw [hv]; exact .inl rfl
          · exact .inr (by rw [e1, hv]; intro hh; cases hh)
        · exact .inr (fun e2 => e1 e2.symm)
      · exact h.apart k i hgt hi)
    refine fileC_other ⟨(cell _).trans d1, (cell _).trans d2, (cell _).trans d3, reads_own d4⟩ c2' hne (by omega) e

set_option maxHeartbeats 1000000 in
set_option maxRecDepth 100000 in
/-- What stands behind the finding of the file: by its place k. -/
theorem appendTo_any (p B : Nat) (v3 : Value) (fs : List FileL) (vs : List Value) (n : ByteArray) (b : Value) (x : List Int) (w : World) (hpB : p < B) (hB : B ≤ w.heap.size) (hc : w.cell? ⟨p, 0, none⟩ = some v3) (hf : w.frozen? ⟨p, 0, none⟩ = false) (ho : OwnD w B v3 fs vs) (hmay : mayB fs = true) (hn : n.size ≤ maxLen) (hr : ∀ w5, Below p w w5 → Reads .u8 w5 b x) (_hx : ∀ y ∈ x, 0 ≤ y ∧ y ≤ 255) :
    Calls Try.prog 24 #[.pointer (some ⟨p, 0, none⟩), .string n, b] w fun e w4 => ∃ v4, e = .returned (.int .i64 (appendF fs n x).2) ∧ w4.cell? ⟨p, 0, none⟩ = some v4 ∧ ((appendF fs n x).2 = 0 → DiskR w4 v4 (appendF fs n x).1) ∧ Below p w w4 := by
  obtain ⟨i0, hi, hz0, hz1, hz2⟩ := info_parts Try.infoF
  have lp : p < w.heap.size := World.block_lt_of_cell? w _ hc
  have h40 := (may_iff.1 hmay).1
  have HO : Hid (OwnD w B v3 fs vs) := ho
  have HRB : Hid (∀ w5, Below p w w5 → Reads .u8 w5 b x) := hr
  have HMAY : Hid (mayB fs = true) := hmay
  obtain ⟨ba, bc, hbe, hbc, hbm, _, _⟩ := hr w (Below.refl _ _)
  subst hbe
  clear ho hmay hr
  unfold maxLen at hbm
  go_enter Try.func24, Try.ntmps24
  go_wp2_with fail
  refine (nameMay_any n _ hn).mono ?_
  rintro e w0 ⟨rfl, rfl⟩
  cases h0 : nmB n with
  | false =>
    have HF : Hid (appendF fs n x = ([], 1)) := appendF_size h0
    clear h0
    go_wp2_with fail
    go_ret
    exact ⟨v3, by rw [HF.out]; rfl, hc, fun h => by rw [HF.out] at h; simp at h, Below.refl _ _⟩
  | true =>
    go_wp2_with fail
    refine (find_any p v3 fs n _ hc HO.out.reads).mono ?_
    rintro e w1 ⟨rfl, hb1⟩
    have O1 : Hid (OwnD w1 B v3 fs vs) := HO.out.below hb1 (Nat.le_refl _)
    have c1 : w1.cell? ⟨p, 0, none⟩ = some v3 := (hb1.cell (p := ⟨p, 0, none⟩) lp).trans hc
    have f1 : w1.frozen? ⟨p, 0, none⟩ = false := (hb1.frozen (p := ⟨p, 0, none⟩) lp).trans hf
    have B1 : Hid (Below p w0 w1) := hb1.mono (Nat.le_of_lt lp)
    have R1 : Hid (Reads .u8 w1 (.slice ba x.length bc) x) := HRB.out _ (hb1.mono (Nat.le_of_lt lp))
    have hs1 := hb1.size
    clear hb1
    rcases atF_cases fs n with ⟨k, hk, e, _, _⟩ | ⟨e, _⟩
    · have HF : Hid (appendF fs n x = putF fs k x) := appendF_some h0 e
      rw [e]
      clear e h0
      rcases O1.out.row_or with ⟨_, hnil⟩ | ⟨g, cap, hv, hg, hrow⟩
      · subst hnil; simp at hk
      subst hv
      obtain ⟨y1, y2, y3, da, dc, hdv, hd1, hd2, _, _⟩ := hrow.file k hk
      have hle := hrow.le
      have hmx := hrow.max
      have hglt := hrow.lt
      have hpg : p ≠ g := by omega
      unfold maxLen at hmx hd2
      have OD : Hid (w1.ownsRow B 5 1 (vs.getD k undef) (fs.getD k noF).data.length ((fs.getD k noF).data.map (Value.int .u8))) := O1.out.data k hk
      have PUT : Hid (∀ w' v', w1.grownBy w' (vs.getD k undef).ownBlock → Reads .u8 w' v' ((fs.getD k noF).data ++ x) → _) := fun w' v' h1 h2 => O1.out.put (w' := w') (v' := v') hk h1 h2
      have hgk : some g ≠ (vs.getD k undef).ownBlock := by
        rcases own_apart O1.out.row (O1.out.data k hk) (by decide) with e | e
        · cases e
        · exact e
      have q0 : (0 : Int) ≤ (k : Int) := by omega
      have q1 : (k : Int) < (fs.length : Int) := by omega
      have hdv' : vs.getD k undef = .slice da (fs.getD k noF).data.length dc := hdv
      rw [hdv'] at OD PUT hgk
      have y2' : w1.cell? ⟨g, k * 3 + 1, none⟩ = some (.slice da (fs.getD k noF).data.length dc) := by rw [← hdv]; exact y2
      clear y1 y2 y3 hdv hdv' hrow
      have HG9 : Hid (some g ≠ (Value.slice da (fs.getD k noF).data.length dc).ownBlock) := hgk
      clear hgk
      by_cases hov : 100000 < (fs.getD k noF).data.length + x.length
      · have HF2 : Hid (putF fs k x = ([], 10)) := putF_over hov
        have hov' : (100000 : Int) - ((fs.getD k noF).data.length : Int) < (x.length : Int) := by omega
        generalize (fs.getD k noF).data = dl at *
        go_wp2_with fail
        go_ret
        exact ⟨.slice (some ⟨g, 0, none⟩) fs.length cap, by rw [HF.out, HF2.out]; rfl, c1, fun h => by rw [HF.out, HF2.out] at h; simp at h, B1.out⟩
      · have HF2 : Hid (putF fs k x = (fs.set k { fs.getD k noF with data := (fs.getD k noF).data ++ x }, 0)) := putF_ok hov
        have hov' : ¬ (100000 : Int) - ((fs.getD k noF).data.length : Int) < (x.length : Int) := by omega
        generalize hDL : (fs.getD k noF).data = dl at *
        clear hDL
        go_wp2_with (at_builtin; refine wpList_append_reads rfl _ _ rfl B _ dl rfl OD.out _ x rfl R1.out (by omega) (by omega) ?_)
        intro v2 w2 hown2 hbel2 hgrow2
        have RV := reads_own (show w2.ownsRow B 5 1 v2 (dl ++ x).length ((dl ++ x).map (Value.int .u8)) by simpa using hown2)
        obtain ⟨DD, _, z1, z2⟩ := PUT.out w2 v2 hgrow2 RV
        obtain ⟨va, vn, vc, rfl⟩ : ∃ a n c, v2 = .slice a n c := by obtain ⟨a, c, h, _⟩ := RV; exact ⟨_, _, _, h⟩
        have pk : w2.cell? ⟨p, 0, none⟩ = some (.slice (some ⟨g, 0, none⟩) fs.length cap) := (hbel2.cell (p := ⟨p, 0, none⟩) hpB).trans c1
        have HDD : Hid (DiskR (w2.setCell ⟨g, k * 3 + 1, none⟩ (.slice va vn vc)) (.slice (some ⟨g, 0, none⟩) fs.length cap) (fs.set k { fs.getD k noF with data := dl ++ x })) := DD
        have B2 : Hid (Below p w0 (w2.setCell ⟨g, k * 3 + 1, none⟩ (.slice va vn vc))) := (B1.out.trans (hbel2.mono (by omega))).setCell (p := ⟨g, k * 3 + 1, none⟩) (show p ≤ g by omega) _
        clear DD hown2 hbel2 hgrow2 RV
        go_wp2_with fail
        go_ret
        exact ⟨by rw [HF.out, HF2.out]; rfl, .slice (some ⟨g, 0, none⟩) fs.length cap, by rw [World.cell?_setCell_other _ _ _ _ (fun e => hpg (congrArg Addr.block e).symm)]; exact pk, fun _ => by rw [HF.out, HF2.out]; exact HDD.out, B2.out⟩
    · by_cases hfull : fs.length = 40
      · have HF : Hid (appendF fs n x = ([], 10)) := appendF_full h0 e hfull
        rw [e]
        clear e h0
        have hfe : ((fs.length : Int) == 40) = true := by rw [hfull]; rfl
        clear hfull
        obtain ⟨va, vc, hv, _⟩ := O1.out.reads
        subst hv
        go_wp2_with fail
        go_ret
        exact ⟨_, by rw [HF.out]; rfl, c1, fun h => by rw [HF.out] at h; simp at h, B1.out⟩
      · have HF : Hid (appendF fs n x = putF (fs ++ [⟨n, [], 0⟩]) fs.length x) := appendF_new h0 e hfull
        rw [e]
        clear e h0
        have hfe : ((fs.length : Int) == 40) = false := by rw [beq_eq_false_iff_ne]; omega
        obtain ⟨va, vc, hv, _⟩ := O1.out.reads
        subst hv
        have HFL : Hid (fs.length ≠ 40) := hfull
        clear hfull
        go_wp2_with (at_builtin; refine wpList_append_lies _ rfl _ _ _ rfl B 53 i0 _ 3 48 Try.underlying24 hi hz0 hz1 hz2 rfl (by omega) _ _ _ rfl (O1.out.row.alloc _) ⟨w1.heap.size, 0, none⟩ 1 1 [.string n, .slice none 0 0, .int .i64 0] rfl rfl (World.news_of_block (cs := #[.string n, .slice none 0 0, .int .i64 0]) (t := 53) (fr := (0, 0)) (heap_alloc_new w1 _)) (file_oneCell ⟨n, [], 0⟩ rfl) (by omega) (by unfold maxLen; omega) (by omega) (by simp; omega) (w1.heap.size + 1) (by simp) ?_)
        intro g cap w2 hown2 hgrow2 hat2 hlt2
        have hnp : some p ≠ (Value.slice va fs.length vc).ownBlock := O1.out.not hpB
        have lp1 : p < w1.heap.size := by omega
        have c2 : w2.cell? ⟨p, 0, none⟩ = some (.slice va fs.length vc) := (hgrow2.cell_far ⟨p, 0, none⟩ (show p < _ by simp; omega) hnp).trans (((below_alloc w1 _).cell (p := ⟨p, 0, none⟩) lp1).trans c1)
        have f2 : w2.frozen? ⟨p, 0, none⟩ = false := (hgrow2.frozen_far ⟨p, 0, none⟩ (show p < _ by simp; omega) hnp).trans (((below_alloc w1 _).frozen (p := ⟨p, 0, none⟩) lp1).trans f1)
        have O2 : OwnD w2 B (.slice (some ⟨g, 0, none⟩) (fs.length + 1) cap) (fs ++ [⟨n, [], 0⟩]) (vs ++ [.slice none 0 0]) := (O1.out.alloc _).snoc (B := w1.heap.size + 1) (f := ⟨n, [], 0⟩) hown2 hgrow2 (World.ownsRow_nil _ _ _ _) (by omega) (fun i hi k hk => by have := O1.out.lt i hi k hk; omega)
        have hB2 : B ≤ w2.heap.size := by have := hgrow2.size; simp at this; omega
        have O3 : Hid (OwnD (w2.setCell ⟨p, 0, none⟩ (.slice (some ⟨g, 0, none⟩) (fs.length + 1) cap)) B (.slice (some ⟨g, 0, none⟩) (fs.length + 1) cap) (fs ++ [⟨n, [], 0⟩]) (vs ++ [.slice none 0 0])) := O2.setBelow hpB _
        have c3 : (w2.setCell ⟨p, 0, none⟩ (.slice (some ⟨g, 0, none⟩) (fs.length + 1) cap)).cell? ⟨p, 0, none⟩ = some (.slice (some ⟨g, 0, none⟩) (fs.length + 1) cap) := World.cell?_setCell_same _ _ _ c2
        have B2 : Hid (Below p w0 (w2.setCell ⟨p, 0, none⟩ (.slice (some ⟨g, 0, none⟩) (fs.length + 1) cap))) := ((B1.out.alloc (by omega) _).grown hgrow2 (by simp; omega) (fun j hj => by have := (O1.out.row.lt j hj).1; omega)).setCell (p := ⟨p, 0, none⟩) (show p ≤ p from Nat.le_refl _) _
        have R3 : Hid (Reads .u8 (w2.setCell ⟨p, 0, none⟩ (.slice (some ⟨g, 0, none⟩) (fs.length + 1) cap)) (.slice ba x.length bc) x) := HRB.out _ B2.out
        have hB3 : B ≤ (w2.setCell ⟨p, 0, none⟩ (.slice (some ⟨g, 0, none⟩) (fs.length + 1) cap)).heap.size := by rw [size_setCell]; exact hB2
        have hlen9 : (fs ++ [(⟨n, [], 0⟩ : FileL)]).length = fs.length + 1 := by simp
        have hk9 : fs.length < (fs ++ [(⟨n, [], 0⟩ : FileL)]).length := by omega
        have hrow := O3.out.rowF.1
        have y2 := (hrow.file fs.length hk9).2.1
        have hv9 : (vs ++ [Value.slice none 0 0]).getD fs.length undef = .slice none 0 0 := by rw [← O1.out.len]; exact getD_app_last
        have hf9 : (fs ++ [(⟨n, [], 0⟩ : FileL)]).getD fs.length noF = ⟨n, [], 0⟩ := getD_app_last
        have hle := hrow.le
        have hmx := hrow.max
        have hgB : B ≤ g := (O2.row.lt g rfl).1
        have hpg : p ≠ g := by omega
        unfold maxLen at hmx
        rw [hlen9] at hle
        have y2' : (w2.setCell ⟨p, 0, none⟩ (.slice (some ⟨g, 0, none⟩) (fs.length + 1) cap)).cell? ⟨g, fs.length * 3 + 1, none⟩ = some (.slice none 0 0) := by rw [← hv9]; exact y2
        have PUT : Hid (∀ w' v', (w2.setCell ⟨p, 0, none⟩ (.slice (some ⟨g, 0, none⟩) (fs.length + 1) cap)).grownBy w' none → Reads .u8 w' v' x → DiskR (w'.setCell ⟨g, fs.length * 3 + 1, none⟩ v') (.slice (some ⟨g, 0, none⟩) (fs.length + 1) cap) ((fs ++ [(⟨n, [], 0⟩ : FileL)]).set fs.length ⟨n, x, 0⟩) ∧ w'.cell? ⟨g, fs.length * 3 + 1, none⟩ = some (.slice none 0 0) ∧ w'.frozen? ⟨g, fs.length * 3 + 1, none⟩ = false) := fun w' v' h1 h2 => by
          have h9 := O3.out
          rw [← hlen9] at h9 h1 ⊢
          have h8 := h9.put (k := fs.length) hk9 (by rw [hv9]; exact h1) h2
          rw [hf9, hv9] at h8
          exact ⟨h8.1, h8.2.2⟩
        have HF9 : Hid ((fs ++ [(⟨n, [], 0⟩ : FileL)]).getD fs.length noF = ⟨n, [], 0⟩) := hf9
        clear hrow y2 hv9 hf9 O2 hown2 hgrow2 hat2
        have q0 : (0 : Int) ≤ (fs.length : Int) := by omega
        have q1 : (fs.length : Int) < (fs.length : Int) + 1 := by omega
        by_cases hov : 100000 < x.length
        · have HF2 : Hid (putF (fs ++ [⟨n, [], 0⟩]) fs.length x = ([], 10)) := putF_over (by rw [HF9.out]; simpa using hov)
          have hov' : (100000 : Int) < (x.length : Int) := by omega
          generalize hFL : fs.length = m at *
          clear hFL
          go_wp2_with fail
          go_ret
          exact ⟨.slice (some ⟨g, 0, none⟩) (m + 1) cap, by rw [HF.out, HF2.out]; rfl, c3, fun h => by rw [HF.out, HF2.out] at h; simp at h, B2.out⟩
        · have HF2 : Hid (putF (fs ++ [⟨n, [], 0⟩]) fs.length x = ((fs ++ [(⟨n, [], 0⟩ : FileL)]).set fs.length ⟨n, x, 0⟩, 0)) := by
            show _ = _
            rw [putF_ok (by rw [HF9.out]; simpa using hov), HF9.out]
            simp
          have hov' : ¬ (100000 : Int) < (x.length : Int) := by omega
          generalize hFL : fs.length = m at *
          clear hFL
          go_wp2_with (at_builtin; refine wpList_append_reads rfl _ _ rfl B _ [] rfl (World.ownsRow_nil _ _ _ _) _ x rfl R3.out (by simp; omega) (by first | exact hB3 | simpa using hB3) ?_)
          intro v4 w4 hown4 hbel4 hgrow4
          have RV := reads_own (show w4.ownsRow B 5 1 v4 x.length (x.map (Value.int .u8)) by simpa using hown4)
          obtain ⟨DD, z1, z2⟩ := PUT.out w4 v4 hgrow4 RV
          obtain ⟨va9, vn9, vc9, rfl⟩ : ∃ a n c, v4 = .slice a n c := by obtain ⟨a, c, h, _⟩ := RV; exact ⟨_, _, _, h⟩
          have pk : w4.cell? ⟨p, 0, none⟩ = some (.slice (some ⟨g, 0, none⟩) (m + 1) cap) := (hbel4.cell (p := ⟨p, 0, none⟩) hpB).trans c3
          have HDD : Hid (DiskR (w4.setCell ⟨g, m * 3 + 1, none⟩ (.slice va9 vn9 vc9)) (.slice (some ⟨g, 0, none⟩) (m + 1) cap) ((fs ++ [(⟨n, [], 0⟩ : FileL)]).set m ⟨n, x, 0⟩)) := DD
          have B4 : Hid (Below p w0 (w4.setCell ⟨g, m * 3 + 1, none⟩ (.slice va9 vn9 vc9))) := (B2.out.trans (hbel4.mono (by omega))).setCell (p := ⟨g, m * 3 + 1, none⟩) (show p ≤ g by omega) _
          clear DD hown4 hbel4 hgrow4 RV
          go_wp2_with fail
          go_ret
          exact ⟨.slice (some ⟨g, 0, none⟩) (m + 1) cap, by rw [HF.out, HF2.out]; rfl, by rw [World.cell?_setCell_other _ _ _ _ (fun e => hpg (congrArg Addr.block e).symm)]; exact pk, fun _ => by rw [HF.out, HF2.out]; exact HDD.out, B4.out⟩

set_option maxHeartbeats 400000 in
theorem appendTo1_any (p B q1 q2 : Nat) (v3 : Value) (fs : List FileL) (vs : List Value) (n1 : ByteArray) (b2 : Value) (x2 : List Int) (w : World) (hpB : p < B) (hB : B ≤ w.heap.size) (hq1 : w.cell? ⟨q1, 0, none⟩ = some (.string n1)) (hq2 : w.cell? ⟨q2, 0, none⟩ = some (b2)) (hc : w.cell? ⟨p, 0, none⟩ = some v3) (hf : w.frozen? ⟨p, 0, none⟩ = false) (ho : OwnD w B v3 fs vs) (hmay : mayB fs = true) (hn1 : n1.size ≤ maxLen) (hr2 : ∀ w5, Below p w w5 → Reads .u8 w5 b2 x2) (hx2 : ∀ x ∈ x2, 0 ≤ x ∧ x ≤ 255) :
    Calls Try.prog 23 #[.pointer (some ⟨p, 0, none⟩), .pointer (some ⟨q1, 0, none⟩), .pointer (some ⟨q2, 0, none⟩)] w fun e w4 => ∃ v4, e = .returned (.int .i64 (appendF fs n1 x2).2) ∧ w4.cell? ⟨p, 0, none⟩ = some v4 ∧ ((appendF fs n1 x2).2 = 0 → DiskR w4 v4 (appendF fs n1 x2).1) ∧ Below p w w4 := by
  have HO : Hid (OwnD w B v3 fs vs) := ho
  have HMAY : Hid (mayB fs = true) := hmay
  have HR2 : Hid (∀ w5, Below p w w5 → Reads .u8 w5 b2 x2) := hr2
  have HX2 : Hid (∀ x ∈ x2, 0 ≤ x ∧ x ≤ 255) := hx2
  clear hr2 hx2
  clear ho hmay
  go_enter Try.func23, Try.ntmps23
  go_wp2_with fail
  refine (appendTo_any p B v3 fs vs n1 b2 x2 _ hpB hB hc hf HO.out HMAY.out hn1 HR2.out HX2.out).mono ?_
  rintro e w1 ⟨v4, rfl, h1, h2, h3⟩
  have H2 : Hid ((appendF fs n1 x2).2 = 0 → DiskR w1 v4 (appendF fs n1 x2).1) := h2
  clear h2
  go_wp2_with fail
  go_ret
  exact ⟨v4, rfl, h1, H2.out, h3⟩

theorem enter_appendTo (args : Array Value) (w : World) : (callFunc 23 args).run Try.prog w = .ok (.enter 23 args) w := by go_simp

set_option maxHeartbeats 400000 in
theorem diskAppend_any (v : Value) (fs : List FileL) (n1 : ByteArray) (b2 : Value) (x2 : List Int) (w : World) (h : DiskR w v fs) (hg : Good fs) (hn1 : n1.size ≤ maxLen) (hr2 : Reads .u8 w b2 x2) (hx2 : ∀ x ∈ x2, 0 ≤ x ∧ x ≤ 255) :
    Calls Try.prog 12 #[.agg #[v], .string n1, b2] w fun e w' => ∃ v', e = .returned (.tuple #[.agg #[v'], .int .i64 (chF fs (appendF fs n1 x2)).2]) ∧ DiskR w' v' (chF fs (appendF fs n1 x2)).1 ∧ Below w.heap.size w w' := by
  have hmf : ∀ (fn : Fn) (first cap : Array Value) (w : World), (Instr.makeFunc fn first cap).run Try.prog w = .ok (.func fn first cap) w := fun _ _ _ _ => rfl
  have HG : Hid (Good fs) := hg
  have HD : Hid (DiskR w v fs) := h
  have HR2 : Hid (Reads .u8 w b2 x2) := hr2
  have HX2 : Hid (∀ x ∈ x2, 0 ≤ x ∧ x ≤ 255) := hx2
  obtain ⟨a, cap, rfl, _, _, _, _⟩ := h
  clear hg
  obtain ⟨ba2, bc2, hbe2, _, _, _, _⟩ := hr2
  subst hbe2
  go_enter Try.func12, Try.ntmps12
  go_wp2_with fail
  refine (changed_two _ fs (appendF fs n1 x2) 23 (.pointer (some ⟨w.heap.size + 1, 0, none⟩)) (.pointer (some ⟨w.heap.size + 2, 0, none⟩)) _ ?_ HG.out appendF_err enter_appendTo ?_).mono ?_
  · exact diskR_four HD.out _ _ _ _
  · intro p B w3 v3 vs h1 h2 h3 h4 h5 h6 h7 h8
    refine appendTo1_any p B (w.heap.size + 1) (w.heap.size + 2) v3 fs vs n1 _ x2 w3 h2 h3 ?_ ?_ h4 h5 h6 h8 hn1 (fun w5 hb5 => HR2.out.below ((below_up w _ _ _ _).trans ((h7.mono (by simp; omega)).trans (hb5.mono (by simp at h1; omega)))) (Nat.le_refl _)) HX2.out
    · exact (h7.cell (p := ⟨w.heap.size + 1, 0, none⟩) (by simp)).trans (cell_mid2 _ _ _ _ _ _)
    · exact (h7.cell (p := ⟨w.heap.size + 2, 0, none⟩) (by simp)).trans (cell_mid3 _ _ _ _ _ _)
  rintro e w1 ⟨v1, rfl, hd1, hb1⟩
  have hb1' : Below (w.heap.size + 4) ((((w.alloc (.cells #[.slice a fs.length cap] 26)).alloc (.cells #[.string n1] 9)).alloc (.cells #[.slice ba2 x2.length bc2] 23)).alloc (.cells #[.slice none 0 0] 26)) w1 := by simpa using hb1
  have hblk : w1.heap[w.heap.size + 3]? = some (.cells #[.slice none 0 0] 26 (0, 0)) := (hb1'.block _ (Nat.lt_succ_self _)).trans (heap_fourth _ _ _ _ _ _)
  have t1 : w1.cell? ⟨w.heap.size + 3, 0, none⟩ = some (.slice none 0 0) := by rw [cell_of_row w1 _ _ _ _ _ hblk]; rfl
  have t2 : w1.frozen? ⟨w.heap.size + 3, 0, none⟩ = false := by simp only [World.frozen?, hblk]; simp
  have B1 : Hid (Below w.heap.size w w1) := below_four hb1'
  have D2 : Hid (∀ y, DiskR (w1.setCell ⟨w.heap.size + 3, 0, none⟩ y) v1 (chF fs (appendF fs n1 x2)).1) := fun y => hd1.setBox hblk
  obtain ⟨a1, c1, rfl, _, _, _, _⟩ := hd1
  clear hb1 hb1' hblk
  generalize hq : chF fs (appendF fs n1 x2) = q at *
  have HQ : Hid (chF fs (appendF fs n1 x2) = q) := hq
  clear hq
  go_wp2_with fail
  exact bodyPost_ret (v := .tuple #[.agg #[.slice a1 q.1.length c1], .int .i64 q.2]) (by simp [results, Try.results12, go_sem, t1]) rfl ⟨_, by rw [HQ.out], by rw [HQ.out]; exact D2.out _, B1.out.setCell (show w.heap.size ≤ w.heap.size + 3 by omega) _⟩
end Go.Proofs.Ytdhaccljidhdcab
