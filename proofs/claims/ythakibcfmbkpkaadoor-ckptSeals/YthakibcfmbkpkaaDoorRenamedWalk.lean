/-
  Contract of the document's own Renamed: what P3.5 says.
-/
import Derived.Test.YthakibcfmbkpkaaDoorRefLib
import Derived.Test.YthakibcfmbkpkaaDoorRenameWalk
namespace Go.Proofs.YthakibcfmbkpkaaDoor
set_option maxRecDepth 100000
open Go.ChangeShapes Go.WideShapes Go.ChangeAt Go.RowKit

/-- The files in turn: what has the new name goes, what has the old one gets it. -/
def renL (n to : ByteArray) : List FileL → List FileL
  | [] => []
  | f :: r => if f.name = to ∧ n ≠ to then renL n to r else if f.name = n then { f with name := to } :: renL n to r else f :: renL n to r
theorem renL_app (n to : ByteArray) : ∀ (l r : List FileL), renL n to (l ++ r) = renL n to l ++ renL n to r
  | [], r => by simp [renL]
  | f :: l, r => by
    have ih := renL_app n to l r
    simp only [List.cons_append, renL, ih]
    split
    · rfl
    · split <;> rfl
theorem renL_len (n to : ByteArray) : ∀ l : List FileL, (renL n to l).length ≤ l.length
  | [] => by simp [renL]
  | f :: r => by
    have := renL_len n to r
    simp only [renL]
    split
    · simp; omega
    · split <;> simp <;> omega
/-- A file with the old name gets the new one. -/
def newName (n to : ByteArray) (f : FileL) : FileL := if f.name = n then { f with name := to } else f
theorem renL_map {n to : ByteArray} : ∀ {l : List FileL}, (∀ f ∈ l, f.name ≠ to) → renL n to l = l.map (newName n to)
  | [], _ => rfl
  | f :: r, h => by
    have ih := renL_map (n := n) (l := r) (fun g hg => h g (by simp [hg]))
    simp only [renL, ih, List.map_cons, newName]
    rw [if_neg (fun e => h f (by simp) e.1)]
    split <;> rfl
/-- What a name's place says of the list. -/
theorem split_at {fs : List FileL} {k : Nat} (hk : k < fs.length) : fs = fs.take k ++ fs.getD k noF :: fs.drop (k + 1) := by
  have hd : fs.drop k = fs.getD k noF :: fs.drop (k + 1) := by rw [List.drop_eq_getElem_cons hk, List.getD_eq_getElem?_getD, List.getElem?_eq_getElem hk]; rfl
  rw [← hd, List.take_append_drop]
theorem mem_getD {l : List FileL} {f : FileL} (h : f ∈ l) : ∃ i, i < l.length ∧ l.getD i noF = f := by
  obtain ⟨i, hi, e⟩ := List.mem_iff_getElem.1 h
  exact ⟨i, hi, by rw [List.getD_eq_getElem?_getD, List.getElem?_eq_getElem hi, ← e]; rfl⟩
/-- In a list in which no name stands twice the turn comes to one file. -/
theorem dist_other {fs : List FileL} (h : mayB fs = true) {i j : Nat} (hi : i < fs.length) (hj : j < fs.length) (e : (fs.getD i noF).name = (fs.getD j noF).name) : i = j := by
  have hd := (may_iff.1 h).2.2
  rcases Nat.lt_trichotomy i j with h1 | h1 | h1
  · exact absurd e (hd i j h1 hj)
  · exact h1
  · exact absurd e.symm (hd j i h1 hi)

theorem set_map {fs : List FileL} {n to : ByteArray} {k : Nat} (hm : mayB fs = true) (hk : k < fs.length) (hn : (fs.getD k noF).name = n) : fs.set k { fs.getD k noF with name := to } = fs.map (newName n to) := by
  refine List.ext_getElem? fun i => ?_
  by_cases hi : i < fs.length
  · have e0 : fs.getD i noF = fs[i] := by rw [List.getD_eq_getElem?_getD, List.getElem?_eq_getElem hi]; rfl
    rw [List.getElem?_map, List.getElem?_eq_getElem hi]
    by_cases e : i = k
    · subst e
      rw [List.getElem?_set_self hi, ← e0]
      show _ = some (newName n to _)
      rw [newName, if_pos hn]
    · rw [List.getElem?_set_ne (fun h => e h.symm), List.getElem?_eq_getElem hi, ← e0]
      show _ = some (newName n to _)
      rw [newName, if_neg (fun h => e (dist_other hm hi hk (h.trans hn.symm)))]
  · rw [List.getElem?_eq_none (by rw [List.length_set]; omega), List.getElem?_eq_none (by rw [List.length_map]; omega)]
theorem newName_self {n : ByteArray} (f : FileL) : newName n n f = f := by
  unfold newName
  split
  · rename_i h; subst h; rfl
  · rfl
theorem renL_same (n : ByteArray) : ∀ (fs : List FileL), renL n n fs = fs
  | [] => rfl
  | f :: r => by
    have ih := renL_same n r
    simp only [renL, ih]
    rw [if_neg (fun h => h.2 rfl)]
    split
    · rename_i h; subst h; rfl
    · rfl
theorem renL_moved {fs : List FileL} {n to : ByteArray} {k : Nat} (hm : mayB fs = true) (hk : k < fs.length) (he : atF fs n = k) (hn : (fs.getD k noF).name = n) : renL n to fs = moved fs k to := by
  unfold moved
  rw [set_map hm hk hn]
  by_cases hnt : n = to
  · subst hnt
    rw [renL_same, if_neg (by rw [he]; simp)]
    have : (newName n n) = id := funext newName_self
    rw [this, List.map_id]
  · rcases atF_cases fs to with ⟨j, hj, e2, hjt, _⟩ | ⟨e2, hno⟩
    · have hjk : j ≠ k := fun e => by subst e; exact hnt (hn.symm.trans hjt)
      rw [if_pos (by rw [e2]; exact ⟨by omega, by omega⟩), e2]
      have hsp := split_at hj
      have hl : (fs.take j).length = j := List.length_take_of_le (by omega)
      have hA : ∀ f ∈ fs.take j, f.name ≠ to := fun f hf => by
        obtain ⟨i, hi, e⟩ := mem_getD hf
        rw [hl] at hi
        rw [getD_take hi] at e
        intro h9
        have := dist_other hm (by omega) hj (by rw [e, h9, hjt] : (fs.getD i noF).name = (fs.getD j noF).name)
        omega
      have hC : ∀ f ∈ fs.drop (j + 1), f.name ≠ to := fun f hf => by
        obtain ⟨i, hi, e⟩ := mem_getD hf
        rw [List.length_drop] at hi
        have e' : fs.getD (j + 1 + i) noF = f := by rw [← e, List.getD_eq_getElem?_getD, List.getD_eq_getElem?_getD, List.getElem?_drop]
        intro h9
        have := dist_other hm (by omega) hj (by rw [e', h9, hjt] : (fs.getD (j + 1 + i) noF).name = (fs.getD j noF).name)
        omega
      have e5 : renL n to fs = (fs.take j).map (newName n to) ++ (fs.drop (j + 1)).map (newName n to) := by
        rw [hsp, renL_app, ← hsp, renL_map hA]
        simp only [renL]
        rw [if_pos ⟨hjt, hnt⟩, renL_map hC]
      rw [e5]
      have e6 : fs.map (newName n to) = (fs.take j).map (newName n to) ++ newName n to (fs.getD j noF) :: (fs.drop (j + 1)).map (newName n to) := by
        rw [← List.map_cons, ← List.map_append, ← hsp]
      have hl2 : ((fs.take j).map (newName n to)).length = j := by rw [List.length_map, hl]
      rw [e6, Int.toNat_natCast, List.eraseIdx_append_of_length_le (by omega), hl2, Nat.sub_self]
      rfl
    · rw [if_neg (by rw [e2]; omega)]
      exact renL_map (fun f hf => by
        obtain ⟨i, hi, e⟩ := mem_getD hf
        rw [← e]; exact hno i hi)

theorem renL_skip {fs : List FileL} {n to : ByteArray} {m : Nat} (hm : m < fs.length) (h : (fs.getD m noF).name = to) (hn : n ≠ to) : renL n to (fs.take (m + 1)) = renL n to (fs.take m) := by
  rw [take_snocF hm, renL_app]
  simp only [renL]
  rw [if_pos ⟨h, hn⟩, List.append_nil]
theorem renL_set {fs : List FileL} {n to : ByteArray} {m : Nat} (hm : m < fs.length) (h0 : ¬ ((fs.getD m noF).name = to ∧ n ≠ to)) (h : (fs.getD m noF).name = n) : renL n to (fs.take (m + 1)) = renL n to (fs.take m) ++ [{ fs.getD m noF with name := to }] := by
  rw [take_snocF hm, renL_app]
  simp only [renL]
  rw [if_neg h0, if_pos h]
theorem renL_keep {fs : List FileL} {n to : ByteArray} {m : Nat} (hm : m < fs.length) (h0 : ¬ ((fs.getD m noF).name = to ∧ n ≠ to)) (h : (fs.getD m noF).name ≠ n) : renL n to (fs.take (m + 1)) = renL n to (fs.take m) ++ [fs.getD m noF] := by
  rw [take_snocF hm, renL_app]
  simp only [renL]
  rw [if_neg h0, if_neg h]

set_option maxHeartbeats 4000000 in
set_option maxRecDepth 100000 in
theorem renamed_any (v : Value) (fs : List FileL) (n to : ByteArray) (w : World) (h : DiskR w v fs) (hg : Good fs) (hl : fs.length * 48 ≤ 140737488351232) (_ht : to.size ≤ maxLen) :
    Calls Tryd.prog 21 #[.agg #[v], .string n, .string to] w fun e w' => ∃ v', e = .returned (.tuple #[.agg #[v'], .int .i64 (chF fs (renameF fs n to)).2]) ∧ DiskR w' v' (chF fs (renameF fs n to)).1 ∧ Below w.heap.size w w' := by
  have HG : Hid (Good fs) := hg
  have HD : Hid (DiskR w v fs) := h
  obtain ⟨a, cap, rfl, hc, hm, _, _⟩ := h
  clear hg
  unfold maxLen at hm
  go_enter Tryd.func21, Tryd.ntmps21
  go_wp2_with fail
  refine (diskMay_any _ fs _ ?_).mono ?_
  · exact (HD.out.below (below_alloc _ _) (Nat.le_refl _)).below (below_alloc _ _) (Nat.le_refl _)
  rintro e w1 ⟨rfl, hb1⟩
  have B0 : Hid (Below (w.heap.size + 2) ((w.alloc (.cells #[.slice a fs.length cap] 24)).alloc (.cells #[.slice none 0 0] 24)) w1) := by simpa [Hid] using hb1
  have r0 := two_cell0 B0.out
  have t1 := two_cell1 B0.out
  have t2 := two_frozen1 B0.out
  have hs1 : w.heap.size + 2 ≤ w1.heap.size := by have := B0.out.size; simp at this; omega
  have B1 : Hid (Below w.heap.size w w1) := below_two B0.out
  have D1 : Hid (DiskR w1 (.slice a fs.length cap) fs) := HD.out.below B1.out (Nat.le_refl _)
  clear hb1
  cases hmay : mayB fs with
  | false =>
    have HF : Hid (chF fs (renameF fs n to) = ([], 9)) := by simp [chF, Hid, hmay]
    clear hmay
    go_wp2_with fail
    refine bodyPost_ret (v := .tuple #[.agg #[.slice none 0 0], .int .i64 9]) (by simp [results, Tryd.results21, go_sem, t1]) rfl ⟨.slice none 0 0, by rw [HF.out], by rw [HF.out]; exact diskR_nil _, B1.out.setCell (show w.heap.size ≤ w.heap.size + 1 by omega) _⟩
  | true =>
    have HFC : Hid (chF fs (renameF fs n to) = renameF fs n to) := by simp [chF, Hid, hmay]
    have HMAY : Hid (mayB fs = true) := hmay
    have h40 := (may_iff.1 hmay).1
    clear hmay
    go_wp2_with fail
    refine (in_any _ _ _ _).mono ?_
    rintro e w1' ⟨rfl, rfl⟩
    cases h0 : nmB to with
    | false =>
      have HF : Hid (renameF fs n to = ([], 1)) := renameF_size h0
      have hin : inB (to.size : Int) 1 20 = false := inB_no (by simp [nmB] at h0; omega)
      clear h0
      rw [hin]
      go_wp2_with fail
      refine bodyPost_ret (v := .tuple #[.agg #[.slice none 0 0], .int .i64 1]) (by simp [results, Tryd.results21, go_sem, t1]) rfl ⟨.slice none 0 0, by rw [HFC.out, HF.out], by rw [HFC.out, HF.out]; exact diskR_nil _, B1.out.setCell (show w.heap.size ≤ w.heap.size + 1 by omega) _⟩
    | true =>
      have hin : inB (to.size : Int) 1 20 = true := inB_yes (by simp [nmB] at h0; omega)
      rw [hin]
      go_wp2_with fail
      refine (fileAt_any _ fs n _ D1.out).mono ?_
      rintro e w2 ⟨rfl, hb2⟩
      have B2 : Hid (Below (w.heap.size + 2) ((w.alloc (.cells #[.slice a fs.length cap] 24)).alloc (.cells #[.slice none 0 0] 24)) w2) := B0.out.trans (hb2.mono (by omega))
      have r02 := two_cell0 B2.out
      have t12 := two_cell1 B2.out
      have t22 := two_frozen1 B2.out
      have hs2 : w.heap.size + 2 ≤ w2.heap.size := by have := hb2.size; omega
      clear hb2 r0 t1 t2 hin
      rcases atF_cases fs n with ⟨k, hk, e, hkn, _⟩ | ⟨e, _⟩
      · have HF : Hid (renameF fs n to = (renL n to fs, 0)) := by show _ = _; rw [renameF_some h0 e, renL_moved HMAY.out hk e hkn]
        rw [e]
        clear e h0 hkn
        have D2 : Hid (DiskR w2 (.slice a fs.length cap) fs) := HD.out.below (below_two B2.out) (Nat.le_refl _)
        go_wp2_with fail
        refine (diskCopy_any _ fs _ D2.out HG.out hl).mono ?_
        rintro e w3 ⟨v3, vs3, rfl, ho3, hb3⟩
        have B3 : Hid (Below (w.heap.size + 2) ((w.alloc (.cells #[.slice a fs.length cap] 24)).alloc (.cells #[.slice none 0 0] 24)) w3) := B2.out.trans (hb3.mono (by omega))
        have hs3 := hb3.size
        have O3 : Hid (OwnD w3 w2.heap.size v3 fs vs3) := ho3
        clear hb3 ho3
        rcases O3.out.row_or with ⟨_, rfl⟩ | ⟨g, gcap, rfl, hg, hrow⟩
        · simp at hk
        have R3 : Hid (RowF w3 g gcap fs (fun i => vs3.getD i undef)) := hrow
        have hgl := hrow.lt
        have hcl := hrow.le
        have hcm := hrow.max
        unfold maxLen at hcm
        clear hrow
        go_wp2_with fail
        go_loopw [10] (fun i wr => ∃ (m : Nat) (u : Value) (us : List Value), m ≤ fs.length ∧ i = .int .i64 m ∧ RowD wr (w3.heap.size + 2) w2.heap.size u (renL n to (fs.take m)) us ∧ (∀ j, j < us.length → ∀ b, (us.getD j undef).ownBlock = some b → b < w3.heap.size) ∧ wr.cell? ⟨w3.heap.size + 1, 0, none⟩ = some u ∧ wr.frozen? ⟨w3.heap.size + 1, 0, none⟩ = false ∧ w3.heap.size + 2 ≤ wr.heap.size ∧ Below (w3.heap.size + 1) (w3.alloc (.cells #[.slice (some ⟨g, 0, none⟩) fs.length gcap] 24)) wr) (fun i _ => fs.length - (intOf i).toNat)
        case atStart => exact ⟨0, _, [], by omega, rfl, by simpa [renL] using RowD.nil _ _ _, fun j hj => by simp at hj, cell_second _ _ _ _, frozen_second _ _ _ _, by simp, (Below.refl _ _).alloc (by simp) _⟩
        case round =>
          obtain ⟨m, u, us, hm, rfl, hrd, hus, hcu, hfu, hsz, hbel⟩ := hrel
          have HRD : Hid (RowD wr (w3.heap.size + 2) w2.heap.size u (renL n to (fs.take m)) us) := hrd
          have HUS : Hid (∀ j, j < us.length → ∀ b, (us.getD j undef).ownBlock = some b → b < w3.heap.size) := hus
          have HB : Hid (Below (w3.heap.size + 1) (w3.alloc (.cells #[.slice (some ⟨g, 0, none⟩) fs.length gcap] 24)) wr) := hbel
          have B4 : Hid (Below w3.heap.size w3 wr) := box_below hbel
          have hcb : wr.cell? ⟨w3.heap.size, 0, none⟩ = some (.slice (some ⟨g, 0, none⟩) fs.length gcap) := box_cell hbel
          obtain ⟨ua, uc, hue⟩ := hrd.shape
          subst hue
          clear hrd hus hbel
          have hrl : (renL n to (fs.take m)).length ≤ fs.length := by have h1 := renL_len n to (fs.take m); rw [List.length_take] at h1; omega
          by_cases hlt : m < fs.length
          · obtain ⟨c1, c2, c3, _⟩ := (R3.out.file m hlt).below B4.out (Nat.le_refl _)
            have OD : Hid (wr.ownsRow w2.heap.size 5 1 (vs3.getD m undef) (fs.getD m noF).data.length ((fs.getD m noF).data.map (Value.int .u8))) := own_below (O3.out.data m hlt) B4.out (Nat.le_refl _)
            have HBK : Hid (∀ b, (vs3.getD m undef).ownBlock = some b → b < w3.heap.size) := O3.out.lt m hlt
            have c2' : wr.cell? ⟨g, m * 3 + 1, none⟩ = some (vs3.getD m undef) := c2
            have HS1 : Hid ((fs.getD m noF).name = to → n ≠ to → renL n to (fs.take (m + 1)) = renL n to (fs.take m)) := fun h1 h2 => renL_skip hlt h1 h2
            have HS2 : Hid (¬ ((fs.getD m noF).name = to ∧ n ≠ to) → (fs.getD m noF).name = n → renL n to (fs.take (m + 1)) = renL n to (fs.take m) ++ [{ fs.getD m noF with name := to }]) := fun h1 h2 => renL_set hlt h1 h2
            have HS3 : Hid (¬ ((fs.getD m noF).name = to ∧ n ≠ to) → (fs.getD m noF).name ≠ n → renL n to (fs.take (m + 1)) = renL n to (fs.take m) ++ [fs.getD m noF]) := fun h1 h2 => renL_keep hlt h1 h2
            have hlg : g < wr.heap.size := by omega
            clear c2
            generalize vs3.getD m undef = dv at *
            obtain ⟨da, dn, dc, rfl⟩ : ∃ a n c, dv = .slice a n c := by obtain ⟨a, c, h, _⟩ := reads_own OD.out; exact ⟨_, _, _, h⟩
            generalize fs.getD m noF = f at *
            have q0 : (0 : Int) ≤ (m : Int) := by omega
            have q1 : (m : Int) < (fs.length : Int) := by omega
            have kk : ∀ X, (wr.alloc X).cell? ⟨w3.heap.size + 1, 0, none⟩ = some (.slice ua (renL n to (fs.take m)).length uc) := fun X => ((below_alloc wr X).cell (p := ⟨w3.heap.size + 1, 0, none⟩) (show w3.heap.size + 1 < wr.heap.size by omega)).trans hcu
            have HUL : Hid (us.length = (renL n to (fs.take m)).length) := HRD.out.len
            have hND : ∀ (L : List FileL) (w9 : World) (v9 : Value), RowD w9 (w3.heap.size + 2) w2.heap.size v9 L (us ++ [.slice da dn dc]) → ∀ j, j < L.length → ((us ++ [Value.slice da dn dc]).getD j undef).ownBlock = none ∨ ((us ++ [Value.slice da dn dc]).getD j undef).ownBlock ≠ some (w3.heap.size + 1) := fun L w9 v9 h9 j hj => by
              right
              intro e9
              have hlt9 : w3.heap.size + 1 < w3.heap.size := by
                by_cases hj2 : j < us.length
                · rw [getD_app_left hj2] at e9; exact HUS.out j hj2 _ e9
                · have ej : j = us.length := by have := h9.len; simp at this; omega
                  subst ej
                  rw [getD_app_last] at e9; exact HBK.out _ e9
              omega
            have hUS2 : ∀ j, j < (us ++ [Value.slice da dn dc]).length → ∀ b, ((us ++ [Value.slice da dn dc]).getD j undef).ownBlock = some b → b < w3.heap.size := fun j hj b e9 => by
              by_cases hj2 : j < us.length
              · rw [getD_app_left hj2] at e9; exact HUS.out j hj2 _ e9
              · have ej : j = us.length := by simp at hj; omega
                subst ej
                rw [getD_app_last] at e9; exact HBK.out _ e9
            have HND : Hid (∀ (L : List FileL) (w9 : World) (v9 : Value), RowD w9 (w3.heap.size + 2) w2.heap.size v9 L (us ++ [.slice da dn dc]) → ∀ j, j < L.length → ((us ++ [Value.slice da dn dc]).getD j undef).ownBlock = none ∨ ((us ++ [Value.slice da dn dc]).getD j undef).ownBlock ≠ some (w3.heap.size + 1)) := hND
            have HUS2 : Hid (∀ j, j < (us ++ [Value.slice da dn dc]).length → ∀ b, ((us ++ [Value.slice da dn dc]).getD j undef).ownBlock = some b → b < w3.heap.size) := hUS2
            clear hND hUS2
            by_cases hft : f.name = to
            · have eft := name_yes hft
              by_cases hnt : n = to
              · have ent := name_yes hnt
                have hfn : f.name = n := hft.trans hnt.symm
                have efn := name_yes hfn
                have HSK : Hid (renL n to (fs.take (m + 1)) = renL n to (fs.take m) ++ [{ f with name := to }]) := HS2.out (fun h => h.2 hnt) hfn
                clear hft hnt hfn
                go_wp2_with (at_builtin; refine wpList_append_file rfl _ _ rfl (w3.heap.size + 2) w2.heap.size _ _ us rfl ((HRD.out.alloc _).alloc _) { f with name := to } da dn dc ((OD.out.alloc _).alloc _) (wr.heap.size + 1) rfl (heap_second _ _ _ _) (by omega) (by simp; omega) ?_)
                intro gg gc w5 hr5 hb5
                have R5 : Hid (RowD w5 (w3.heap.size + 2) w2.heap.size (.slice (some ⟨gg, 0, none⟩) ((renL n to (fs.take m)).length + 1) gc) (renL n to (fs.take (m + 1))) (us ++ [.slice da dn dc])) := by show RowD _ _ _ _ _ _; rw [HSK.out]; exact hr5
                have BB : Hid (Below (w3.heap.size + 2) wr w5) := (((Below.refl _ _).alloc (by omega) _).alloc (by simp; omega) _).trans hb5
                have z1 : w5.cell? ⟨w3.heap.size + 1, 0, none⟩ = some (.slice ua (renL n to (fs.take m)).length uc) := (BB.out.cell (p := ⟨w3.heap.size + 1, 0, none⟩) (Nat.lt_succ_self _)).trans hcu
                have z2 : w5.frozen? ⟨w3.heap.size + 1, 0, none⟩ = false := (BB.out.frozen (p := ⟨w3.heap.size + 1, 0, none⟩) (Nat.lt_succ_self _)).trans hfu
                have HB5 : Hid (Below (w3.heap.size + 1) (w3.alloc (.cells #[.slice (some ⟨g, 0, none⟩) fs.length gcap] 24)) w5) := HB.out.trans (BB.out.mono (by omega))
                have hs5 : wr.heap.size ≤ w5.heap.size := BB.out.size
                clear hr5 hb5
                go_wp2_with fail
                go_roundw
                case rel => exact ⟨m + 1, _, _, by omega, by go_num, R5.out.set (show w3.heap.size + 1 < w3.heap.size + 2 by omega) (HND.out _ _ _ R5.out), HUS2.out, World.cell?_setCell_same _ _ _ z1, (World.frozen?_setCell _ _ _ _).trans z2, by rw [size_setCell]; omega, HB5.out.setCell (p := ⟨w3.heap.size + 1, 0, none⟩) (show w3.heap.size + 1 ≤ w3.heap.size + 1 from Nat.le_refl _) _⟩
                case measure => simp [intOf]; omega
              · have ent := name_no hnt
                have HSK : Hid (renL n to (fs.take (m + 1)) = renL n to (fs.take m)) := HS1.out hft hnt
                clear hft hnt
                go_wp2_with fail
                go_roundw
                case rel => exact ⟨m + 1, _, us, by omega, by go_num, by rw [HSK.out]; exact HRD.out.alloc _, HUS.out, kk _, ((below_alloc wr _).frozen (p := ⟨w3.heap.size + 1, 0, none⟩) (show w3.heap.size + 1 < wr.heap.size by omega)).trans hfu, by simp; omega, HB.out.alloc (by omega) _⟩
                case measure => simp [intOf]; omega
            · have eft := name_no hft
              have hh : ¬ (f.name = to ∧ n ≠ to) := fun h => hft h.1
              by_cases hfn : f.name = n
              · have efn := name_yes hfn
                have HSK : Hid (renL n to (fs.take (m + 1)) = renL n to (fs.take m) ++ [{ f with name := to }]) := HS2.out hh hfn
                clear hft hfn hh
                go_wp2_with (at_builtin; refine wpList_append_file rfl _ _ rfl (w3.heap.size + 2) w2.heap.size _ _ us rfl ((HRD.out.alloc _).alloc _) { f with name := to } da dn dc ((OD.out.alloc _).alloc _) (wr.heap.size + 1) rfl (heap_second _ _ _ _) (by omega) (by simp; omega) ?_)
                intro gg gc w5 hr5 hb5
                have R5 : Hid (RowD w5 (w3.heap.size + 2) w2.heap.size (.slice (some ⟨gg, 0, none⟩) ((renL n to (fs.take m)).length + 1) gc) (renL n to (fs.take (m + 1))) (us ++ [.slice da dn dc])) := by show RowD _ _ _ _ _ _; rw [HSK.out]; exact hr5
                have BB : Hid (Below (w3.heap.size + 2) wr w5) := (((Below.refl _ _).alloc (by omega) _).alloc (by simp; omega) _).trans hb5
                have z1 : w5.cell? ⟨w3.heap.size + 1, 0, none⟩ = some (.slice ua (renL n to (fs.take m)).length uc) := (BB.out.cell (p := ⟨w3.heap.size + 1, 0, none⟩) (Nat.lt_succ_self _)).trans hcu
                have z2 : w5.frozen? ⟨w3.heap.size + 1, 0, none⟩ = false := (BB.out.frozen (p := ⟨w3.heap.size + 1, 0, none⟩) (Nat.lt_succ_self _)).trans hfu
                have HB5 : Hid (Below (w3.heap.size + 1) (w3.alloc (.cells #[.slice (some ⟨g, 0, none⟩) fs.length gcap] 24)) w5) := HB.out.trans (BB.out.mono (by omega))
                have hs5 : wr.heap.size ≤ w5.heap.size := BB.out.size
                clear hr5 hb5
                go_wp2_with fail
                go_roundw
                case rel => exact ⟨m + 1, _, _, by omega, by go_num, R5.out.set (show w3.heap.size + 1 < w3.heap.size + 2 by omega) (HND.out _ _ _ R5.out), HUS2.out, World.cell?_setCell_same _ _ _ z1, (World.frozen?_setCell _ _ _ _).trans z2, by rw [size_setCell]; omega, HB5.out.setCell (p := ⟨w3.heap.size + 1, 0, none⟩) (show w3.heap.size + 1 ≤ w3.heap.size + 1 from Nat.le_refl _) _⟩
                case measure => simp [intOf]; omega
              · have efn := name_no hfn
                have HSK : Hid (renL n to (fs.take (m + 1)) = renL n to (fs.take m) ++ [f]) := HS3.out hh hfn
                clear hft hfn hh
                go_wp2_with (at_builtin; refine wpList_append_file rfl _ _ rfl (w3.heap.size + 2) w2.heap.size _ _ us rfl ((HRD.out.alloc _).alloc _) f da dn dc ((OD.out.alloc _).alloc _) (wr.heap.size + 1) rfl (heap_second _ _ _ _) (by omega) (by simp; omega) ?_)
                intro gg gc w5 hr5 hb5
                have R5 : Hid (RowD w5 (w3.heap.size + 2) w2.heap.size (.slice (some ⟨gg, 0, none⟩) ((renL n to (fs.take m)).length + 1) gc) (renL n to (fs.take (m + 1))) (us ++ [.slice da dn dc])) := by show RowD _ _ _ _ _ _; rw [HSK.out]; exact hr5
                have BB : Hid (Below (w3.heap.size + 2) wr w5) := (((Below.refl _ _).alloc (by omega) _).alloc (by simp; omega) _).trans hb5
                have z1 : w5.cell? ⟨w3.heap.size + 1, 0, none⟩ = some (.slice ua (renL n to (fs.take m)).length uc) := (BB.out.cell (p := ⟨w3.heap.size + 1, 0, none⟩) (Nat.lt_succ_self _)).trans hcu
                have z2 : w5.frozen? ⟨w3.heap.size + 1, 0, none⟩ = false := (BB.out.frozen (p := ⟨w3.heap.size + 1, 0, none⟩) (Nat.lt_succ_self _)).trans hfu
                have HB5 : Hid (Below (w3.heap.size + 1) (w3.alloc (.cells #[.slice (some ⟨g, 0, none⟩) fs.length gcap] 24)) w5) := HB.out.trans (BB.out.mono (by omega))
                have hs5 : wr.heap.size ≤ w5.heap.size := BB.out.size
                clear hr5 hb5
                go_wp2_with fail
                go_roundw
                case rel => exact ⟨m + 1, _, _, by omega, by go_num, R5.out.set (show w3.heap.size + 1 < w3.heap.size + 2 by omega) (HND.out _ _ _ R5.out), HUS2.out, World.cell?_setCell_same _ _ _ z1, (World.frozen?_setCell _ _ _ _).trans z2, by rw [size_setCell]; omega, HB5.out.setCell (p := ⟨w3.heap.size + 1, 0, none⟩) (show w3.heap.size + 1 ≤ w3.heap.size + 1 from Nat.le_refl _) _⟩
                case measure => simp [intOf]; omega
          · have HSK : Hid (renL n to (fs.take m) = renL n to fs) := by show _ = _; rw [List.take_of_length_le (by omega)]
            have B5 : Hid (Below (w.heap.size + 2) ((w.alloc (.cells #[.slice a fs.length cap] 24)).alloc (.cells #[.slice none 0 0] 24)) wr) := B3.out.trans (B4.out.mono (by omega))
            have t15 := two_cell1 B5.out
            have t25 := two_frozen1 B5.out
            have D6 : Hid (∀ y, DiskR (wr.setCell ⟨w.heap.size + 1, 0, none⟩ y) (.slice ua (renL n to (fs.take m)).length uc) (renL n to fs)) := fun y => by
              have h9 := HRD.out.reads.setBox (y := y) (two_block1 B5.out)
              rw [HSK.out] at h9 ⊢
              exact h9
            generalize (renL n to (fs.take m)).length = ln at *
            go_wp2_with fail
            exact bodyPost_ret (v := .tuple #[.agg #[.slice ua ln uc], .int .i64 0]) (by simp [results, Tryd.results21, go_sem, t15]) rfl ⟨_, by rw [HFC.out, HF.out], by rw [HFC.out, HF.out]; exact D6.out _, (below_two B5.out).setCell (show w.heap.size ≤ w.heap.size + 1 by omega) _⟩
      · have HF : Hid (renameF fs n to = ([], 7)) := renameF_none h0 e
        rw [e]
        clear e h0
        go_wp2_with fail
        refine bodyPost_ret (v := .tuple #[.agg #[.slice none 0 0], .int .i64 7]) (by simp [results, Tryd.results21, go_sem, t12]) rfl ⟨.slice none 0 0, by rw [HFC.out, HF.out], by rw [HFC.out, HF.out]; exact diskR_nil _, (below_two B2.out).setCell (show w.heap.size ≤ w.heap.size + 1 by omega) _⟩
end Go.Proofs.YthakibcfmbkpkaaDoor
