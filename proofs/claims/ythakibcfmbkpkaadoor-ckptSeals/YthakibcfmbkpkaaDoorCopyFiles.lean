/-
  Contract of disk's copyFiles: the files of a disk at work are laid anew, in memory of the call's own.
-/
import Derived.Test.YthakibcfmbkpkaaDoorFindWalk
import Derived.Test.YthakibcfmbkpkaaDoorCopyWalk
import Derived.Deep.RegionWith
namespace Go.Proofs.YthakibcfmbkpkaaDoor
set_option maxRecDepth 100000
open Go.ChangeShapes Go.WideShapes Go.ChangeAt Go.RowKit

/-- Files whose row is the call's own, and whose data reads; the first k of them have data of their own, apart from one another. -/
structure PartD (w : World) (base : Nat) (v : Value) (fs : List FileL) (vs : List Value) (k : Nat) : Prop where
  len : vs.length = fs.length
  row : w.ownsRow base 46 3 v fs.length (rows fs vs)
  read : ∀ i, i < fs.length → Reads .u8 w (vs.getD i undef) (fs.getD i noF).data
  data : ∀ i, i < k → w.ownsRow base 5 1 (vs.getD i undef) (fs.getD i noF).data.length ((fs.getD i noF).data.map (Value.int .u8))
  apart : ∀ i j, i < j → j < k → (vs.getD j undef).ownBlock = none ∨ (vs.getD j undef).ownBlock ≠ (vs.getD i undef).ownBlock

theorem PartD.own {w : World} {base : Nat} {v : Value} {fs : List FileL} {vs : List Value} (h : PartD w base v fs vs fs.length) : OwnD w base v fs vs := ⟨h.len, h.row, h.data, h.apart⟩
theorem PartD.below {w w' : World} {base B k : Nat} {v : Value} {fs : List FileL} {vs : List Value} (h : PartD w base v fs vs k) (hb : Below B w w') (hB : w.heap.size ≤ B) : PartD w' base v fs vs k :=
  ⟨h.len, own_below h.row hb hB, fun i hi => (h.read i hi).below hb hB, fun i hi => own_below (h.data i hi) hb hB, h.apart⟩

theorem rows_set : ∀ {fs : List FileL} {vs : List Value} (k : Nat) (x : Value), vs.length = fs.length → k < fs.length → rows fs (vs.set k x) = (rows fs vs).set (k * 3 + 1) x
  | [], _, k, x, _, h => by simp at h
  | f :: r, [], k, x, h, _ => by simp at h
  | f :: r, v :: vs, 0, x, _, _ => by simp [rows]
  | f :: r, v :: vs, k + 1, x, h, hk => by
    have := rows_set (fs := r) (vs := vs) k x (by simpa using h) (by simpa using hk)
    have e1 : (k + 1) * 3 + 1 = k * 3 + 1 + 3 := by omega
    rw [e1]
    simp only [List.set_cons_succ, rows, this]
/-- Bytes that read, behind a store into a cell that held no byte. -/
theorem Reads.set {w : World} {v : Value} {xs : List Int} {p : Addr} {u x : Value} (h : Reads .u8 w v xs) (hp : w.cell? p = some u) (hu : ∀ n, u ≠ .int .u8 n) : Reads .u8 (w.setCell p x) v xs := by
  obtain ⟨a, cap, rfl, hc, hm, ha, hcell⟩ := h
  refine ⟨a, cap, rfl, hc, hm, ha, fun y hy i hi => ?_⟩
  have h1 := hcell y hy i hi
  rw [World.cell?_setCell_other _ _ _ _ (fun e => by rw [← e] at h1; rw [hp] at h1; injection h1 with h1; exact hu _ h1), h1]
theorem PartD.store {w : World} {base k g n cap : Nat} {fs : List FileL} {vs : List Value} {x : Value} (h : PartD w base (.slice (some ⟨g, 0, none⟩) n cap) fs vs k) (hk : k < fs.length) {B : Nat} (hB : base ≤ B)
    (hx : w.ownsRow B 5 1 x (fs.getD k noF).data.length ((fs.getD k noF).data.map (Value.int .u8))) (hnew : ∀ i, i < k → ∀ b, (vs.getD i undef).ownBlock = some b → b < B) : PartD (w.setCell ⟨g, k * 3 + 1, none⟩ x) base (.slice (some ⟨g, 0, none⟩) n cap) fs (vs.set k x) (k + 1) := by
  have hn : n = fs.length := by
    rcases h.row.2 with ⟨hv, _⟩ | ⟨g', cap', cur, hv, _⟩
    · cases hv
    · injection hv
  subst hn
  obtain ⟨_, r2, _⟩ := rows_at k h.len hk
  have c2 := h.row.cells rfl _ _ r2
  rw [addr_add] at c2
  have hread : ∀ {v : Value} {ys : List Int}, Reads .u8 w v ys → Reads .u8 (w.setCell ⟨g, k * 3 + 1, none⟩ x) v ys := fun hr => hr.set c2 (fun m => by
    obtain ⟨a, c, e, _⟩ := h.read k hk
    rw [e]; intro hh; cases hh)
  have hap : ∀ {b' n' : Nat} {v' : Value} {ys : List Value}, w.ownsRow b' 5 1 v' n' ys → (w.setCell ⟨g, k * 3 + 1, none⟩ x).ownsRow b' 5 1 v' n' ys := fun ho => own_other ho (own_apart ho h.row (by decide))
  have es : ∀ i, i < fs.length → i ≠ k → (vs.set k x).getD i undef = vs.getD i undef := fun i hi hne => by
    rw [List.getD_eq_getElem?_getD, List.getD_eq_getElem?_getD, List.getElem?_set_ne (fun e => hne e.symm)]
  have ek : (vs.set k x).getD k undef = x := by rw [List.getD_eq_getElem?_getD, List.getElem?_set_self (by rw [h.len]; exact hk)]; rfl
  refine ⟨by rw [List.length_set]; exact h.len, by rw [rows_set k x h.len hk]; exact own_setRow h.row, ?_, ?_, ?_⟩
  · intro i hi
    by_cases e : i = k
    · subst e; rw [ek]; exact hread (reads_own hx)
    · rw [es i hi e]; exact hread (h.read i hi)
  · intro i hi
    by_cases e : i = k
    · subst e; rw [ek]; exact own_lower (hap hx) hB
    · rw [es i (by omega) e]; exact hap (h.data i (by omega))
  · intro i j hij hj
    by_cases e : j = k
    · subst e
      rw [ek, es i (by omega) (by omega)]
      rcases hx.2 with ⟨hv, _⟩ | ⟨g', cap', cur, hv, hgB, _⟩
      · subst hv; exact .inl rfl
      · subst hv
        refine .inr fun e => ?_
        have := hnew i hij g' e.symm
        omega
    · rw [es j (by omega) e, es i (by omega) (by omega)]
      exact h.apart i j hij (by omega)

theorem rows_get : ∀ {fs : List FileL} {vs : List Value} {j : Nat} {u : Value}, vs.length = fs.length → (rows fs vs)[j]? = some u →
    ∃ i, i < fs.length ∧ ((j = i * 3 ∧ u = .string (fs.getD i noF).name) ∨ (j = i * 3 + 1 ∧ u = vs.getD i undef) ∨ (j = i * 3 + 2 ∧ u = .int .i64 (fs.getD i noF).synced))
  | [], _, j, u, _, h => by simp [rows] at h
  | f :: r, [], j, u, h, _ => by simp at h
  | f :: r, v :: vs, 0, u, _, h => ⟨0, by simp, .inl ⟨rfl, by simpa [rows] using h.symm⟩⟩
  | f :: r, v :: vs, 1, u, _, h => ⟨0, by simp, .inr (.inl ⟨rfl, by simpa [rows] using h.symm⟩)⟩
  | f :: r, v :: vs, 2, u, _, h => ⟨0, by simp, .inr (.inr ⟨rfl, by simpa [rows] using h.symm⟩)⟩
  | f :: r, v :: vs, j + 3, u, hl, h => by
    obtain ⟨i, hi, hh⟩ := rows_get (fs := r) (vs := vs) (j := j) (u := u) (by simpa using hl) (by simpa [rows] using h)
    refine ⟨i + 1, by simp; omega, ?_⟩
    rcases hh with ⟨e, eu⟩ | ⟨e, eu⟩ | ⟨e, eu⟩
    · exact .inl ⟨by omega, by simpa using eu⟩
    · exact .inr (.inl ⟨by omega, by simpa using eu⟩)
    · exact .inr (.inr ⟨by omega, by simpa using eu⟩)
theorem rows_one {fs : List FileL} {vs : List Value} (hl : vs.length = fs.length) (h : ∀ i, i < fs.length → (vs.getD i undef).oneCell' = true) : ∀ u ∈ rows fs vs, u.oneCell' = true := by
  intro u hu
  obtain ⟨j, hj⟩ := List.getElem?_of_mem hu
  obtain ⟨i, hi, hh⟩ := rows_get hl hj
  rcases hh with ⟨_, rfl⟩ | ⟨_, rfl⟩ | ⟨_, rfl⟩
  · rfl
  · exact h i hi
  · rfl

/-- 'append([]File(nil), x...)' where x reads as files. -/
theorem wpList_append_files {w : World} {ops : Array Oper} {rest : List Oper} {o : Oper} {a : Act} {Q : Exit → Act → World → Prop} (hgd : o.guard = none) (s x : Operand)
    (ho : o.op = .call { callee := .builtin .append, args := #[s, x], argTypes := #[22, 22] })
    (v2 : Value) (fs : List FileL) (hs : a.eval s = .slice none 0 0) (hx : a.eval x = v2) (hr : DiskR w v2 fs) (hlen : fs.length * 48 ≤ 140737488355328)
    (h : ∀ v' vs w', PartD w' w.heap.size v' fs vs 0 → Below w.heap.size w w' → wpList Tryd.prog ops Q rest (a.put o.dst v') w') :
    wpList Tryd.prog ops Q (o :: rest) a w := by
  obtain ⟨i0, hi, hz0, hz1, hz2⟩ := info_parts Tryd.infoF
  obtain ⟨ad, cap, rfl, hc, hm, ha, hel⟩ := hr
  cases ad with
  | none =>
    have hcap := ha rfl
    have : fs = [] := List.eq_nil_of_length_eq_zero (by omega)
    subst this
    subst hcap
    refine wpList_append_own_none hgd s x 22 ho w.heap.size 46 i0 3 Tryd.underlying22 hi (.slice none 0 0) 0 [] hs (World.ownsRow_nil _ _ _ _) hx ?_
    exact h _ [] w ⟨rfl, World.ownsRow_nil _ _ _ _, fun i hi => by simp at hi, fun i hi => by omega, fun i j _ hj => by omega⟩ (Below.refl _ _)
  | some p =>
    by_cases hn : 0 < fs.length
    · obtain ⟨b, off, e, lt, dv, hv⟩ := hel hn
      injection e with e
      subst e
      have hvl : ((List.range fs.length).map dv).length = fs.length := by simp
      have hvg : ∀ i, i < fs.length → ((List.range fs.length).map dv).getD i undef = dv i := fun i hi => by rw [List.getD_eq_getElem?_getD, List.getElem?_map, List.getElem?_range hi]; rfl
      have hone : ∀ i, i < fs.length → (((List.range fs.length).map dv).getD i undef).oneCell' = true := fun i hi => by
        rw [hvg i hi]
        obtain ⟨_, _, _, c, d, e, _⟩ := hv i hi
        rw [e]; rfl
      have hadd : ∀ t, (⟨b, off, none⟩ : Addr).add t = ⟨b, off + t, none⟩ := fun t => by unfold Addr.add; split <;> simp_all
      refine wpList_append_own w hgd s x 22 ho w.heap.size 46 i0 _ 3 48 Tryd.underlying22 hi hz0 hz1 hz2 rfl (by decide) (.slice none 0 0) 0 [] hs (World.ownsRow_nil _ _ _ _) ⟨b, off, none⟩ fs.length cap (rows fs ((List.range fs.length).map dv)) hx (rows_len hvl) ?_ (rows_one hvl hone) (by unfold maxLen; omega) (by omega) (Nat.le_refl _) ?_
      · intro j u hu
        obtain ⟨i, hi, hh⟩ := rows_get hvl hu
        obtain ⟨c1, c2, c3, _⟩ := hv i hi
        rw [hadd]
        rcases hh with ⟨rfl, rfl⟩ | ⟨rfl, rfl⟩ | ⟨rfl, rfl⟩
        · exact c1
        · rw [hvg i hi]; rw [Nat.add_assoc] at c2; exact c2
        · rw [Nat.add_assoc] at c3; exact c3
      · intro v' w' h2 h3 _
        have hb : Below w.heap.size w w' := (Below.refl _ _).grown h3 (Nat.le_refl _) (fun k hk => by simp [Value.ownBlock] at hk)
        refine h v' _ w' ⟨hvl, by simpa using h2, fun i hi => ?_, fun i hi => by omega, fun i j _ hj => by omega⟩ hb
        rw [hvg i hi]
        exact (hv i hi).2.2.2.below hb (Nat.le_refl _)
    · have : fs = [] := List.eq_nil_of_length_eq_zero (by omega)
      subst this
      refine wpList_append_own w hgd s x 22 ho w.heap.size 46 i0 _ 3 48 Tryd.underlying22 hi hz0 hz1 hz2 rfl (by decide) (.slice none 0 0) 0 [] hs (World.ownsRow_nil _ _ _ _) p 0 cap [] hx rfl (fun j u hu => by simp at hu) (fun u hu => by simp at hu) (by simp [maxLen]) (by simp) (Nat.le_refl _) ?_
      intro v' w' h2 h3 h4
      have hb : Below w.heap.size w w' := (Below.refl _ _).grown h3 (Nat.le_refl _) (fun k hk => by simp [Value.ownBlock] at hk)
      exact h v' [] w' ⟨rfl, h2, fun i hi => by simp at hi, fun i hi => by omega, fun i j _ hj => by omega⟩ hb

theorem PartD.setBelow {w : World} {base k : Nat} {v : Value} {fs : List FileL} {vs : List Value} (h : PartD w base v fs vs k) {p : Addr} (hp : p.block < base) {u x : Value} (hpc : w.cell? p = some u) (hu : ∀ n, u ≠ .int .u8 n) : PartD (w.setCell p x) base v fs vs k :=
  ⟨h.len, ownsRow_setCell_below h.row hp x, fun i hi => (h.read i hi).set hpc hu, fun i hi => ownsRow_setCell_below (h.data i hi) hp x, h.apart⟩
theorem PartD.shape {w : World} {base k : Nat} {v : Value} {fs : List FileL} {vs : List Value} (h : PartD w base v fs vs k) :
    ∃ a cap, v = .slice a fs.length cap ∧ cap ≤ maxLen ∧ (0 < fs.length → ∃ g, a = some ⟨g, 0, none⟩ ∧ base ≤ g ∧ g < w.heap.size ∧ (∀ j, w.frozen? ⟨g, j, none⟩ = false) ∧ ∀ i, i < fs.length → w.cell? ⟨g, i * 3 + 1, none⟩ = some (vs.getD i undef)) := by
  rcases h.row.2 with ⟨hv, h0⟩ | ⟨g, cap, cur, hv, hg, hgg, hc, hm, _⟩
  · exact ⟨none, 0, by rw [h0]; exact hv, by simp [maxLen], fun h => by omega⟩
  · refine ⟨_, cap, hv, hm, fun _ => ⟨g, rfl, hg, (Array.getElem?_eq_some_iff.1 hgg).1, fun j => by simp only [World.frozen?, hgg]; simp, fun i hi => ?_⟩⟩
    subst hv
    obtain ⟨_, r2, _⟩ := rows_at i h.len hi
    have c2 := h.row.cells rfl _ _ r2
    rwa [addr_add] at c2

set_option maxHeartbeats 2000000 in
set_option maxRecDepth 100000 in
theorem copyFiles_any (pb : Nat) (v : Value) (fs : List FileL) (w : World) (hp : w.cell? ⟨pb, 0, none⟩ = some v) (hpf : w.frozen? ⟨pb, 0, none⟩ = false) (h : DiskR w v fs) (hg : Good fs) (hl : fs.length ≤ 40) :
    Calls Tryd.prog 51 #[.pointer (some ⟨pb, 0, none⟩)] w fun e w' => ∃ v' vs, e = .returned (.tuple #[]) ∧ w'.cell? ⟨pb, 0, none⟩ = some v' ∧ w'.frozen? ⟨pb, 0, none⟩ = false ∧ OwnD w' w.heap.size v' fs vs ∧ Below pb w w' := by
  have lp : pb < w.heap.size := World.block_lt_of_cell? w _ hp
  have HD : Hid (DiskR w v fs) := h
  have HG : Hid (Good fs) := hg
  obtain ⟨a, cap, rfl, _, _, _, _⟩ := h
  clear hg
  go_enter Tryd.func51, Tryd.ntmps51
  go_wp2_with (at_builtin; refine wpList_append_files rfl _ _ rfl _ fs rfl rfl HD.out (by omega) ?_)
  intro v1 vs1 w1 hpart hb1
  obtain ⟨a1, c1, rfl, hm1, hsh⟩ := hpart.shape
  have k0 : w1.cell? ⟨pb, 0, none⟩ = some (.slice a fs.length cap) := (hb1.cell (p := ⟨pb, 0, none⟩) lp).trans hp
  have k1 : w1.frozen? ⟨pb, 0, none⟩ = false := (hb1.frozen (p := ⟨pb, 0, none⟩) lp).trans hpf
  have P1 : Hid (PartD (w1.setCell ⟨pb, 0, none⟩ (.slice a1 fs.length c1)) w.heap.size (.slice a1 fs.length c1) fs vs1 0) := hpart.setBelow (show pb < w.heap.size from lp) k0 (fun n hh => by cases hh)
  have B1 : Hid (Below pb w (w1.setCell ⟨pb, 0, none⟩ (.slice a1 fs.length c1))) := (hb1.mono (Nat.le_of_lt lp)).setCell (p := ⟨pb, 0, none⟩) (show pb ≤ pb from Nat.le_refl _) _
  have k2 : (w1.setCell ⟨pb, 0, none⟩ (.slice a1 fs.length c1)).cell? ⟨pb, 0, none⟩ = some (.slice a1 fs.length c1) := World.cell?_setCell_same _ _ _ k0
  have hs1 : w.heap.size ≤ (w1.setCell ⟨pb, 0, none⟩ (.slice a1 fs.length c1)).heap.size := by rw [size_setCell]; exact hb1.size
  have k3 : (w1.setCell ⟨pb, 0, none⟩ (.slice a1 fs.length c1)).frozen? ⟨pb, 0, none⟩ = false := (World.frozen?_setCell _ _ _ _).trans k1
  unfold maxLen at hm1
  clear hpart hb1 hsh
  go_wp2_with fail
  generalize w1.setCell ⟨pb, 0, none⟩ (.slice a1 fs.length c1) = w2 at *
  go_loopw [19] (fun i wr => ∃ (k : Nat) (vs : List Value), k ≤ fs.length ∧ i = .int .i64 k ∧ PartD wr w.heap.size (.slice a1 fs.length c1) fs vs k ∧ wr.cell? ⟨pb, 0, none⟩ = some (.slice a1 fs.length c1) ∧ wr.frozen? ⟨pb, 0, none⟩ = false ∧ w.heap.size ≤ wr.heap.size ∧ Below pb w wr) (fun i _ => fs.length - (intOf i).toNat)
  case atStart => exact ⟨0, vs1, by omega, rfl, P1.out, k2, k3, hs1, B1.out⟩
  case round =>
    obtain ⟨k, vs, hk, rfl, hpart, hcp, hfp, hsz, hbel⟩ := hrel
    have HP : Hid (PartD wr w.heap.size (.slice a1 fs.length c1) fs vs k) := hpart
    have HB : Hid (Below pb w wr) := hbel
    by_cases hlt : k < fs.length
    · obtain ⟨a2, c2, e2, _, hsh⟩ := hpart.shape
      injection e2 with e2 _ e3
      subst e2 e3
      obtain ⟨g, rfl, hg1, hg2, hfz, hcells⟩ := hsh (by omega)
      have hck := hcells k hlt
      have hfk := hfz (k * 3 + 1)
      have RD : Hid (Reads .u8 wr (vs.getD k undef) (fs.getD k noF).data) := hpart.read k hlt
      have hdl : (fs.getD k noF).data.length ≤ 140737488355328 := by have := (HG.out k hlt).2.2.2.2; omega
      have HST : Hid (∀ w6 v6, Below wr.heap.size wr w6 → w6.ownsRow wr.heap.size 5 1 v6 (fs.getD k noF).data.length ((fs.getD k noF).data.map (Value.int .u8)) → PartD (w6.setCell ⟨g, k * 3 + 1, none⟩ v6) w.heap.size (.slice (some ⟨g, 0, none⟩) fs.length c1) fs (vs.set k v6) (k + 1)) := fun w6 v6 hb6 ho6 =>
        (HP.out.below hb6 (Nat.le_refl _)).store hlt hsz ho6 (fun i hi b hbk => ((HP.out.data i hi).lt b hbk).2)
      clear hpart hbel hcells hfz hsh
      generalize vs.getD k undef = dv at *
      generalize fs.getD k noF = f at *
      obtain ⟨da, dn, dc, rfl⟩ : ∃ a n c, dv = .slice a n c := by obtain ⟨a, c, h, _⟩ := RD.out; exact ⟨_, _, _, h⟩
      have q0 : (0 : Int) ≤ (k : Int) := by omega
      have q1 : (k : Int) < (fs.length : Int) := by omega
      have lpr : pb < wr.heap.size := by omega
      go_wp2_with fail
      go_region_with (first
        | (go_at_call 42; refine (clone_any _ f.data _ ?_ hdl).mono ?_; exact RD.out; rintro e w6 ⟨v6, rfl, hown6, hbel6⟩; have hb6 : Below wr.heap.size wr w6 := ⟨hbel6.os, hbel6.tape, hbel6.output, hbel6.size, hbel6.block⟩; have ho6 : w6.ownsRow wr.heap.size 5 1 v6 f.data.length (f.data.map (Value.int .u8)) := hown6; have j0 := (hb6.cell (p := ⟨pb, 0, none⟩) lpr).trans hcp; have j1 := (hb6.cell (p := ⟨g, k * 3 + 1, none⟩) hg2).trans hck; have j2 := (hb6.frozen (p := ⟨g, k * 3 + 1, none⟩) hg2).trans hfk; have j3 := (hb6.frozen (p := ⟨pb, 0, none⟩) lpr).trans hfp; clear hown6 hbel6; obtain ⟨xa, xn, xc, rfl⟩ : ∃ a n c, v6 = .slice a n c := by obtain ⟨a, c, h, _⟩ := reads_own ho6; exact ⟨_, _, _, h⟩))
      all_goals
        have P7 := HST.out _ _ hb6 ho6
        have hpg : pb ≠ g := by omega
        go_wp2_with fail
        go_roundw
        case rel => exact ⟨k + 1, _, by omega, by go_num, P7, by rw [World.cell?_setCell_other _ _ _ _ (fun e => hpg (congrArg Addr.block e).symm)]; exact j0, (World.frozen?_setCell _ _ _ _).trans j3, by rw [size_setCell]; have := hb6.size; omega, (HB.out.trans (hb6.mono (by omega))).setCell (show pb ≤ g by omega) _⟩
        case measure => simp [intOf]; omega
    · have ek : k = fs.length := by omega
      subst ek
      go_wp2_with fail
      go_end0
      exact ⟨_, vs, rfl, hcp, hfp, HP.out.own, HB.out⟩
end Go.Proofs.YthakibcfmbkpkaaDoor
