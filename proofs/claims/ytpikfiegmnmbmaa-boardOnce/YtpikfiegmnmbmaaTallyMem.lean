/-
  Raw numbers of reports that came in; a row of numbers whose end is moved up by one.
-/
import Derived.Test.YtpikfiegmnmbmaaTallyMath
import Derived.Test.YtpikfiegmnmbmaaBoardMem
import Derived.Test.YtpikfiegmnmbmaaTwoOpen
import Derived.Laws.CopyRow
import Derived.Lib.SlBuf
namespace Go.Proofs.Ytpikfiegmnmbmaa
set_option maxRecDepth 100000
open Go.ChangeShapes Go.WideShapes Go.ChangeAt Go.RowKit

structure TyG where
  t : TyL
  sa : Option Addr
  sc : Nat
def TyG.vs (g : TyG) : Value := .slice g.sa g.t.sent.length g.sc
def tyC (t : TyL) (vs : Value) : List Value := [vs, .int .i64 t.waking, .int .i64 t.opn]
def encT (g : TyG) : List Value := tyC g.t g.vs
theorem encT_len (g : TyG) : (encT g).length = 3 := rfl
def TlsR (w : World) (v : Value) (ts : List TyL) : Prop := ∃ gs : List TyG, gs.map TyG.t = ts ∧ RowK encT 3 w v gs ∧ ∀ g ∈ gs, InR w g.vs g.t.sent
theorem TlsR.below {w w' : World} {v : Value} {ts : List TyL} {B : Nat} (h : TlsR w v ts) (hb : Below B w w') (hB : w.heap.size ≤ B) : TlsR w' v ts := by
  obtain ⟨gs, h1, h2, h3⟩ := h
  exact ⟨gs, h1, h2.below hb hB, fun g hg => (h3 g hg).below hb hB⟩
theorem TlsR.nil (w : World) : TlsR w (.slice none 0 0) [] := ⟨[], rfl, RowK.nil _ _ _, fun g hg => by cases hg⟩
theorem TlsR.shape {w : World} {v : Value} {ts : List TyL} (h : TlsR w v ts) : ∃ a c, v = .slice a ts.length c ∧ ts.length ≤ 9223372036854775807 := by
  obtain ⟨gs, h1, h2, _⟩ := h
  obtain ⟨a, c, e, h3, h4, _⟩ := h2
  unfold maxLen at h4
  exact ⟨a, c, by rw [e, ← h1, List.length_map], by rw [← h1, List.length_map]; omega⟩
theorem TlsR.at {w : World} {v : Value} {ts : List TyL} (h : TlsR w v ts) (hn : 0 < ts.length) :
    ∃ b off cap, v = .slice (some ⟨b, off, none⟩) ts.length cap ∧ ∀ i t, ts[i]? = some t → ∃ sa sc, (w.cell? ⟨b, off + i * 3, none⟩ = some (.slice sa t.sent.length sc) ∧ w.cell? ⟨b, off + i * 3 + 1, none⟩ = some (.int .i64 t.waking) ∧ w.cell? ⟨b, off + i * 3 + 2, none⟩ = some (.int .i64 t.opn)) ∧ InR w (.slice sa t.sent.length sc) t.sent := by
  obtain ⟨gs, rfl, ⟨a, cap, rfl, hc, hm, _, hel⟩, h3⟩ := h
  rw [List.length_map] at hn
  obtain ⟨b, off, rfl, lt, hv⟩ := hel hn
  refine ⟨b, off, cap, by rw [List.length_map], fun i t ht => ?_⟩
  rw [List.getElem?_map] at ht
  obtain ⟨g, hg, rfl⟩ := Option.map_eq_some_iff.1 ht
  have h1 := hv i g hg
  exact ⟨g.sa, g.sc, ⟨h1 0 _ rfl, h1 1 _ rfl, h1 2 _ rfl⟩, h3 g (List.mem_of_getElem? hg)⟩
def TyB (t : TyL) : Prop := (∀ x ∈ t.sent, i64B x) ∧ i64B t.waking ∧ i64B t.opn
theorem open_intsT {H : Type} {enc : TypeId × Value → H} {W : World} {fuel : Nat} {v0 : Value} {y : DataW H × List MemPlace} (hf : DataW.trod enc Try.prog W 0 (fun _ => true) true fuel 30 [v0] = some y) : ∃ xs, InR W v0 xs ∧ ∀ x ∈ xs, i64B x := by
  rcases open_ints Try.underlying30 Try.underlying3 cells3M hf with ⟨e1, _⟩ | ⟨x, len, cap, zs, e1, _, hle, hm, hz, hx, hcell, hwf⟩
  · simp only [List.cons.injEq, and_true] at e1
    subst e1
    exact ⟨[], RowK.nil _ _ _, by simp⟩
  · simp only [List.cons.injEq, and_true] at e1
    subst e1
    have hz2 : zs.length = cap := by simpa using hz
    have el : (zs.take len).length = len := List.length_take_of_le (by omega)
    refine ⟨zs.take len, ⟨some x, cap, by rw [el], by rw [el]; omega, hm, fun e => (by cases e), fun hn => ?_⟩, fun y hy => bounds_i64 (hwf y (List.mem_of_mem_take hy))⟩
    rw [el] at hn
    have h0 := hcell 0 (by omega)
    obtain ⟨b, off, spot⟩ := x
    have hsp : spot = none := by simpa [Addr.add] using World.cell?_spot h0
    subst hsp
    refine ⟨b, off, rfl, World.block_lt_of_cell? W _ h0, fun i y hy j u hu => ?_⟩
    have hi : i < len := by have := (List.getElem?_eq_some_iff.1 hy).1; rw [el] at this; exact this
    have hc := hcell i (by omega)
    rw [addr_plus] at hc
    cases j with
    | zero =>
      simp [encI] at hu
      subst hu
      rw [Nat.mul_one, Nat.add_zero, hc, List.getD_eq_getElem?_getD]
      rw [List.getElem?_take_of_lt hi] at hy
      rw [hy]; rfl
    | succ j => simp [encI] at hu


set_option maxHeartbeats 1000000 in
theorem open_tally {H : Type} {enc : TypeId × Value → H} {W : World} {fuel : Nat} {cs : List Value} {y : DataW H × List MemPlace} (hcs : cs.length = 3) (hf : DataW.trod enc Try.prog W 0 (fun _ => true) true fuel 45 cs = some y) :
    ∃ (t : TyL) (vs : Value), cs = tyC t vs ∧ InR W vs t.sent ∧ TyB t := by
  have hc3 : Try.prog.cellsOf 3 = 1 := by kernel_rfl
  have hci : Try.prog.cellsOf 30 = 1 := by kernel_rfl
  obtain ⟨c0, c1, c2, rfl⟩ : ∃ c0 c1 c2, cs = [c0, c1, c2] := by
    match cs, hcs with
    | [c0, c1, c2], _ => exact ⟨c0, c1, c2, rfl⟩
  obtain ⟨xs, n, _, hx, _, hxl, hfld⟩ := DataW.trod_struct Try.underlying45 hf
  have h0 := hfld 0 _ rfl
  have h1 := hfld 1 _ rfl
  have h2 := hfld 2 _ rfl
  match xs, hxl with
  | [y0, y1, y2], _ =>
    simp only [List.getElem?_cons_zero, List.getElem?_cons_succ] at h0 h1 h2
    have e0 : (([c0, c1, c2] : List Value).drop 0).take (Try.prog.cellsOf 30) = [c0] := by rw [hci]; rfl
    have h0' : DataW.trod enc Try.prog W 0 (fun _ => true) true n 30 [c0] = some y0 := by rw [← e0]; exact h0
    have e1 : (([c0, c1, c2] : List Value).drop 1).take (Try.prog.cellsOf 3) = [c1] := by rw [hc3]; rfl
    have h1' : DataW.trod enc Try.prog W 0 (fun _ => true) true n 3 [c1] = some y1 := by rw [← e1]; exact h1
    have e2 : (([c0, c1, c2] : List Value).drop 2).take (Try.prog.cellsOf 3) = [c2] := by rw [hc3]; rfl
    have h2' : DataW.trod enc Try.prog W 0 (fun _ => true) true n 3 [c2] = some y2 := by rw [← e2]; exact h2
    obtain ⟨i1, ei1, _, hi1⟩ := DataW.trod_int Try.underlying3 h1'
    obtain ⟨i2, ei2, _, hi2⟩ := DataW.trod_int Try.underlying3 h2'
    simp only [List.cons.injEq, and_true] at ei1 ei2
    subst ei1 ei2
    obtain ⟨us, hR, hL⟩ := open_intsT h0'
    exact ⟨⟨us, i1, i2⟩, c0, rfl, hR, hL, bounds_i64 hi1, bounds_i64 hi2⟩

set_option maxHeartbeats 1000000 in
theorem open_tallies0 {H : Type} {enc : TypeId × Value → H} {W : World} {fuel : Nat} {v0 : Value} {y : DataW H × List MemPlace} (hf : DataW.trod enc Try.prog W 0 (fun _ => true) true fuel 39 [v0] = some y) :
    ∃ rs, TlsR W v0 rs ∧ (∀ r ∈ rs, TyB r) := by
  rcases Go.Deep.open_slice Try.underlying39 hf with ⟨e1, _⟩ | ⟨a, len, cap, m, n', D, Pl, e1, _, hl, hm, hmm, rfl, hel⟩
  · simp only [List.cons.injEq, and_true] at e1
    rw [e1]
    exact ⟨[], TlsR.nil _, by simp⟩
  · simp only [List.cons.injEq, and_true] at e1
    rw [e1]
    simp only [if_true] at hmm
    subst hmm
    have hc1 : Try.prog.cellsOf 45 = 3 := by kernel_rfl
    rw [hc1] at hel
    have each : ∀ i, i < len → ∃ g : TyG, (∀ j u, (encT g)[j]? = some u → W.cell? ⟨a.block, a.off + i * 3 + j, none⟩ = some u) ∧ a.spot = none ∧ a.block < W.heap.size ∧ InR W g.vs g.t.sent ∧ TyB g.t := by
      intro i hi
      obtain ⟨cs', hc, ht⟩ := hel i (by omega)
      obtain ⟨_, hcl, hcell⟩ := World.cells?_some hc
      obtain ⟨r, vs, rfl, h1, h3⟩ := open_tally (by omega) ht
      obtain ⟨sa, sc, rfl⟩ := h1.shape
      have hsp : a.spot = none := by
        obtain ⟨cs0, hc0, ht0⟩ := hel 0 (by omega)
        obtain ⟨_, hl0, hcell0⟩ := World.cells?_some hc0
        have q0 := hcell0 0 (by omega)
        have e0 : (a.add (0 * 3)).add 0 = a := by simp [Addr.add]
        rw [e0] at q0
        rw [List.getElem?_eq_getElem (by omega)] at q0
        exact World.cell?_spot q0
      obtain ⟨ab, ao, asp⟩ := a
      simp only at hsp
      subst hsp
      have hall : ∀ j u, (encT ⟨r, sa, sc⟩)[j]? = some u → W.cell? ⟨ab, ao + i * 3 + j, none⟩ = some u := fun j u hu => by
        have hj : j < 3 := by have := (List.getElem?_eq_some_iff.1 hu).1; rwa [encT_len] at this
        have k0 := hcell j (by omega)
        rw [addr_addrM, addr_plus] at k0
        rw [Nat.add_assoc, k0]
        exact hu
      exact ⟨⟨r, sa, sc⟩, hall, rfl, World.block_lt_of_cell? W ⟨ab, ao + i * 3 + 0, none⟩ (hall 0 _ rfl), h1, h3⟩
    obtain ⟨F, hF⟩ := @Go.Deep.choose_lt TyG ⟨⟨⟨[], 0, 0⟩, none, 0⟩⟩ len _ each
    have hfl : ((List.range len).map F).length = len := by simp
    refine ⟨((List.range len).map F).map TyG.t, ⟨(List.range len).map F, rfl, ⟨some a, m, by rw [hfl], by rw [hfl]; exact hl, hm, fun e => (by cases e), fun hn => ?_⟩, fun g hg => ?_⟩, fun r hr => ?_⟩
    · rw [hfl] at hn
      obtain ⟨_, hsp, hlt, _⟩ := hF 0 hn
      refine ⟨a.block, a.off, by obtain ⟨ab, ao, asp⟩ := a; simp only at hsp; subst hsp; rfl, hlt, fun i x hx => ?_⟩
      rw [List.getElem?_map] at hx
      rcases Nat.lt_or_ge i len with h' | h'
      · rw [List.getElem?_range h'] at hx
        simp at hx
        subst hx
        exact (hF i h').1
      · rw [List.getElem?_eq_none (by simpa using h')] at hx; cases hx
    · obtain ⟨i, hi, rfl⟩ := List.mem_map.1 hg
      exact (hF i (by simpa using hi)).2.2.2.1
    · rw [List.map_map] at hr
      obtain ⟨i, hi, rfl⟩ := List.mem_map.1 hr
      exact (hF i (by simpa using hi)).2.2.2.2

theorem open_tallies {H : Type} {enc : TypeId × Value → H} {W : World} {v0 : Value} {d0 : DataW H} {p0 : List MemPlace} (hv : ∃ a len cap, v0 = .slice a len cap) (h0 : DataW.Trod enc Try.prog W 0 (fun _ => true) true 39 v0 d0 p0) :
    ∃ ts, TlsR W v0 ts ∧ ∀ t ∈ ts, TyB t := by
  obtain ⟨a, len, cap, rfl⟩ := hv
  obtain ⟨fuel, hf⟩ := h0
  have hf' : DataW.trod enc Try.prog W 0 (fun _ => true) true fuel 39 [.slice a len cap] = some (d0, p0) := hf
  exact open_tallies0 hf'
theorem open_intsO {H : Type} {enc : TypeId × Value → H} {W : World} {v0 : Value} {d0 : DataW H} {p0 : List MemPlace} (hv : ∃ a len cap, v0 = .slice a len cap) (h0 : DataW.Trod enc Try.prog W 0 (fun _ => true) true 30 v0 d0 p0) :
    ∃ xs, InR W v0 xs ∧ ∀ x ∈ xs, i64B x := by
  obtain ⟨a, len, cap, rfl⟩ := hv
  obtain ⟨fuel, hf⟩ := h0
  have hf' : DataW.trod enc Try.prog W 0 (fun _ => true) true fuel 30 [.slice a len cap] = some (d0, p0) := hf
  exact open_intsT hf'

theorem setRow_keptN (w : World) (g : Nat) (cur : Array Value) : Kept (fun k => k = g) w (w.setRow g cur) := by
  refine ⟨rfl, rfl, rfl, by simp [World.setRow], fun k _ hk => ?_⟩
  unfold World.setRow
  simp only [Array.getElem?_modify]
  rw [if_neg (fun e => hk e.symm)]
theorem heap_setRowN {w : World} {g : Nat} {cur c2 : Array Value} {t : TypeId} {fr : Nat × Nat} (h : w.heap[g]? = some (.cells cur t fr)) : (w.setRow g c2).heap[g]? = some (.cells c2 t fr) := by
  simp only [World.setRow, Array.getElem?_modify, if_true]
  rw [h]
  rfl
/-- copy(t[p+1:], t[p:]) in a row of the call's own: from p on all is moved up by one. -/
theorem copy_shift {w : World} {base g n cap p o d s : Nat} {xs : List Int} (ty : TypeId) (h : w.ownsRow base 3 1 (.slice (some ⟨g, 0, none⟩) n cap) n (xs.flatMap encI)) (hx : xs.length = n) (hp : p < n) (ho : o = p + 1 ∨ (o ≤ p ∧ p + 1 = n)) :
    ∃ w', (Builtin.copy_ #[30, 30] ty #[.slice (some ⟨g, o, none⟩) (n - (p + 1)) d, .slice (some ⟨g, p, none⟩) (n - p) s]).run Try.prog w = .ok (goInt ((n - (p + 1) : Nat) : Int)) w' ∧ w'.ownsRow base 3 1 (.slice (some ⟨g, 0, none⟩) n cap) n ((xs.take (p + 1) ++ (xs.drop p).take (n - (p + 1))).flatMap encI) ∧ Kept (fun k => k = g) w w' := by
  obtain ⟨i0, hi, hz0, hz1, hz2⟩ := info_parts Try.info3
  have hdc := h
  rcases h.2 with ⟨hv, _⟩ | ⟨g', cap', cur, hv, hg, hgg, hc, hm, hcur, htk⟩
  · cases hv
  injection hv with h1 h2 h3
  injection h1 with h1
  injection h1 with h1
  subst h1 h3
  have hcl : ((xs.drop p).take (n - (p + 1))).length = n - (p + 1) := by rw [List.length_take, List.length_drop]; omega
  have hcs : (((xs.drop p).take (n - (p + 1))).flatMap encI).length = n - (p + 1) := by rw [flat_len encI_len, hcl, Nat.mul_one]
  have hsz : n ≤ cur.size := by
    rw [hcur]
    omega
  have hcell : ∀ j v, (((xs.drop p).take (n - (p + 1))).flatMap encI)[j]? = some v → w.cell? ((⟨g, p, none⟩ : Addr).add j) = some v := fun j v hj => by
    have hjl : j < n - (p + 1) := by rw [← hcs]; exact (List.getElem?_eq_some_iff.1 hj).1
    have h4 := hdc.cells rfl (p + j) v (by
      rw [flatI, List.getElem?_map] at hj ⊢
      rw [List.getElem?_take_of_lt hjl, List.getElem?_drop] at hj
      exact hj)
    rw [addr_add] at h4
    have ea : (⟨g, p, none⟩ : Addr).add j = ⟨g, p + j, none⟩ := by unfold Addr.add; split <;> simp_all
    rw [ea]
    exact h4
  have hrun := run_copy_row (P := Try.prog) w 30 30 ty 3 g o (n - (p + 1)) d ⟨g, p, none⟩ (n - p) s cur _ (((xs.drop p).take (n - (p + 1))).flatMap encI) Try.underlying30 (by rw [hi]; simp [hz1]) hgg (by rw [hcs]; show _ = min _ _; omega) hcell (by rw [hcs]; rcases ho with ho | ho <;> omega) (by
    intro v hv2
    obtain ⟨x, _, hx2⟩ := List.mem_flatMap.1 hv2
    simp [encI] at hx2
    subst hx2
    rfl)
  rw [hcs] at hrun
  refine ⟨_, hrun, ?_, setRow_keptN _ _ _⟩
  have hlen2 : (xs.take (p + 1) ++ (xs.drop p).take (n - (p + 1))).length = n := by rw [List.length_append, hcl, List.length_take]; omega
  have htk2 : cur.toList.take n = xs.map (Value.int .i64) := by
    rw [flatI] at htk
    have e : n * 1 = n := Nat.mul_one n
    rw [e] at htk
    exact htk
  refine ⟨by rw [flat_len encI_len, hlen2], .inr ⟨g, cap, _, rfl, hg, heap_setRowN hgg, hc, hm, ?_, ?_⟩⟩
  · simp only [List.size_toArray, List.length_append, List.length_take, List.length_drop, Array.length_toList, hcs]
    rcases ho with ho | ho <;> omega
  · rcases ho with ho | ⟨ho, ho2⟩
    · subst ho
      rw [Nat.mul_one, flatI, flatI, List.map_append]
      have e1 : cur.toList.take (p + 1) = (xs.take (p + 1)).map (Value.int .i64) := by
        rw [List.map_take, ← htk2, List.take_take, Nat.min_eq_left (by omega)]
      rw [e1]
      have e3 : ((xs.take (p + 1)).map (Value.int .i64) ++ ((xs.drop p).take (n - (p + 1))).map (Value.int .i64)).length = n := by rw [← List.map_append, List.length_map, hlen2]
      have e4 : List.take n ((xs.take (p + 1)).map (Value.int .i64) ++ ((xs.drop p).take (n - (p + 1))).map (Value.int .i64) ++ cur.toList.drop (p + 1 + (n - (p + 1)))) = (xs.take (p + 1)).map (Value.int .i64) ++ ((xs.drop p).take (n - (p + 1))).map (Value.int .i64) := by
        rw [List.take_append_of_le_length (by omega), List.take_of_length_le (by omega)]
      exact e4
    · have e0 : n - (p + 1) = 0 := by omega
      rw [e0, List.take_zero, List.append_nil, Nat.mul_one]
      simp only [List.flatMap_nil, List.append_nil, Nat.add_zero, List.take_append_drop]
      rw [htk2, flatI, List.take_of_length_le (by omega)]
end Go.Proofs.Ytpikfiegmnmbmaa
