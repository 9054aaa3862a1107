/-
  A graph that came in, and a slice of structs of three numbers: what their data say of memory.
  Structs of two numbers, and slices of them, that came in: what their data say of memory.
  Jobs and states that came in: what their data say of memory.
  append on rows of edges.
  Two boxes of graphs, the second at work.
  Contract of the law's own graphs: a copy of a graph.
  Contract of the law's jobs: a copy.
  Contracts of begin and hear of Strong.
  A job behind its interface: which function each method is, and what it answers.
  Contracts of prog's valueMayBe and mailMayBe.
  Contracts of prog.Wake and prog.Say.
  Contract of prog.Say.
-/
import Derived.Test.YtbmkgnlfccigpaaRowMem
import Derived.Deep.Slices
import Derived.Deep.Strs
import Derived.SizedLaws
import Derived.ShutString
import Derived.ChangeOld
import Derived.Below
import Derived.Test.YtbmkgnlfccigpaaTwoMem
import Derived.Test.YtbmkgnlfccigpaaStaMem
import Derived.Test.YtbmkgnlfccigpaaRowNew
import Derived.Test.YtbmkgnlfccigpaaCheckFace
import Derived.Test.YtbmkgnlfccigpaaBoxMem
import Derived.Deep.CutRange
import Derived.Test.YtbmkgnlfccigpaaProgLower
import Derived.Test.YtbmkgnlfccigpaaRegionCall
import Derived.Shelf.Abstract
import Derived.Lib.QuietBelow
import Derived.Lib.Hide

namespace Go.Proofs.Ytbmkgnlfccigpaa
set_option maxRecDepth 100000
open Go.ChangeShapes Go.WideShapes Go.ChangeAt Go.RowKit

theorem addr_addr (a : Addr) (i j : Nat) : (a.add i).add j = a.add (i + j) := Go.Deep.add_add a i j
theorem cells3 : Try.prog.cellsOf 3 = 1 := by kernel_rfl

/-- One struct of three numbers, opened. -/
theorem open_three {H : Type} {enc : TypeId × Value → H} {w : World} {n : Nat} {t : TypeId} {f0 f1 f2 : Field} (ht : Try.prog.underlying t = some (.struct #[f0, f1, f2])) (h3 : Try.prog.cellsOf t = 3) (t0 : f0.type = 3) (t1 : f1.type = 3) (t2 : f2.type = 3) (o0 : f0.offset = 0) (o1 : f1.offset = 1) (o2 : f2.offset = 2)
    {cs : List Value} {x : DataW H × List MemPlace} (h : DataW.trod enc Try.prog w 0 (fun _ => true) true n t cs = some x) :
    ∃ e : Ed, cs = encE e ∧ edB e := by
  obtain ⟨y0, y1, y2, m, rfl, hl, h0, h1, h2⟩ := Go.Deep.trod_struct3 ht h
  rw [h3] at hl
  rw [t0, o0] at h0
  rw [t1, o1] at h1
  rw [t2, o2] at h2
  match cs, hl with
  | [c0, c1, c2], _ =>
    simp only [cells3, List.drop_zero, List.drop_succ_cons, List.take_succ_cons, List.take_zero] at h0 h1 h2
    obtain ⟨i0, e0, _, hi0⟩ := DataW.trod_int Try.underlying3 h0
    obtain ⟨i1, e1, _, hi1⟩ := DataW.trod_int Try.underlying3 h1
    obtain ⟨i2, e2, _, hi2⟩ := DataW.trod_int Try.underlying3 h2
    simp only [List.cons.injEq, and_true] at e0 e1 e2
    subst e0 e1 e2
    exact ⟨(i0, i1, i2), rfl, bounds_i64 hi0, bounds_i64 hi1, bounds_i64 hi2⟩

set_option maxHeartbeats 400000 in
/-- A slice of structs of three numbers. -/
theorem open_threes {H : Type} {enc : TypeId × Value → H} {W : World} {t e : TypeId} {f0 f1 f2 : Field} (hu : Try.prog.underlying t = some (.slice e)) (ht : Try.prog.underlying e = some (.struct #[f0, f1, f2])) (h3 : Try.prog.cellsOf e = 3) (t0 : f0.type = 3) (t1 : f1.type = 3) (t2 : f2.type = 3) (o0 : f0.offset = 0) (o1 : f1.offset = 1) (o2 : f2.offset = 2) (hby : Try.prog.bytesOf e = 24)
    {fuel : Nat} {v : Value} {y : DataW H × List MemPlace} (hf : DataW.trod enc Try.prog W 0 (fun _ => true) true fuel t [v] = some y) (hs : ∀ m ∈ y.1.weights Try.prog t, m ≤ reachBytes) :
    ∃ es, EdR W v es ∧ (∀ x ∈ es, edB x) ∧ es.length * 24 ≤ 140737488351232 := by
  rcases Go.Deep.open_slice hu hf with ⟨e1, _⟩ | ⟨a, len, cap, m, n', D, Pl, e1, _, hl, hm, hmm, rfl, hel⟩
  · simp only [List.cons.injEq, and_true] at e1
    subst e1
    exact ⟨[], RowK.nil _ _ _, by simp, by simp⟩
  · simp only [List.cons.injEq, and_true] at e1
    subst e1
    simp only [if_true] at hmm
    subst hmm
    have hw : (((List.range len).map D).length + ((List.range (m - len)).map fun j => D (len + j)).length) * Try.prog.bytesOf e ≤ reachBytes := by
      refine hs _ ?_
      simp [DataW.weights, hu]
    rw [hby] at hw
    simp only [List.length_map, List.length_range, reachBytes] at hw
    rw [h3] at hel
    have each : ∀ i, i < len → ∃ y : Ed, (∀ j u, (encE y)[j]? = some u → W.cell? ⟨a.block, a.off + i * 3 + j, none⟩ = some u) ∧ a.spot = none ∧ a.block < W.heap.size ∧ edB y := by
      intro i hi
      obtain ⟨cs', hc, htr⟩ := hel i (by omega)
      obtain ⟨x, rfl, hb⟩ := open_three ht h3 t0 t1 t2 o0 o1 o2 htr
      obtain ⟨_, _, hcell⟩ := World.cells?_some hc
      have hsp : a.spot = none := by
        obtain ⟨cs0, hc0, ht0⟩ := hel 0 (by omega)
        obtain ⟨_, hl0, hcell0⟩ := World.cells?_some hc0
        have q0 := hcell0 0 (by omega)
        have e0 : (a.add (0 * 3)).add 0 = a := by simp [Addr.add]
        rw [e0] at q0
        rw [List.getElem?_eq_getElem (by omega)] at q0
        exact World.cell?_spot q0
      obtain ⟨ab, ao, asp⟩ := a
      simp only at hsp
      subst hsp
      have hadd : ∀ t, (⟨ab, ao, none⟩ : Addr).add t = ⟨ab, ao + t, none⟩ := fun t => by unfold Addr.add; split <;> simp_all
      have hk : ∀ j, j < 3 → W.cell? ⟨ab, ao + i * 3 + j, none⟩ = (encE x)[j]? := fun j hj => by
        have := hcell j hj
        rw [addr_addr, hadd, ← Nat.add_assoc] at this
        exact this
      refine ⟨x, fun j u hju => ?_, rfl, World.block_lt_of_cell? W ⟨ab, ao + i * 3 + 0, none⟩ (hk 0 (by omega)), hb⟩
      have hj : j < 3 := by
        rcases Nat.lt_or_ge j 3 with h' | h'
        · exact h'
        · rw [List.getElem?_eq_none h'] at hju; cases hju
      rw [hk j hj]; exact hju
    obtain ⟨F, hF⟩ := @Go.Deep.choose_lt Ed ⟨(0, 0, 0)⟩ len _ each
    have hfl : ((List.range len).map F).length = len := by simp
    refine ⟨(List.range len).map F, ⟨some a, m, by rw [hfl], by rw [hfl]; exact hl, hm, fun e => (by cases e), fun hn => ?_⟩, fun x hx => ?_, by rw [hfl]; omega⟩
    · rw [hfl] at hn
      obtain ⟨_, hsp, hlt, _⟩ := hF 0 hn
      refine ⟨a.block, a.off, by obtain ⟨ab, ao, asp⟩ := a; simp only at hsp; subst hsp; rfl, hlt, fun i x hx j u hju => ?_⟩
      rw [List.getElem?_map] at hx
      rcases Nat.lt_or_ge i len with h' | h'
      · rw [List.getElem?_range h'] at hx
        simp at hx
        subst hx
        exact (hF i h').1 j u hju
      · rw [List.getElem?_eq_none (by simpa using h')] at hx; cases hx
    · obtain ⟨i, hi, rfl⟩ := List.mem_map.1 hx
      exact (hF i (by simpa using hi)).2.2.2

theorem open_edges {H : Type} {enc : TypeId × Value → H} {W : World} {fuel : Nat} {v : Value} {y : DataW H × List MemPlace} (hf : DataW.trod enc Try.prog W 0 (fun _ => true) true fuel 22 [v] = some y) (hs : ∀ m ∈ y.1.weights Try.prog 22, m ≤ reachBytes) :
    ∃ es, EdR W v es ∧ (∀ x ∈ es, edB x) ∧ es.length * 24 ≤ 140737488351232 :=
  open_threes Try.underlying22 Try.underlying65 (by kernel_rfl) rfl rfl rfl rfl rfl rfl (by kernel_rfl) hf hs

set_option maxHeartbeats 400000 in
theorem open_graph {H : Type} {enc : TypeId × Value → H} {W : World} {v0 : Value} {d0 : DataW H} {p0 : List MemPlace} (hv : ∃ cs, v0 = .agg cs ∧ cs.size = Try.prog.cellsOf 24) (h0 : DataW.Trod enc Try.prog W 0 (fun _ => true) true 24 v0 d0 p0)
    (hs : ∀ m ∈ d0.weights Try.prog 24, m ≤ reachBytes) : ∃ n v es, v0 = .agg #[.int .i64 n, v] ∧ i64B n ∧ EdR W v es ∧ (∀ x ∈ es, edB x) ∧ es.length * 24 ≤ 140737488351232 := by
  obtain ⟨cs, rfl, hcs⟩ := hv
  have hc1 : Try.prog.cellsOf 24 = 2 := by kernel_rfl
  have hc2 : Try.prog.cellsOf 22 = 1 := by kernel_rfl
  rw [hc1] at hcs
  obtain ⟨u, v, rfl⟩ : ∃ u v, cs = #[u, v] := by
    obtain ⟨l⟩ := cs
    match l, hcs with
    | [u, v], _ => exact ⟨u, v, rfl⟩
  obtain ⟨fuel, hf⟩ := h0
  obtain ⟨xs, n, _, hx, _, hxl, hfld⟩ := DataW.trod_struct Try.underlying24 hf
  have h1 := hfld 0 _ rfl
  have h2 := hfld 1 _ rfl
  match xs, hxl with
  | [y0, y1], _ =>
    have e1 : ((Value.agg #[u, v]).cells.toList.drop 0).take (Try.prog.cellsOf 3) = [u] := by rw [cells3]; rfl
    have e2 : ((Value.agg #[u, v]).cells.toList.drop 1).take (Try.prog.cellsOf 22) = [v] := by rw [hc2]; rfl
    simp only [List.getElem?_cons_zero, List.getElem?_cons_succ] at h1 h2
    have h1' : DataW.trod enc Try.prog W 0 (fun _ => true) true n 3 [u] = some y0 := by rw [← e1]; exact h1
    have h2' : DataW.trod enc Try.prog W 0 (fun _ => true) true n 22 [v] = some y1 := by rw [← e2]; exact h2
    obtain ⟨i, e0, _, hi⟩ := DataW.trod_int Try.underlying3 h1'
    simp only [List.cons.injEq, and_true] at e0
    subst e0
    simp only [Prod.mk.injEq] at hx
    obtain ⟨rfl, _⟩ := hx
    have hs2 : ∀ m ∈ y1.1.weights Try.prog 22, m ≤ reachBytes := fun m hm => hs m (by
      simp only [DataW.weights, Try.underlying24, List.map_cons, List.map_nil, DataW.weightsEach, List.mem_append]
      simp [hm])
    obtain ⟨es, hR, hB, hL⟩ := open_edges h2' hs2
    exact ⟨i, v, es, rfl, bounds_i64 hi, hR, hB, hL⟩
end Go.Proofs.Ytbmkgnlfccigpaa

namespace Go.Proofs.Ytbmkgnlfccigpaa
set_option maxRecDepth 100000
open Go.ChangeShapes Go.WideShapes Go.ChangeAt Go.RowKit

theorem addr_addrM (a : Addr) (i j : Nat) : (a.add i).add j = a.add (i + j) := Go.Deep.add_add a i j
theorem cells3M : Try.prog.cellsOf 3 = 1 := by kernel_rfl

/-- One struct of two numbers, opened. -/
theorem open_two {H : Type} {enc : TypeId × Value → H} {w : World} {n : Nat} {t : TypeId} {f0 f1 : Field} (ht : Try.prog.underlying t = some (.struct #[f0, f1])) (hsz2 : Try.prog.cellsOf t = 2) (t0 : f0.type = 3) (t1 : f1.type = 3) (o0 : f0.offset = 0) (o1 : f1.offset = 1)
    {cs : List Value} {x : DataW H × List MemPlace} (h : DataW.trod enc Try.prog w 0 (fun _ => true) true n t cs = some x) :
    ∃ e : Ml, cs = encM e ∧ mlB e := by
  obtain ⟨y0, y1, m, rfl, hl, h0, h1⟩ := trod_struct2 ht h
  rw [hsz2] at hl
  rw [t0, o0] at h0
  rw [t1, o1] at h1
  match cs, hl with
  | [c0, c1], _ =>
    simp only [cells3M, List.drop_zero, List.drop_succ_cons, List.take_succ_cons, List.take_zero] at h0 h1
    obtain ⟨i0, e0, _, hi0⟩ := DataW.trod_int Try.underlying3 h0
    obtain ⟨i1, e1, _, hi1⟩ := DataW.trod_int Try.underlying3 h1
    simp only [List.cons.injEq, and_true] at e0 e1
    subst e0 e1
    exact ⟨(i0, i1), rfl, bounds_i64 hi0, bounds_i64 hi1⟩

set_option maxHeartbeats 400000 in
/-- A slice of structs of two numbers. -/
theorem open_twos {H : Type} {enc : TypeId × Value → H} {W : World} {t e : TypeId} {f0 f1 : Field} (hu : Try.prog.underlying t = some (.slice e)) (ht : Try.prog.underlying e = some (.struct #[f0, f1])) (hsz2 : Try.prog.cellsOf e = 2) (t0 : f0.type = 3) (t1 : f1.type = 3) (o0 : f0.offset = 0) (o1 : f1.offset = 1) (hby : Try.prog.bytesOf e = 16)
    {fuel : Nat} {v : Value} {y : DataW H × List MemPlace} (hf : DataW.trod enc Try.prog W 0 (fun _ => true) true fuel t [v] = some y) (hs : ∀ m ∈ y.1.weights Try.prog t, m ≤ reachBytes) :
    ∃ es, MlR W v es ∧ (∀ x ∈ es, mlB x) ∧ es.length * 16 ≤ 140737488351232 := by
  rcases Go.Deep.open_slice hu hf with ⟨e1, _⟩ | ⟨a, len, cap, m, n', D, Pl, e1, _, hl, hm, hmm, rfl, hel⟩
  · simp only [List.cons.injEq, and_true] at e1
    subst e1
    exact ⟨[], RowK.nil _ _ _, by simp, by simp⟩
  · simp only [List.cons.injEq, and_true] at e1
    subst e1
    simp only [if_true] at hmm
    subst hmm
    have hw : (((List.range len).map D).length + ((List.range (m - len)).map fun j => D (len + j)).length) * Try.prog.bytesOf e ≤ reachBytes := by
      refine hs _ ?_
      simp [DataW.weights, hu]
    rw [hby] at hw
    simp only [List.length_map, List.length_range, reachBytes] at hw
    rw [hsz2] at hel
    have each : ∀ i, i < len → ∃ y : Ml, (∀ j u, (encM y)[j]? = some u → W.cell? ⟨a.block, a.off + i * 2 + j, none⟩ = some u) ∧ a.spot = none ∧ a.block < W.heap.size ∧ mlB y := by
      intro i hi
      obtain ⟨cs', hc, htr⟩ := hel i (by omega)
      obtain ⟨x, rfl, hb⟩ := open_two ht hsz2 t0 t1 o0 o1 htr
      obtain ⟨_, _, hcell⟩ := World.cells?_some hc
      have hsp : a.spot = none := by
        obtain ⟨cs0, hc0, ht0⟩ := hel 0 (by omega)
        obtain ⟨_, hl0, hcell0⟩ := World.cells?_some hc0
        have q0 := hcell0 0 (by omega)
        have e0 : (a.add (0 * 2)).add 0 = a := by simp [Addr.add]
        rw [e0] at q0
        rw [List.getElem?_eq_getElem (by omega)] at q0
        exact World.cell?_spot q0
      obtain ⟨ab, ao, asp⟩ := a
      simp only at hsp
      subst hsp
      have hadd : ∀ t, (⟨ab, ao, none⟩ : Addr).add t = ⟨ab, ao + t, none⟩ := fun t => by unfold Addr.add; split <;> simp_all
      have hk : ∀ j, j < 2 → W.cell? ⟨ab, ao + i * 2 + j, none⟩ = (encM x)[j]? := fun j hj => by
        have := hcell j hj
        rw [addr_addrM, hadd, ← Nat.add_assoc] at this
        exact this
      refine ⟨x, fun j u hju => ?_, rfl, World.block_lt_of_cell? W ⟨ab, ao + i * 2 + 0, none⟩ (hk 0 (by omega)), hb⟩
      have hj : j < 2 := by
        rcases Nat.lt_or_ge j 2 with h' | h'
        · exact h'
        · rw [List.getElem?_eq_none h'] at hju; cases hju
      rw [hk j hj]; exact hju
    obtain ⟨F, hF⟩ := @Go.Deep.choose_lt Ml ⟨(0, 0)⟩ len _ each
    have hfl : ((List.range len).map F).length = len := by simp
    refine ⟨(List.range len).map F, ⟨some a, m, by rw [hfl], by rw [hfl]; exact hl, hm, fun e => (by cases e), fun hn => ?_⟩, fun x hx => ?_, by rw [hfl]; omega⟩
    · rw [hfl] at hn
      obtain ⟨_, hsp, hlt, _⟩ := hF 0 hn
      refine ⟨a.block, a.off, by obtain ⟨ab, ao, asp⟩ := a; simp only at hsp; subst hsp; rfl, hlt, fun i x hx j u hju => ?_⟩
      rw [List.getElem?_map] at hx
      rcases Nat.lt_or_ge i len with h' | h'
      · rw [List.getElem?_range h'] at hx
        simp at hx
        subst hx
        exact (hF i h').1 j u hju
      · rw [List.getElem?_eq_none (by simpa using h')] at hx; cases hx
    · obtain ⟨i, hi, rfl⟩ := List.mem_map.1 hx
      exact (hF i (by simpa using hi)).2.2.2


theorem open_pair {H : Type} {enc : TypeId × Value → H} {W : World} {t : TypeId} {f0 f1 : Field} (ht : Try.prog.underlying t = some (.struct #[f0, f1])) (hsz2 : Try.prog.cellsOf t = 2) (t0 : f0.type = 3) (t1 : f1.type = 3) (o0 : f0.offset = 0) (o1 : f1.offset = 1)
    {v0 : Value} {d0 : DataW H} {p0 : List MemPlace} (hv : ∃ cs, v0 = .agg cs ∧ cs.size = Try.prog.cellsOf t) (h0 : DataW.Trod enc Try.prog W 0 (fun _ => true) true t v0 d0 p0) :
    ∃ e : Ml, v0 = .agg #[.int .i64 e.1, .int .i64 e.2] ∧ mlB e := by
  obtain ⟨cs, rfl, hcs⟩ := hv
  obtain ⟨fuel, hf⟩ := h0
  obtain ⟨e, he, hb⟩ := open_two ht hsz2 t0 t1 o0 o1 hf
  refine ⟨e, ?_, hb⟩
  obtain ⟨l⟩ := cs
  have : l = encM e := he
  rw [this]
  rfl
end Go.Proofs.Ytbmkgnlfccigpaa

namespace Go.Proofs.Ytbmkgnlfccigpaa
set_option maxRecDepth 100000
open Go.ChangeShapes Go.WideShapes Go.ChangeAt Go.RowKit

theorem open_intsF {H : Type} {enc : TypeId × Value → H} {W : World} {fuel : Nat} {v0 : Value} {y : DataW H × List MemPlace} (hf : DataW.trod enc Try.prog W 0 (fun _ => true) true fuel 43 [v0] = some y)
    (hs : ∀ m ∈ y.1.weights Try.prog 43, m ≤ reachBytes) : ∃ xs, InR W v0 xs ∧ (∀ x ∈ xs, i64B x) ∧ xs.length * 8 ≤ 140737488351232 := by
  have b3 : Try.prog.bytesOf 3 = 8 := by kernel_rfl
  rcases open_ints Try.underlying43 Try.underlying3 cells3M hf with ⟨e1, _⟩ | ⟨x, l, c, zs, e1, _, hle, hm, hz, hx, hcell, hwf⟩
  · simp only [List.cons.injEq, and_true] at e1
    subst e1
    exact ⟨[], RowK.nil _ _ _, by simp, by simp⟩
  · simp only [List.cons.injEq, and_true] at e1
    subst e1
    have hz2 : zs.length = c := by simpa using hz
    have el : (zs.take l).length = l := List.length_take_of_le (by omega)
    have hw : ((zs.take l).length + (zs.drop l).length) * Try.prog.bytesOf 3 ≤ reachBytes := by
      refine hs _ ?_
      rw [hx]
      simp [DataW.weights, Try.underlying43, lits]
    rw [b3] at hw
    simp only [List.length_take, List.length_drop, reachBytes] at hw
    refine ⟨zs.take l, ⟨some x, c, by rw [el], by rw [el]; omega, hm, fun e => (by cases e), fun hn => ?_⟩, fun y hy => bounds_i64 (hwf y (List.mem_of_mem_take hy)), by rw [el]; omega⟩
    rw [el] at hn
    have h0 := hcell 0 (by omega)
    obtain ⟨b, off, spot⟩ := x
    have hsp : spot = none := by simpa [Addr.add] using World.cell?_spot h0
    subst hsp
    refine ⟨b, off, rfl, World.block_lt_of_cell? W _ h0, fun i y hy j u hu => ?_⟩
    have hi : i < l := by have := (List.getElem?_eq_some_iff.1 hy).1; rw [el] at this; exact this
    have hc := hcell i (by omega)
    rw [addr_plus] at hc
    cases j with
    | zero =>
      simp [encI] at hu
      subst hu
      rw [Nat.mul_one, Nat.add_zero, hc, List.getD_eq_getElem?_getD]
      rw [List.getElem?_take_of_lt hi] at hy
      rw [hy]
      rfl
    | succ j => simp [encI] at hu



theorem weights_allI {H : Type} {P : Program} {e : TypeId} : ∀ {ds : List (DataW H)} {d : DataW H}, d ∈ ds → ∀ n ∈ d.weights P e, n ∈ DataW.weightsAll P e ds
  | d0 :: ds, d, hd, n, hn => by
    simp only [DataW.weightsAll, List.mem_append]
    rcases List.mem_cons.1 hd with rfl | hd
    · exact .inl hn
    · exact .inr (weights_allI hd n hn)

set_option maxHeartbeats 400000 in
/-- Lists of slices of numbers. -/
theorem open_listsI {H : Type} {enc : TypeId × Value → H} {W : World} {fuel : Nat} {v0 : Value} {y : DataW H × List MemPlace} (hf : DataW.trod enc Try.prog W 0 (fun _ => true) true fuel 28 [v0] = some y) (hs : ∀ m ∈ y.1.weights Try.prog 28, m ≤ reachBytes) :
    ∃ f, LiR W v0 f ∧ (∀ l ∈ f, (∀ x ∈ l, i64B x) ∧ l.length * 8 ≤ 140737488351232) ∧ f.length * 24 ≤ 140737488351232 := by
  rcases Go.Deep.open_slice Try.underlying28 hf with ⟨e1, _⟩ | ⟨a, len, cap, m, n', D, Pl, e1, _, hl, hm, hmm, rfl, hel⟩
  · simp only [List.cons.injEq, and_true] at e1
    rw [e1]
    exact ⟨[], LiR.nil _, by simp, by simp⟩
  · simp only [List.cons.injEq, and_true] at e1
    rw [e1]
    simp only [if_true] at hmm
    subst hmm
    have hc1 : Try.prog.cellsOf 43 = 1 := by kernel_rfl
    have hby : Try.prog.bytesOf 43 = 24 := by kernel_rfl
    have hw : (((List.range len).map D).length + ((List.range (m - len)).map fun j => D (len + j)).length) * Try.prog.bytesOf 43 ≤ reachBytes := by
      refine hs _ ?_
      simp [DataW.weights, Try.underlying28]
    rw [hby] at hw
    simp only [List.length_map, List.length_range, reachBytes] at hw
    rw [hc1] at hel
    have each : ∀ i, i < len → ∃ y : List Int, (∃ u, W.cell? ⟨a.block, a.off + i, none⟩ = some u ∧ InR W u y) ∧ a.spot = none ∧ a.block < W.heap.size ∧ (∀ x ∈ y, i64B x) ∧ y.length * 8 ≤ 140737488351232 := by
      intro i hi
      obtain ⟨cs', hc, ht⟩ := hel i (by omega)
      have hs3 : ∀ q ∈ (D i).weights Try.prog 43, q ≤ reachBytes := fun q hq => hs q (by
        simp only [DataW.weights, Try.underlying28, List.mem_cons, List.mem_append]
        exact .inr (.inl (weights_allI (List.mem_map.2 ⟨i, by simpa using hi, rfl⟩) q hq)))
      obtain ⟨_, hcl, hcell⟩ := World.cells?_some hc
      obtain ⟨u, rfl⟩ : ∃ u, cs' = [u] := by
        match cs', hcl with
        | [u], _ => exact ⟨u, rfl⟩
      obtain ⟨es, hR, hB, hL⟩ := open_intsF ht hs3
      have k0 := hcell 0 (by omega)
      rw [addr_addrM] at k0
      simp only [List.getElem?_cons_zero] at k0
      have hsp : a.spot = none := by
        obtain ⟨cs0, hc0, ht0⟩ := hel 0 (by omega)
        obtain ⟨_, hl0, hcell0⟩ := World.cells?_some hc0
        have q0 := hcell0 0 (by omega)
        have e0 : (a.add (0 * 1)).add 0 = a := by simp [Addr.add]
        rw [e0] at q0
        rw [List.getElem?_eq_getElem (by omega)] at q0
        exact World.cell?_spot q0
      obtain ⟨ab, ao, asp⟩ := a
      simp only at hsp
      subst hsp
      rw [addr_plus] at k0
      simp only [Nat.mul_one, Nat.add_zero] at k0
      exact ⟨es, ⟨u, k0, hR⟩, rfl, World.block_lt_of_cell? W ⟨ab, ao + i, none⟩ k0, hB, hL⟩
    obtain ⟨F, hF⟩ := @Go.Deep.choose_lt (List Int) ⟨[]⟩ len _ each
    have hfl : ((List.range len).map F).length = len := by simp
    refine ⟨(List.range len).map F, ⟨some a, m, by rw [hfl], by rw [hfl]; exact hl, hm, fun hn => ?_⟩, fun l hl2 => ?_, by rw [hfl]; omega⟩
    · rw [hfl] at hn
      obtain ⟨_, hsp, hlt, _⟩ := hF 0 hn
      refine ⟨a.block, a.off, by obtain ⟨ab, ao, asp⟩ := a; simp only at hsp; subst hsp; rfl, hlt, fun i x hx => ?_⟩
      rw [List.getElem?_map] at hx
      rcases Nat.lt_or_ge i len with h' | h'
      · rw [List.getElem?_range h'] at hx
        simp at hx
        subst hx
        exact (hF i h').1
      · rw [List.getElem?_eq_none (by simpa using h')] at hx; cases hx
    · obtain ⟨i, hi, rfl⟩ := List.mem_map.1 hl2
      exact (hF i (by simpa using hi)).2.2.2


set_option maxHeartbeats 400000 in
theorem open_job {H : Type} {enc : TypeId × Value → H} {W : World} {v0 : Value} {d0 : DataW H} {p0 : List MemPlace} (hv : ∃ cs, v0 = .agg cs ∧ cs.size = Try.prog.cellsOf 26) (h0 : DataW.Trod enc Try.prog W 0 (fun _ => true) true 26 v0 d0 p0)
    (hs : ∀ m ∈ d0.weights Try.prog 26, m ≤ reachBytes) : ∃ n v k s es, v0 = .agg #[.int .i64 n, v, .int .i64 k, .int .i64 s] ∧ (i64B n ∧ i64B k ∧ i64B s) ∧ EdR W v es ∧ (∀ x ∈ es, edB x) ∧ es.length * 24 ≤ 140737488351232 := by
  obtain ⟨cs, rfl, hcs⟩ := hv
  have hc1 : Try.prog.cellsOf 26 = 4 := by kernel_rfl
  have hc2 : Try.prog.cellsOf 24 = 2 := by kernel_rfl
  rw [hc1] at hcs
  obtain ⟨u, v, x, y, rfl⟩ : ∃ u v x y, cs = #[u, v, x, y] := by
    obtain ⟨l⟩ := cs
    match l, hcs with
    | [u, v, x, y], _ => exact ⟨u, v, x, y, rfl⟩
  obtain ⟨fuel, hf⟩ := h0
  obtain ⟨xs, n, _, hx, _, hxl, hfld⟩ := DataW.trod_struct Try.underlying26 hf
  have h1 := hfld 0 _ rfl
  have h2 := hfld 1 _ rfl
  have h3 := hfld 2 _ rfl
  match xs, hxl with
  | [y0, y1, y2], _ =>
    have e1 : ((Value.agg #[u, v, x, y]).cells.toList.drop 0).take (Try.prog.cellsOf 24) = [u, v] := by rw [hc2]; rfl
    have e2 : ((Value.agg #[u, v, x, y]).cells.toList.drop 2).take (Try.prog.cellsOf 3) = [x] := by rw [cells3]; rfl
    have e3 : ((Value.agg #[u, v, x, y]).cells.toList.drop 3).take (Try.prog.cellsOf 3) = [y] := by rw [cells3]; rfl
    simp only [List.getElem?_cons_zero, List.getElem?_cons_succ] at h1 h2 h3
    have h1' : DataW.trod enc Try.prog W 0 (fun _ => true) true n 24 [u, v] = some y0 := by rw [← e1]; exact h1
    have h2' : DataW.trod enc Try.prog W 0 (fun _ => true) true n 3 [x] = some y1 := by rw [← e2]; exact h2
    have h3' : DataW.trod enc Try.prog W 0 (fun _ => true) true n 3 [y] = some y2 := by rw [← e3]; exact h3
    obtain ⟨i, ei, _, hi⟩ := DataW.trod_int Try.underlying3 h2'
    simp only [List.cons.injEq, and_true] at ei
    subst ei
    obtain ⟨z, ez, _, hz⟩ := DataW.trod_int Try.underlying3 h3'
    simp only [List.cons.injEq, and_true] at ez
    subst ez
    simp only [Prod.mk.injEq] at hx
    obtain ⟨rfl, _⟩ := hx
    have hs2 : ∀ m ∈ y0.1.weights Try.prog 24, m ≤ reachBytes := fun m hm => hs m (by
      simp only [DataW.weights, Try.underlying26, List.map_cons, List.map_nil, DataW.weightsEach, List.mem_append]
      simp [hm])
    obtain ⟨a, b, es, eab, hN, hR, hB, hL⟩ := open_graph (v0 := .agg #[u, v]) (d0 := y0.1) (p0 := y0.2) ⟨_, rfl, by rw [hc2]; rfl⟩ ⟨n, h1'⟩ hs2
    injection eab with eab
    injection eab with eab
    simp only [List.cons.injEq, and_true] at eab
    obtain ⟨rfl, rfl⟩ := eab
    exact ⟨a, v, i, z, es, rfl, ⟨hN, bounds_i64 hi, bounds_i64 hz⟩, hR, hB, hL⟩

/-- How great a state's parts may be. -/
def StaB (T : StS) : Prop := ((∀ x ∈ T.vals, mlB x) ∧ T.vals.length * 16 ≤ 140737488351232) ∧ (∀ l ∈ T.mail, (∀ x ∈ l, i64B x) ∧ l.length * 8 ≤ 140737488351232) ∧ T.mail.length * 24 ≤ 140737488351232
set_option maxHeartbeats 400000 in
theorem open_state {H : Type} {enc : TypeId × Value → H} {W : World} {v0 : Value} {d0 : DataW H} {p0 : List MemPlace} (hv : ∃ cs, v0 = .agg cs ∧ cs.size = Try.prog.cellsOf 30) (h0 : DataW.Trod enc Try.prog W 0 (fun _ => true) true 30 v0 d0 p0)
    (hs : ∀ m ∈ d0.weights Try.prog 30, m ≤ reachBytes) : ∃ (T : StS) (vv vm : Value), v0 = .agg #[.int .i64 T.step, .int .i64 T.phase, .bool T.fresh, .bool T.done, vv, vm] ∧ (i64B T.step ∧ i64B T.phase) ∧ MlR W vv T.vals ∧ LiR W vm T.mail ∧ StaB T := by
  obtain ⟨cs, rfl, hcs⟩ := hv
  have hc1 : Try.prog.cellsOf 30 = 6 := by kernel_rfl
  have hc4 : Try.prog.cellsOf 4 = 1 := by kernel_rfl
  have hc5 : Try.prog.cellsOf 27 = 1 := by kernel_rfl
  have hc6 : Try.prog.cellsOf 28 = 1 := by kernel_rfl
  rw [hc1] at hcs
  obtain ⟨c0, c1, c2, c3, c4, c5, rfl⟩ : ∃ c0 c1 c2 c3 c4 c5, cs = #[c0, c1, c2, c3, c4, c5] := by
    obtain ⟨l⟩ := cs
    match l, hcs with
    | [c0, c1, c2, c3, c4, c5], _ => exact ⟨c0, c1, c2, c3, c4, c5, rfl⟩
  obtain ⟨fuel, hf⟩ := h0
  obtain ⟨xs, n, _, hx, _, hxl, hfld⟩ := DataW.trod_struct Try.underlying30 hf
  have h0 := hfld 0 _ rfl
  have h1 := hfld 1 _ rfl
  have h2 := hfld 2 _ rfl
  have h3 := hfld 3 _ rfl
  have h4 := hfld 4 _ rfl
  have h5 := hfld 5 _ rfl
  match xs, hxl with
  | [y0, y1, y2, y3, y4, y5], _ =>
    have e0 : ((Value.agg #[c0, c1, c2, c3, c4, c5]).cells.toList.drop 0).take (Try.prog.cellsOf 3) = [c0] := by rw [cells3]; rfl
    have e1 : ((Value.agg #[c0, c1, c2, c3, c4, c5]).cells.toList.drop 1).take (Try.prog.cellsOf 3) = [c1] := by rw [cells3]; rfl
    have e2 : ((Value.agg #[c0, c1, c2, c3, c4, c5]).cells.toList.drop 2).take (Try.prog.cellsOf 4) = [c2] := by rw [hc4]; rfl
    have e3 : ((Value.agg #[c0, c1, c2, c3, c4, c5]).cells.toList.drop 3).take (Try.prog.cellsOf 4) = [c3] := by rw [hc4]; rfl
    have e4 : ((Value.agg #[c0, c1, c2, c3, c4, c5]).cells.toList.drop 4).take (Try.prog.cellsOf 27) = [c4] := by rw [hc5]; rfl
    have e5 : ((Value.agg #[c0, c1, c2, c3, c4, c5]).cells.toList.drop 5).take (Try.prog.cellsOf 28) = [c5] := by rw [hc6]; rfl
    simp only [List.getElem?_cons_zero, List.getElem?_cons_succ] at h0 h1 h2 h3 h4 h5
    have h0' : DataW.trod enc Try.prog W 0 (fun _ => true) true n 3 [c0] = some y0 := by rw [← e0]; exact h0
    have h1' : DataW.trod enc Try.prog W 0 (fun _ => true) true n 3 [c1] = some y1 := by rw [← e1]; exact h1
    have h2' : DataW.trod enc Try.prog W 0 (fun _ => true) true n 4 [c2] = some y2 := by rw [← e2]; exact h2
    have h3' : DataW.trod enc Try.prog W 0 (fun _ => true) true n 4 [c3] = some y3 := by rw [← e3]; exact h3
    have h4' : DataW.trod enc Try.prog W 0 (fun _ => true) true n 27 [c4] = some y4 := by rw [← e4]; exact h4
    have h5' : DataW.trod enc Try.prog W 0 (fun _ => true) true n 28 [c5] = some y5 := by rw [← e5]; exact h5
    obtain ⟨i0, ei0, _, hi0⟩ := DataW.trod_int Try.underlying3 h0'
    obtain ⟨i1, ei1, _, hi1⟩ := DataW.trod_int Try.underlying3 h1'
    obtain ⟨b2, eb2, _⟩ := DataW.trod_bool Try.underlying4 h2'
    obtain ⟨b3, eb3, _⟩ := DataW.trod_bool Try.underlying4 h3'
    simp only [List.cons.injEq, and_true] at ei0 ei1 eb2 eb3
    subst ei0 ei1 eb2 eb3
    simp only [Prod.mk.injEq] at hx
    obtain ⟨rfl, _⟩ := hx
    have hs4 : ∀ m ∈ y4.1.weights Try.prog 27, m ≤ reachBytes := fun m hm => hs m (by
      simp only [DataW.weights, Try.underlying30, List.map_cons, List.map_nil, DataW.weightsEach, List.mem_append]
      simp [hm])
    have hs5 : ∀ m ∈ y5.1.weights Try.prog 28, m ≤ reachBytes := fun m hm => hs m (by
      simp only [DataW.weights, Try.underlying30, List.map_cons, List.map_nil, DataW.weightsEach, List.mem_append]
      simp [hm])
    obtain ⟨vs, hR, hB, hL⟩ := open_twos Try.underlying27 Try.underlying59 (by kernel_rfl) rfl rfl rfl rfl (by kernel_rfl) h4' hs4
    obtain ⟨ms, kR, kB, kL⟩ := open_listsI h5' hs5
    exact ⟨⟨i0, i1, b2, b3, vs, ms⟩, c4, c5, rfl, ⟨bounds_i64 hi0, bounds_i64 hi1⟩, hR, kR, ⟨hB, hL⟩, kB, kL⟩
end Go.Proofs.Ytbmkgnlfccigpaa

namespace Go.Proofs.Ytbmkgnlfccigpaa
set_option maxRecDepth 100000
open Go.ChangeShapes Go.WideShapes Go.ChangeAt Go.RowKit

def kE : ElK Ed := ⟨encE, 3, 22, 65, 24, .agg #[.int .i64 0, .int .i64 0, .int .i64 0], Try.underlying22, Try.infoE, rfl, by decide, encE_len, encE_one⟩
end Go.Proofs.Ytbmkgnlfccigpaa

namespace Go.Proofs.Ytbmkgnlfccigpaa
set_option maxRecDepth 100000
open Go.ChangeShapes Go.WideShapes Go.ChangeAt Go.RowKit

/-- Two boxes of graphs, the second at work: what is had of them in a later world. -/
theorem gbox2 {w w' : World} {o : Obj} {m : Int} {u : Value} (h : Below (w.heap.size + 2) ((w.alloc o).alloc (.cells #[.int .i64 m, u] 24)) w') :
    w'.cell? ⟨w.heap.size + 1, 0, none⟩ = some (.int .i64 m) ∧ w'.cell? ⟨w.heap.size + 1, 1, none⟩ = some u ∧ w'.frozen? ⟨w.heap.size + 1, 0, none⟩ = false ∧ w'.frozen? ⟨w.heap.size + 1, 1, none⟩ = false := by
  have hb := heap_second w o #[.int .i64 m, u] 24
  refine ⟨(h.cell (p := ⟨w.heap.size + 1, 0, none⟩) (Nat.lt_succ_self _)).trans ?_, (h.cell (p := ⟨w.heap.size + 1, 1, none⟩) (Nat.lt_succ_self _)).trans ?_, (h.frozen (p := ⟨w.heap.size + 1, 0, none⟩) (Nat.lt_succ_self _)).trans ?_, (h.frozen (p := ⟨w.heap.size + 1, 1, none⟩) (Nat.lt_succ_self _)).trans ?_⟩
  · rw [cell_of_row _ _ _ _ _ _ hb]; rfl
  · rw [cell_of_row _ _ _ _ _ _ hb]; rfl
  · simp only [World.frozen?, hb]; simp
  · simp only [World.frozen?, hb]; simp
theorem gbox1 {w w' : World} {n : Int} {v : Value} {o : Obj} (h : Below (w.heap.size + 2) ((w.alloc (.cells #[.int .i64 n, v] 24)).alloc o) w') : w'.cell? ⟨w.heap.size, 0, none⟩ = some (.int .i64 n) ∧ w'.cell? ⟨w.heap.size, 1, none⟩ = some v := by
  have h2 : Below (w.heap.size + 1) (w.alloc (.cells #[.int .i64 n, v] 24)) w' := ((Below.refl _ _).alloc (by simp) _).trans (h.mono (by omega))
  exact gbox_cells h2
/-- A graph's box behind two stores. -/
theorem gput_cells {w : World} {b : Nat} {m n : Int} {u v : Value} (h0 : w.cell? ⟨b, 0, none⟩ = some (.int .i64 m)) (h1 : w.cell? ⟨b, 1, none⟩ = some u) :
    ((w.setCell ⟨b, 0, none⟩ (.int .i64 n)).setCell ⟨b, 1, none⟩ v).cell? ⟨b, 0, none⟩ = some (.int .i64 n) ∧ ((w.setCell ⟨b, 0, none⟩ (.int .i64 n)).setCell ⟨b, 1, none⟩ v).cell? ⟨b, 1, none⟩ = some v := by
  have ne : (⟨b, 0, none⟩ : Addr) ≠ ⟨b, 1, none⟩ := fun e => by injection e with _ e; cases e
  have a0 : (w.setCell ⟨b, 0, none⟩ (.int .i64 n)).cell? ⟨b, 0, none⟩ = some (.int .i64 n) := World.cell?_setCell_same _ _ _ h0
  have a1 : (w.setCell ⟨b, 0, none⟩ (.int .i64 n)).cell? ⟨b, 1, none⟩ = some u := (World.cell?_setCell_other _ _ _ _ ne).trans h1
  exact ⟨(World.cell?_setCell_other _ _ _ _ (fun e => ne e.symm)).trans a0, World.cell?_setCell_same _ _ _ a1⟩
/-- A row of edges that a call owns outlasts stores below its base. -/
theorem RowK.setBelow {w : World} {base : Nat} {v : Value} {es : List Ed} (h : w.ownsRow base 65 3 v es.length (es.flatMap encE)) {p : Addr} (hp : p.block < base) (x : Value) : (w.setCell p x).ownsRow base 65 3 v es.length (es.flatMap encE) := ownsRow_setCell_below h hp x
end Go.Proofs.Ytbmkgnlfccigpaa

namespace Go.Proofs.Ytbmkgnlfccigpaa
set_option maxRecDepth 100000
open Go.ChangeShapes Go.WideShapes Go.ChangeAt Go.RowKit
attribute [local go_sem ↓] exec_append

set_option maxHeartbeats 1000000 in
theorem graphs_own (v : Value) (es : List Ed) (n : Int) (w : World) (h : EdR w v es) (hl : es.length * 24 ≤ 140737488351232) :
    Calls Try.prog 27 #[.agg #[.int .i64 n, v]] w fun e w' => ∃ v', e = .returned (.agg #[.int .i64 n, v']) ∧ w'.ownsRow w.heap.size 65 3 v' es.length (es.flatMap encE) ∧ Below w.heap.size w w' := by
  have HR : Hid (EdR w v es) := h
  obtain ⟨a, cap, rfl, hc, hm, _, _⟩ := h
  unfold maxLen at hm
  go_enter Try.func27, Try.ntmps27
  go_wp2_with fail
  have B0 : Below (w.heap.size + 2) ((w.alloc (.cells #[.int .i64 n, .slice a es.length cap] 24)).alloc (.cells #[.int .i64 0, .slice none 0 0] 24)) ((w.alloc (.cells #[.int .i64 n, .slice a es.length cap] 24)).alloc (.cells #[.int .i64 0, .slice none 0 0] 24)).drew := (Below.refl _ _).drew
  have hsz : ((w.alloc (.cells #[.int .i64 n, .slice a es.length cap] 24)).alloc (.cells #[.int .i64 0, .slice none 0 0] 24)).drew.heap.size = w.heap.size + 2 := by simp
  have hr0 := HR.out.below (below_two B0) (Nat.le_refl _)
  obtain ⟨v', w', a1, a2, a3, hown, hbel, _⟩ := app_rowK kE 22 (w.heap.size + 2) (.slice none 0 0) ([] : List Ed) (World.ownsRow_nil _ _ _ _) _ es hr0 (by simp [kE]; omega) (by unfold maxLen; simp; omega) (by rw [hsz]; omega)
  have BB : Hid (Below (w.heap.size + 2) ((w.alloc (.cells #[.int .i64 n, .slice a es.length cap] 24)).alloc (.cells #[.int .i64 0, .slice none 0 0] 24)) w') := B0.trans hbel
  have OW : Hid (w'.ownsRow (w.heap.size + 2) 65 3 v' es.length (es.flatMap encE)) := by show World.ownsRow _ _ _ _ _ _ _; simpa [kE] using hown
  obtain ⟨k0, k1, k2, k3⟩ := gbox2 BB.out
  obtain ⟨k4, k5⟩ := gbox1 BB.out
  obtain ⟨va, vn, vc, rfl⟩ : ∃ a n c, v' = .slice a n c := by obtain ⟨a, c, e, _⟩ := RowK.own encE_len OW.out; exact ⟨_, _, _, e⟩
  unfold kE at a1 a2 a3
  simp only at a1 a2 a3
  clear B0 hsz hr0 hown hbel
  go_region
  go_wp2_with fail
  obtain ⟨r0, r1⟩ := gput_cells (n := n) (v := .slice va vn vc) k0 k1
  have hb : ∀ (p : Addr), p.block = w.heap.size + 1 → p.block < w.heap.size + 2 := fun p hp => by omega
  refine bodyPost_ret (v := .agg #[.int .i64 n, .slice va vn vc]) (by simp [results, Try.results27, go_sem, r0, r1]) rfl ⟨_, rfl, ?_, ?_⟩
  · exact own_lower (RowK.setBelow (RowK.setBelow OW.out (hb _ rfl) _) (hb _ rfl) _) (by omega)
  · exact ((below_two BB.out).setCell (Nat.le_succ _) _).setCell (Nat.le_succ _) _
theorem graphs_any (v : Value) (es : List Ed) (n : Int) (w : World) (h : EdR w v es) (hl : es.length * 24 ≤ 140737488351232) :
    Calls Try.prog 27 #[.agg #[.int .i64 n, v]] w fun e w' => ∃ v', e = .returned (.agg #[.int .i64 n, v']) ∧ EdR w' v' es ∧ Below w.heap.size w w' :=
  (graphs_own v es n w h hl).mono fun _ _ ⟨v', h1, h2, h3⟩ => ⟨v', h1, RowK.own encE_len h2, h3⟩
end Go.Proofs.Ytbmkgnlfccigpaa

namespace Go.Proofs.Ytbmkgnlfccigpaa
set_option maxRecDepth 100000
open Go.ChangeShapes Go.WideShapes Go.ChangeAt Go.RowKit

set_option maxHeartbeats 1000000 in
set_option maxRecDepth 100000 in
theorem jobs_any (v : Value) (es : List Ed) (n k s : Int) (w : World) (h : EdR w v es) (hl : es.length * 24 ≤ 140737488351232) :
    Calls Try.prog 10 #[.agg #[.int .i64 n, v, .int .i64 k, .int .i64 s]] w fun e w' => ∃ v', e = .returned (.agg #[.int .i64 n, v', .int .i64 k, .int .i64 s]) ∧ EdR w' v' es ∧ Below w.heap.size w w' := by
  have HR : Hid (EdR w v es) := h
  obtain ⟨a, cap, rfl, _, _, _, _⟩ := h
  have CG : Hid (∀ X, EdR X (.slice a es.length cap) es → Calls Try.prog 27 #[.agg #[.int .i64 n, .slice a es.length cap]] X fun e w' => ∃ v', e = .returned (.agg #[.int .i64 n, v']) ∧ w'.ownsRow X.heap.size 65 3 v' es.length (es.flatMap encE) ∧ Below X.heap.size X w') := fun X hX => graphs_own _ es n X hX hl
  obtain ⟨W0, hW0⟩ : ∃ W0, W0 = (w.alloc (.cells #[.int .i64 n, .slice a es.length cap, .int .i64 k, .int .i64 s] 26)).alloc (.cells #[.int .i64 0, .slice none 0 0, .int .i64 0, .int .i64 0] 26) := ⟨_, rfl⟩
  obtain ⟨Q0, T0, B0, s1, s2⟩ := boxes2 w #[.int .i64 n, .slice a es.length cap, .int .i64 k, .int .i64 s] #[.int .i64 0, .slice none 0 0, .int .i64 0, .int .i64 0] 26 26 W0 hW0
  have BH : Hid (Below w.heap.size w W0) := B0
  have R0 : Hid (EdR W0 (.slice a es.length cap) es) := HR.out.below BH.out (Nat.le_refl _)
  have X0 : Hid (BX 26 W0 w.heap.size #[.int .i64 n, .slice a es.length cap, .int .i64 k, .int .i64 s]) := Q0
  have Z0 : Hid (BX 26 W0 (w.heap.size + 1) #[.int .i64 0, .slice none 0 0, .int .i64 0, .int .i64 0]) := T0
  obtain ⟨q0, q1, q2, q3⟩ := Q0.all4
  clear Q0 T0 B0
  go_enter Try.func10, Try.ntmps10
  go_upto_region 1 with fail
  rw [← hW0]
  clear hW0
  go_wp2_with fail
  refine (CG.out _ R0.out).mono ?_
  rintro e w1 ⟨v', rfl, hr, hb1⟩
  obtain ⟨b, nb, c, rfl⟩ : ∃ a n c, v' = .slice a n c := by
    rcases own_shapeK hr with ⟨e, _⟩ | ⟨g', c', e, _⟩
    · exact ⟨_, _, _, e⟩
    · exact ⟨_, _, _, e⟩
  have x1 := X0.out.below hb1 (by omega)
  have z1 := Z0.out.below hb1 (by omega)
  have g0 := x1.frozen 0
  have g1 := x1.frozen 1
  obtain ⟨p0, p1, p2, p3⟩ := x1.all4
  have ks : ∀ (X : World) (q i : Nat) (u : Value) (cs : Array Value), BX 26 X q cs → X.ownsRow W0.heap.size 65 3 (.slice b nb c) es.length (es.flatMap encE) → (X.setCell ⟨q, i, none⟩ u).ownsRow W0.heap.size 65 3 (.slice b nb c) es.length (es.flatMap encE) := fun X q i u cs hq ho => hq.own ho (by decide)
  have x2a := x1.set 0 (.int .i64 n)
  have x2 := x2a.set 1 (.slice b nb c)
  have o1 := ks _ _ 0 (.int .i64 n) _ x1 hr
  have o2 := ks _ _ 1 (.slice b nb c) _ x2a o1
  have kp : Kept (fun q => q = w.heap.size) w1 ((w1.setCell ⟨w.heap.size, 0, none⟩ (.int .i64 n)).setCell ⟨w.heap.size, 1, none⟩ (.slice b nb c)) := (Kept.box _ _ _ _).trans (Kept.box _ _ _ _)
  have z2 := z1.kept kp (by omega)
  have z3 := z2.set 0 (.int .i64 n)
  have z4 := z3.set 1 (.slice b nb c)
  have z5 := z4.set 2 (.int .i64 k)
  have z6 := z5.set 3 (.int .i64 s)
  have o3 := ks _ _ 0 (.int .i64 n) _ z2 o2
  have o4 := ks _ _ 1 (.slice b nb c) _ z3 o3
  have o5 := ks _ _ 2 (.int .i64 k) _ z4 o4
  have o6 := ks _ _ 3 (.int .i64 s) _ z5 o5
  have kq := ((((Kept.box ((w1.setCell ⟨w.heap.size, 0, none⟩ (.int .i64 n)).setCell ⟨w.heap.size, 1, none⟩ (.slice b nb c)) (w.heap.size + 1) 0 (.int .i64 n)).trans (Kept.box _ _ 1 (.slice b nb c))).trans (Kept.box _ _ 2 (.int .i64 k))).trans (Kept.box _ _ 3 (.int .i64 s)))
  have hs1 := hb1.size
  have ka := (kp.mono (T := fun q => q = w.heap.size ∨ q = w.heap.size + 1) fun q hq => .inl hq).trans (kq.mono fun q hq => .inr hq)
  have BE : Hid (Below w.heap.size w _) := (BH.out.trans (hb1.mono (by omega))).trans (ka.below (by omega) (fun q hq => by omega))
  have RE : Hid (EdR _ (.slice b nb c) es) := RowK.own encE_len o6
  have RX : Hid (BX 26 _ (w.heap.size + 1) #[.int .i64 n, .slice b nb c, .int .i64 k, .int .i64 s]) := z6
  obtain ⟨y0, y1, y2, y3⟩ := (show BX 26 _ w.heap.size #[.int .i64 n, .slice b nb c, .int .i64 k, .int .i64 s] from x2).all4
  obtain ⟨r0, r1, r2, r3⟩ := z2.all4
  have t0 := z2.frozen 0
  have t1 := z2.frozen 1
  have t2 := z2.frozen 2
  have t3 := z2.frozen 3
  clear ks x1 z1 x2a x2 o1 o2 kp z2 z3 z4 z5 z6 o3 o4 o5 o6 kq ka hb1
  clear hr
  go_wp2_with fail
  obtain ⟨m0, m1, m2, m3⟩ := RX.out.all4
  exact bodyPost_ret (v := .agg #[.int .i64 n, .slice b nb c, .int .i64 k, .int .i64 s]) (by simp [results, Try.results10, go_sem, m0, m1, m2, m3]) rfl ⟨_, rfl, RE.out, BE.out⟩
end Go.Proofs.Ytbmkgnlfccigpaa

namespace Go.Proofs.Ytbmkgnlfccigpaa
set_option maxRecDepth 100000
open Go.ChangeShapes Go.WideShapes Go.ChangeAt Go.RowKit

set_option maxRecDepth 100000 in
/-- A field without cells at the head of a box. -/
theorem part_zero {w : World} {q : Nat} {b : Value} (h : BX 140 w q #[b]) : (partAt ⟨q, 0, none⟩ 0 0).run Try.prog w = .ok ⟨q, 0, none⟩ w := by
  have hc : Try.prog.cellsOf 140 = 1 := by kernel_rfl
  have hb : byteOfCell Try.prog Try.prog.depth 140 0 = some 0 := by kernel_rfl
  have hs : w.shape? q = some (140, 1) := by unfold BX at h; simp [World.shape?, h]
  simp [partAt, byteOf, noView, viewAt, go_sem, hs, hc, hb]

set_option maxHeartbeats 2000000 in
set_option maxRecDepth 100000 in
theorem sBegin_any (b : Bool) (v s : Int) (x : Ml) (w : World) :
    Calls Try.prog 139 #[.agg #[.bool b], .int .i64 v, .int .i64 s, .agg #[.int .i64 x.1, .int .i64 x.2]] w (ValP w (beginF (true, b) v s x)) := by
  obtain ⟨W0, hW0⟩ : ∃ W0, W0 = ((w.alloc (.cells #[.bool b] 140)).alloc (.cells #[.int .i64 x.1, .int .i64 x.2] 59)).alloc (.cells #[.int .i64 0, .int .i64 0] 59) := ⟨_, rfl⟩
  obtain ⟨S0, Q0, T0, B0, s1, s2⟩ := boxes3 w #[.bool b] #[.int .i64 x.1, .int .i64 x.2] #[.int .i64 0, .int .i64 0] 140 59 59 W0 hW0
  have T1 : Hid (BX 59 W0 (w.heap.size + 2) #[.int .i64 0, .int .i64 0]) := T0
  have BH : Hid (Below w.heap.size w W0) := B0
  have z0 : W0.cell? ⟨w.heap.size, 0, none⟩ = some (.bool b) := S0.cell 0
  have pz := part_zero S0
  obtain ⟨q0, q1, _⟩ := Q0.all2
  clear S0 Q0 T0 B0
  by_cases hL : x.2 = -1
  · have d1 : (x.2 != -1) = false := by simpa using hL
    cases b
    · have HP : beginF (true, false) v s x = ((v, -1), true) := by unfold beginF; simp only; rw [if_pos hL]
      rw [HP]
      have HC : Hid (∀ X, Calls Try.prog 134 #[.agg #[], .int .i64 v, .int .i64 s, .agg #[.int .i64 x.1, .int .i64 x.2]] X (ValP X ((v, -1), true))) := fun X => wBegin_any v s x X
      unfold ValP at *
      clear hL HP
      go_enter Try.func139, Try.ntmps139
      go_upto_region 1 with fail
      rw [← hW0]
      clear hW0
      go_wp2_with fail
      refine (HC.out _).mono ?_
      rintro e w1 ⟨rfl, hb1⟩
      have B1 : Hid (Below w.heap.size w w1) := BH.out.trans (hb1.mono (by omega))
      have T2 : Hid (BX 59 w1 (w.heap.size + 2) #[.int .i64 0, .int .i64 0]) := T1.out.below hb1 (by omega)
      clear hb1 q0 q1 z0 pz
      obtain ⟨t0, t1, t2, t3⟩ := T2.out.all2
      have RX : Hid (BX 59 (put2 w1 (w.heap.size + 2) (.int .i64 v) (.int .i64 (-1))) (w.heap.size + 2) #[.int .i64 v, .int .i64 (-1)]) := T2.out.put2 _ _
      have HX : Hid (Below w.heap.size w (put2 w1 (w.heap.size + 2) (.int .i64 v) (.int .i64 (-1)))) := below_put2 B1.out (by omega) _ _
      go_wp2_with fail
      obtain ⟨r0, r1, _⟩ := RX.out.all2
      unfold put2 at r0 r1
      exact bodyPost_ret (v := .tuple #[.agg #[.int .i64 v, .int .i64 (-1)], .bool true]) (by simp [results, Try.results139, go_sem, r0, r1]) rfl ⟨rfl, HX.out⟩
    · have HP : beginF (true, true) v s x = labF x (x.1 == v) := by unfold beginF; simp only; rw [if_pos hL]
      rw [HP]
      have HC : Hid (∀ X, Calls Try.prog 142 #[.agg #[.int .i64 x.1, .int .i64 x.2], .bool (x.1 == v)] X (ValP X (labF x (x.1 == v)))) := fun X => labelled_any x _ X
      unfold ValP at *
      obtain ⟨t, ht⟩ : ∃ t, (x.1 == v) = t := ⟨_, rfl⟩
      rw [ht] at HC ⊢
      generalize labF x t = r at *
      clear hL HP
      go_enter Try.func139, Try.ntmps139
      go_upto_region 1 with fail
      rw [← hW0]
      clear hW0
      go_wp2_with fail
      refine (HC.out _).mono ?_
      rintro e w1 ⟨rfl, hb1⟩
      have B1 : Hid (Below w.heap.size w w1) := BH.out.trans (hb1.mono (by omega))
      have T2 : Hid (BX 59 w1 (w.heap.size + 2) #[.int .i64 0, .int .i64 0]) := T1.out.below hb1 (by omega)
      clear hb1 q0 q1 z0 pz
      obtain ⟨t0, t1, t2, t3⟩ := T2.out.all2
      have RX : Hid (BX 59 (put2 w1 (w.heap.size + 2) (.int .i64 r.1.1) (.int .i64 r.1.2)) (w.heap.size + 2) #[.int .i64 r.1.1, .int .i64 r.1.2]) := T2.out.put2 _ _
      have HX : Hid (Below w.heap.size w (put2 w1 (w.heap.size + 2) (.int .i64 r.1.1) (.int .i64 r.1.2))) := below_put2 B1.out (by omega) _ _
      go_wp2_with fail
      obtain ⟨r0, r1, _⟩ := RX.out.all2
      unfold put2 at r0 r1
      exact bodyPost_ret (v := .tuple #[.agg #[.int .i64 r.1.1, .int .i64 r.1.2], .bool r.2]) (by simp [results, Try.results139, go_sem, r0, r1]) rfl ⟨rfl, HX.out⟩
  · have d1 : (x.2 != -1) = true := by simpa using hL
    have HP : beginF (true, b) v s x = (x, false) := by unfold beginF; cases b <;> (simp only; rw [if_neg hL])
    rw [HP]
    unfold ValP
    clear hL HP
    have RX : Hid (BX 59 (put2 W0 (w.heap.size + 2) (.int .i64 x.1) (.int .i64 x.2)) (w.heap.size + 2) #[.int .i64 x.1, .int .i64 x.2]) := T1.out.put2 _ _
    have HX : Hid (Below w.heap.size w (put2 W0 (w.heap.size + 2) (.int .i64 x.1) (.int .i64 x.2))) := below_put2 BH.out (by omega) _ _
    obtain ⟨t0, t1, t2, t3⟩ := T1.out.all2
    go_enter Try.func139, Try.ntmps139
    go_upto_region 1 with fail
    rw [← hW0]
    clear hW0
    go_wp2_with fail
    obtain ⟨r0, r1, _⟩ := RX.out.all2
    unfold put2 at r0 r1
    exact bodyPost_ret (v := .tuple #[.agg #[.int .i64 x.1, .int .i64 x.2], .bool false]) (by simp [results, Try.results139, go_sem, r0, r1]) rfl ⟨rfl, HX.out⟩
theorem put2_cell {w : World} {q b j : Nat} {x y : Value} (hne : b ≠ q) : (put2 w q x y).cell? ⟨b, j, none⟩ = w.cell? ⟨b, j, none⟩ := by
  unfold put2
  rw [World.cell?_setCell_other _ _ _ _ (fun h => hne (by injection h with h; exact h.symm)), World.cell?_setCell_other _ _ _ _ (fun h => hne (by injection h with h; exact h.symm))]

set_option maxHeartbeats 2000000 in
set_option maxRecDepth 100000 in
theorem sHear_any (b : Bool) (x : Ml) (v : Value) (m : List Int) (w : World) (h : InR w v m) :
    Calls Try.prog 140 #[.agg #[.bool b], .agg #[.int .i64 x.1, .int .i64 x.2], v] w (ValP w (hearF (true, b) x m)) := by
  have HR : Hid (InR w v m) := h
  obtain ⟨a, cap, rfl⟩ := h.shape
  clear h
  obtain ⟨W0, hW0⟩ : ∃ W0, W0 = ((w.alloc (.cells #[.bool b] 140)).alloc (.cells #[.int .i64 x.1, .int .i64 x.2] 59)).alloc (.cells #[.int .i64 0, .int .i64 0] 59) := ⟨_, rfl⟩
  obtain ⟨S0, Q0, T0, B0, s1, s2⟩ := boxes3 w #[.bool b] #[.int .i64 x.1, .int .i64 x.2] #[.int .i64 0, .int .i64 0] 140 59 59 W0 hW0
  have T1 : Hid (BX 59 W0 (w.heap.size + 2) #[.int .i64 0, .int .i64 0]) := T0
  have BH : Hid (Below w.heap.size w W0) := B0
  have z0 : W0.cell? ⟨w.heap.size, 0, none⟩ = some (.bool b) := S0.cell 0
  have pz := part_zero S0
  have R0 : Hid (InR W0 (.slice a m.length cap) m) := HR.out.below B0 (Nat.le_refl _)
  obtain ⟨q0, q1, _⟩ := Q0.all2
  clear S0 Q0 T0 B0
  by_cases hL : x.2 = -1
  · have d1 : (x.2 != -1) = false := by simpa using hL
    cases b
    · have HP : hearF (true, false) x m = lowV x m := by unfold hearF; simp only; rw [if_pos hL]
      rw [HP]
      have HC : Hid (∀ X, InR X (.slice a m.length cap) m → Calls Try.prog 136 #[.agg #[], .agg #[.int .i64 x.1, .int .i64 x.2], .slice a m.length cap] X (ValP X (lowV x m))) := fun X hX => wHear_any x _ m X hX
      unfold ValP at *
      generalize lowV x m = r at *
      clear hL HP
      go_enter Try.func140, Try.ntmps140
      go_upto_region 1 with fail
      rw [← hW0]
      clear hW0
      go_wp2_with fail
      refine (HC.out _ R0.out).mono ?_
      rintro e w1 ⟨rfl, hb1⟩
      have B1 : Hid (Below w.heap.size w w1) := BH.out.trans (hb1.mono (by omega))
      have T2 : Hid (BX 59 w1 (w.heap.size + 2) #[.int .i64 0, .int .i64 0]) := T1.out.below hb1 (by omega)
      clear hb1 q0 q1 z0 pz
      obtain ⟨t0, t1, t2, t3⟩ := T2.out.all2
      have RX : Hid (BX 59 (put2 w1 (w.heap.size + 2) (.int .i64 r.1.1) (.int .i64 r.1.2)) (w.heap.size + 2) #[.int .i64 r.1.1, .int .i64 r.1.2]) := T2.out.put2 _ _
      have HX : Hid (Below w.heap.size w (put2 w1 (w.heap.size + 2) (.int .i64 r.1.1) (.int .i64 r.1.2))) := below_put2 B1.out (by omega) _ _
      go_wp2_with fail
      obtain ⟨r0, r1, _⟩ := RX.out.all2
      unfold put2 at r0 r1
      exact bodyPost_ret (v := .tuple #[.agg #[.int .i64 r.1.1, .int .i64 r.1.2], .bool r.2]) (by simp [results, Try.results140, go_sem, r0, r1]) rfl ⟨rfl, HX.out⟩
    · have HP : hearF (true, true) x m = labF x (hasB m x.1) := by unfold hearF; simp only; rw [if_pos hL]
      rw [HP]
      have CO : Hid (∀ X, InR X (.slice a m.length cap) m → Calls Try.prog 143 #[.slice a m.length cap, .int .i64 x.1] X fun e w' => ∃ v, e = .returned v ∧ (v = .bool (hasB m x.1) ∧ w' = X)) := fun X hX => (contains_any _ m x.1 X hX).mono (fun e w' h => ⟨_, h.1, rfl, h.2⟩)
      have LA : Hid (∀ X, Calls Try.prog 142 #[.agg #[.int .i64 x.1, .int .i64 x.2], .bool (hasB m x.1)] X fun e w' => ∃ v, e = .returned v ∧ (v = .tuple #[.agg #[.int .i64 (labF x (hasB m x.1)).1.1, .int .i64 (labF x (hasB m x.1)).1.2], .bool (labF x (hasB m x.1)).2] ∧ Below X.heap.size X w')) := fun X => (labelled_any x _ X).mono (fun e w' h => ⟨_, h.1, rfl, h.2⟩)
      have eco : ∀ args w, (callFunc 143 args).run Try.prog w = .ok (.enter 143 args) w := enters_of Try.func143 (by kernel_rfl) rfl
      have ela : ∀ args w, (callFunc 142 args).run Try.prog w = .ok (.enter 142 args) w := enters_of Try.func142 (by kernel_rfl) rfl
      have RD : Hid (InR W0.drew (.slice a m.length cap) m) := R0.out.below (Below.refl _ _).drew (Nat.le_refl _)
      unfold ValP at *
      generalize labF x (hasB m x.1) = r at *
      generalize hasB m x.1 = t at *
      clear hL HP pz
      go_enter Try.func140, Try.ntmps140
      go_upto_region 1 with fail
      rw [← hW0]
      clear hW0
      go_wp2_with fail
      have hq0 : W0.drew.cell? ⟨w.heap.size + 1, 0, none⟩ = some (.int .i64 x.1) := q0
      have hq1 : W0.drew.cell? ⟨w.heap.size + 1, 1, none⟩ = some (.int .i64 x.2) := q1
      clear q0 q1 z0
      refine wp_region_held (S := fun V => V.cell? ⟨w.heap.size + 1, 0, none⟩ = some (.int .i64 x.1) ∧ V.cell? ⟨w.heap.size + 1, 1, none⟩ = some (.int .i64 x.2)) (by kernel_rfl) ?_
      simp only [List.size_toArray, List.length_cons, List.length_nil, Nat.reduceAdd]
      refine takeH (i := 0) (v := .agg #[.int .i64 x.1, .int .i64 x.2]) (d := 16) rfl rfl (by kernel_rfl) (by kernel_rfl) (by kernel_rfl) (fun _ _ _ h => h) (by rfl) (fun V hV => by obtain ⟨v1, v2⟩ := hV; go_simp) ⟨hq0, hq1⟩ ?_
      simp only [Act.put, List.setIfInBounds_toArray, List.set_cons_zero, List.set_cons_succ]
      refine takeH (i := 1) (v := .slice a m.length cap) (d := 17) rfl rfl (by kernel_rfl) (by kernel_rfl) (by kernel_rfl) (fun _ _ _ h => h) (by rfl) (fun V hV => by obtain ⟨v1, v2⟩ := hV; go_simp) ⟨hq0, hq1⟩ ?_
      simp only [Act.put, List.setIfInBounds_toArray, List.set_cons_zero, List.set_cons_succ]
      refine takeH (i := 2) (v := .pointer (some ⟨w.heap.size + 1, 0, none⟩)) (d := 18) rfl rfl (by kernel_rfl) (by kernel_rfl) (by kernel_rfl) (fun _ _ _ h => h) (by rfl) (fun V hV => by obtain ⟨v1, v2⟩ := hV; go_simp) ⟨hq0, hq1⟩ ?_
      simp only [Act.put, List.setIfInBounds_toArray, List.set_cons_zero, List.set_cons_succ]
      refine takeH (i := 3) (v := .int .i64 x.1) (d := 19) rfl rfl (by kernel_rfl) (by kernel_rfl) (by kernel_rfl) (fun _ _ _ h => h) (by rfl) (fun V hV => by obtain ⟨v1, v2⟩ := hV; go_simp) ⟨hq0, hq1⟩ ?_
      simp only [Act.put, List.setIfInBounds_toArray, List.set_cons_zero, List.set_cons_succ]
      refine oneH (i := 4) rfl (by kernel_rfl) rfl (call_gets (d := 20) (f := 143) (xs := #[.tmp 17, .tmp 19]) (ats := #[43, 3]) rfl rfl eco (vs := #[.slice a m.length cap, .int .i64 x.1]) (by simp [Act.eval]) (CO.out _ RD.out) ?_)
      rintro vr w1 ⟨rfl, rfl⟩
      refine ⟨⟨hq0, hq1⟩, ?_⟩
      simp only [Act.put, List.setIfInBounds_toArray, List.set_cons_zero, List.set_cons_succ]
      refine oneH (i := 5) rfl (by kernel_rfl) rfl (call_gets (d := 21) (f := 142) (xs := #[.tmp 16, .tmp 20]) (ats := #[59, 4]) rfl rfl ela (vs := #[.agg #[.int .i64 x.1, .int .i64 x.2], .bool t]) (by simp [Act.eval]) (LA.out _) ?_)
      rintro vr w2 ⟨rfl, hb2⟩
      have S2 : w2.cell? ⟨w.heap.size + 1, 0, none⟩ = some (.int .i64 x.1) ∧ w2.cell? ⟨w.heap.size + 1, 1, none⟩ = some (.int .i64 x.2) := ⟨(hb2.cell (p := ⟨w.heap.size + 1, 0, none⟩) (show w.heap.size + 1 < W0.heap.size by omega)).trans hq0, (hb2.cell (p := ⟨w.heap.size + 1, 1, none⟩) (show w.heap.size + 1 < W0.heap.size by omega)).trans hq1⟩
      have B2 : Hid (Below w.heap.size w w2) := BH.out.drew.trans (hb2.mono (show w.heap.size ≤ W0.heap.size by omega))
      have T2 : Hid (BX 59 w2 (w.heap.size + 2) #[.int .i64 0, .int .i64 0]) := T1.out.drew.below hb2 (show w.heap.size + 2 < W0.heap.size by omega)
      clear hb2
      refine ⟨S2, ?_⟩
      simp only [Act.put, List.setIfInBounds_toArray, List.set_cons_zero, List.set_cons_succ]
      refine takeH (i := 6) (v := .agg #[.int .i64 r.1.1, .int .i64 r.1.2]) (d := 22) rfl rfl (by kernel_rfl) (by kernel_rfl) (by kernel_rfl) (fun _ _ _ h => h) (by rfl) (fun V hV => by obtain ⟨v1, v2⟩ := hV; go_simp) S2 ?_
      simp only [Act.put, List.setIfInBounds_toArray, List.set_cons_zero, List.set_cons_succ]
      refine takeH (i := 7) (v := .bool r.2) (d := 23) rfl rfl (by kernel_rfl) (by kernel_rfl) (by kernel_rfl) (fun _ _ _ h => h) (by rfl) (fun V hV => by obtain ⟨v1, v2⟩ := hV; go_simp) S2 ?_
      simp only [Act.put, List.setIfInBounds_toArray, List.set_cons_zero, List.set_cons_succ]
      obtain ⟨n0, n1, n2, n3⟩ := T2.out.all2
      have RX : Hid (BX 59 (put2 w2 (w.heap.size + 2) (.int .i64 r.1.1) (.int .i64 r.1.2)) (w.heap.size + 2) #[.int .i64 r.1.1, .int .i64 r.1.2]) := T2.out.put2 _ _
      have HX : Hid (Below w.heap.size w (put2 w2 (w.heap.size + 2) (.int .i64 r.1.1) (.int .i64 r.1.2))) := below_put2 B2.out (by omega) _ _
      have S3 : (put2 w2 (w.heap.size + 2) (.int .i64 r.1.1) (.int .i64 r.1.2)).cell? ⟨w.heap.size + 1, 0, none⟩ = some (.int .i64 x.1) ∧ (put2 w2 (w.heap.size + 2) (.int .i64 r.1.1) (.int .i64 r.1.2)).cell? ⟨w.heap.size + 1, 1, none⟩ = some (.int .i64 x.2) := ⟨by rw [put2_cell (by omega)]; exact S2.1, by rw [put2_cell (by omega)]; exact S2.2⟩
      refine oneH (i := 8) rfl (by kernel_rfl) rfl (op_skip (w' := put2 w2 (w.heap.size + 2) (.int .i64 r.1.1) (.int .i64 r.1.2)) rfl (by unfold put2; go_simp) ⟨S3, ?_⟩)
      clear n0 n1 n2 n3
      generalize put2 w2 (w.heap.size + 2) (.int .i64 r.1.1) (.int .i64 r.1.2) = w3 at *
      refine takeH (i := 9) (v := .bool r.2) (d := 7) rfl rfl (by kernel_rfl) (by kernel_rfl) (by kernel_rfl) (fun _ _ _ h => h) (by rfl) (fun V hV => by obtain ⟨v1, v2⟩ := hV; go_simp) S3 ?_
      simp only [Act.put, List.setIfInBounds_toArray, List.set_cons_zero, List.set_cons_succ]
      refine wpAnyH_done (by kernel_rfl) ?_ _
      clear S2 S3
      go_wp2_with fail
      obtain ⟨r0, r1, _⟩ := RX.out.all2
      exact bodyPost_ret (v := .tuple #[.agg #[.int .i64 r.1.1, .int .i64 r.1.2], .bool r.2]) (by simp [results, Try.results140, go_sem, r0, r1]) rfl ⟨rfl, HX.out⟩
  · have d1 : (x.2 != -1) = true := by simpa using hL
    have HP : hearF (true, b) x m = (x, false) := by unfold hearF; cases b <;> (simp only; rw [if_neg hL])
    rw [HP]
    unfold ValP
    clear hL HP pz
    have RX : Hid (BX 59 (put2 W0 (w.heap.size + 2) (.int .i64 x.1) (.int .i64 x.2)) (w.heap.size + 2) #[.int .i64 x.1, .int .i64 x.2]) := T1.out.put2 _ _
    have HX : Hid (Below w.heap.size w (put2 W0 (w.heap.size + 2) (.int .i64 x.1) (.int .i64 x.2))) := below_put2 BH.out (by omega) _ _
    obtain ⟨t0, t1, t2, t3⟩ := T1.out.all2
    go_enter Try.func140, Try.ntmps140
    go_upto_region 1 with fail
    rw [← hW0]
    clear hW0
    go_wp2_with fail
    obtain ⟨r0, r1, _⟩ := RX.out.all2
    unfold put2 at r0 r1
    exact bodyPost_ret (v := .tuple #[.agg #[.int .i64 x.1, .int .i64 x.2], .bool false]) (by simp [results, Try.results140, go_sem, r0, r1]) rfl ⟨rfl, HX.out⟩
end Go.Proofs.Ytbmkgnlfccigpaa

namespace Go.Proofs.Ytbmkgnlfccigpaa
set_option maxRecDepth 100000
open Go.ChangeShapes Go.WideShapes Go.ChangeAt Go.RowKit

/-- The name of the interface's i-th method. -/
def mname (P : Program) (i : Nat) : String :=
  match P.underlying 125 with
  | some (.interface ms) => ((ms[i]?).map Prod.fst).getD ""
  | _ => ""
/-- The i-th method at a value of type t is the function f, of the receiver r. -/
def Goes (i : Nat) (t : TypeId) (u : Value) (f : FuncId) (r : Value) : Prop :=
  (∀ X, (method 284 t u (mname Try.prog i)).run Try.prog X = .ok (f, r) X) ∧ ∀ args X, (callFunc f args).run Try.prog X = .ok (.enter f args) X
theorem goes_of {i : Nat} {t : TypeId} {u : Value} {f : FuncId} {r : Value} (h : ∀ X, (method 284 t u (mname Try.prog i)).run Try.prog X = .ok (f, r) X) (h2 : ∀ args X, (callFunc f args).run Try.prog X = .ok (.enter f args) X) : Goes i t u f r := ⟨h, h2⟩

def GreatF (j : Jb) (f : FuncId) (r : Value) : Prop := ∀ X, Calls Try.prog f #[r] X fun e w' => e = .returned (.int .i64 (Jb.top j)) ∧ Below X.heap.size X w'
def BeginF (j : Jb) (f : FuncId) (r : Value) : Prop := ∀ v s (x : Ml) X, Calls Try.prog f #[r, .int .i64 v, .int .i64 s, .agg #[.int .i64 x.1, .int .i64 x.2]] X (ValP X (beginF j v s x))
def HearF (j : Jb) (f : FuncId) (r : Value) : Prop := ∀ (x : Ml) v m X, InR X v m → Calls Try.prog f #[r, .agg #[.int .i64 x.1, .int .i64 x.2], v] X (ValP X (hearF j x m))
def SayF (j : Jb) (f : FuncId) (r : Value) : Prop := ∀ a n, (0 ≤ a ∧ a ≤ 4398046511104) → (0 ≤ n ∧ n ≤ 1099511627776) → ∀ X, Calls Try.prog f #[r, .int .i64 a, .int .i64 n] X fun e w' => e = .returned (.int .i64 (sayJ j a n)) ∧ Below X.heap.size X w'
def WaysF (j : Jb) (f : FuncId) (r : Value) : Prop := ∀ X, Calls Try.prog f #[r] X fun e w' => e = .returned (.tuple #[.bool (wayJ j).1, .bool (wayJ j).2]) ∧ Below X.heap.size X w'

theorem job_open : ∀ j : Jb, ∃ t u, Jb.v j = .iface t u ∧ (∃ f r, Goes 0 t u f r ∧ BeginF j f r) ∧ (∃ f r, Goes 1 t u f r ∧ GreatF j f r) ∧ (∃ f r, Goes 2 t u f r ∧ HearF j f r) ∧ (∃ f r, Goes 3 t u f r ∧ SayF j f r) ∧ (∃ f r, Goes 4 t u f r ∧ WaysF j f r) := by
  refine jb_cases ?_ ?_ ?_ ?_
  · refine ⟨137, .agg #[], rfl, ⟨128, .agg #[], goes_of (fun _ => by kernel_rfl) (enters_of Try.func128 (by kernel_rfl) rfl), dBegin_any⟩, ⟨129, .agg #[], goes_of (fun _ => by kernel_rfl) (enters_of Try.func129 (by kernel_rfl) rfl), dGreat_any⟩,
      ⟨130, .agg #[], goes_of (fun _ => by kernel_rfl) (enters_of Try.func130 (by kernel_rfl) rfl), dHear_any⟩, ⟨131, .agg #[], goes_of (fun _ => by kernel_rfl) (enters_of Try.func131 (by kernel_rfl) rfl), dSay_any⟩, ⟨132, .agg #[], goes_of (fun _ => by kernel_rfl) (enters_of Try.func132 (by kernel_rfl) rfl), dWays_any⟩⟩
  · refine ⟨138, .agg #[], rfl, ⟨134, .agg #[], goes_of (fun _ => by kernel_rfl) (enters_of Try.func134 (by kernel_rfl) rfl), wBegin_any⟩, ⟨135, .agg #[], goes_of (fun _ => by kernel_rfl) (enters_of Try.func135 (by kernel_rfl) rfl), wGreat_any⟩,
      ⟨136, .agg #[], goes_of (fun _ => by kernel_rfl) (enters_of Try.func136 (by kernel_rfl) rfl), wHear_any⟩, ⟨137, .agg #[], goes_of (fun _ => by kernel_rfl) (enters_of Try.func137 (by kernel_rfl) rfl), fun a n _ _ X => wSay_any a n X⟩, ⟨138, .agg #[], goes_of (fun _ => by kernel_rfl) (enters_of Try.func138 (by kernel_rfl) rfl), wWays_any⟩⟩
  · refine ⟨140, .agg #[.bool false], rfl, ⟨139, .agg #[.bool false], goes_of (fun _ => by kernel_rfl) (enters_of Try.func139 (by kernel_rfl) rfl), sBegin_any false⟩, ⟨135, .agg #[], goes_of (fun _ => by kernel_rfl) (enters_of Try.func135 (by kernel_rfl) rfl), wGreat_any⟩,
      ⟨140, .agg #[.bool false], goes_of (fun _ => by kernel_rfl) (enters_of Try.func140 (by kernel_rfl) rfl), sHear_any false⟩, ⟨137, .agg #[], goes_of (fun _ => by kernel_rfl) (enters_of Try.func137 (by kernel_rfl) rfl), fun a n _ _ X => wSay_any a n X⟩, ⟨141, .agg #[.bool false], goes_of (fun _ => by kernel_rfl) (enters_of Try.func141 (by kernel_rfl) rfl), sWays_any false⟩⟩
  · refine ⟨140, .agg #[.bool true], rfl, ⟨139, .agg #[.bool true], goes_of (fun _ => by kernel_rfl) (enters_of Try.func139 (by kernel_rfl) rfl), sBegin_any true⟩, ⟨135, .agg #[], goes_of (fun _ => by kernel_rfl) (enters_of Try.func135 (by kernel_rfl) rfl), wGreat_any⟩,
      ⟨140, .agg #[.bool true], goes_of (fun _ => by kernel_rfl) (enters_of Try.func140 (by kernel_rfl) rfl), sHear_any true⟩, ⟨137, .agg #[], goes_of (fun _ => by kernel_rfl) (enters_of Try.func137 (by kernel_rfl) rfl), fun a n _ _ X => wSay_any a n X⟩, ⟨141, .agg #[.bool true], goes_of (fun _ => by kernel_rfl) (enters_of Try.func141 (by kernel_rfl) rfl), sWays_any true⟩⟩

set_option maxHeartbeats 1000000 in
set_option maxRecDepth 100000 in
theorem waysP_any (j : Jb) (w : World) :
    Calls Try.prog 65 #[.int .i64 (Jb.k j), .int .i64 (Jb.p j)] w fun e w' => e = .returned (.tuple #[.bool (wayJ j).1, .bool (wayJ j).2, .int .i64 0]) ∧ Below w.heap.size w w' := by
  have C : Hid (∀ w, Calls Try.prog 79 #[.int .i64 (Jb.k j), .int .i64 (Jb.p j)] w fun e w' => e = .returned (.tuple #[Jb.v j, .int .i64 0]) ∧ w' = w) := fun w => jobOf_any j w
  obtain ⟨t, u, hv, _, _, _, _, f, r, ⟨hm, he⟩, hF⟩ := job_open j
  rw [hv] at C
  simp [mname, Try.underlying125] at hm
  have HF : Hid (WaysF j f r) := hF
  unfold WaysF at HF
  generalize Jb.k j = k at *
  generalize Jb.p j = p at *
  generalize (wayJ j).1 = o1 at *
  generalize (wayJ j).2 = o2 at *
  clear hv hF
  go_enter Try.func65, Try.ntmps65
  go_wp2_with fail
  refine (C.out _).mono ?_
  rintro e w1 ⟨rfl, hw⟩
  replace hw := hw.symm
  subst hw
  go_wp2_with fail
  refine (HF.out _).mono ?_
  rintro e w1 ⟨rfl, hb⟩
  have HB : Hid (Below w.heap.size w w1) := hb
  clear hb
  go_wp2_with fail
  go_ret3
  exact ⟨rfl, HB.out⟩
set_option maxHeartbeats 1000000 in
theorem waysP_none {k p : Int} (h : ¬ (k = 1 ∧ p = 0) ∧ ¬ (k = 2 ∧ p = 0) ∧ ¬ (k = 3 ∧ p = 0) ∧ ¬ (k = 3 ∧ p = 1)) (w : World) :
    Calls Try.prog 65 #[.int .i64 k, .int .i64 p] w fun e w' => e = .returned (.tuple #[.bool false, .bool false, .int .i64 3]) ∧ Below w.heap.size w w' := by
  have C : Hid (∀ w, Calls Try.prog 79 #[.int .i64 k, .int .i64 p] w fun e w' => e = .returned (.tuple #[.nilIface, .int .i64 3]) ∧ w' = w) := fun w => jobOf_none h w
  clear h
  go_enter Try.func65, Try.ntmps65
  go_wp2_with fail
  refine (C.out _).mono ?_
  rintro e w1 ⟨rfl, hw⟩
  replace hw := hw.symm
  subst hw
  go_wp2_with fail
  go_ret3
  exact ⟨rfl, Below.refl _ _⟩
end Go.Proofs.Ytbmkgnlfccigpaa

namespace Go.Proofs.Ytbmkgnlfccigpaa
set_option maxRecDepth 100000
open Go.ChangeShapes Go.WideShapes Go.ChangeAt Go.RowKit Go.Sort

set_option maxHeartbeats 1000000 in
set_option maxRecDepth 100000 in
theorem valueMayBe_any (j : Jb) (x : Ml) (w : World) :
    Calls Try.prog 82 #[Jb.v j, .agg #[.int .i64 x.1, .int .i64 x.2]] w fun e w' => e = .returned (.bool (valB j x)) ∧ Below w.heap.size w w' := by
  obtain ⟨t, u, hv, _, ⟨f, r, ⟨hm, he⟩, hF⟩, _⟩ := job_open j
  rw [hv]
  simp [mname, Try.underlying125] at hm
  unfold GreatF at hF
  unfold valB
  generalize Jb.top j = T at *
  obtain ⟨W, hW⟩ : ∃ W, w.alloc (.cells #[.int .i64 x.1, .int .i64 x.2] 59) = W := ⟨_, rfl⟩
  have hX : BX 59 W w.heap.size #[.int .i64 x.1, .int .i64 x.2] := by rw [← hW]; exact BX.new _ _ _
  have HB : Hid (Below w.heap.size w W) := by show Below _ _ _; rw [← hW]; exact below_alloc _ _
  obtain ⟨c0, c1, _⟩ := hX.all2
  have g0 := cell_regrown c0
  have g1 := cell_regrown c1
  have EG : ∀ d os, Calls Try.prog f #[r] (grow (redrawn W d) os) fun e w'' => e = .returned (.int .i64 T) ∧ ∃ p : Regrown, w'' = grow (redrawn W p.d) p.os := fun d os => Calls.regrown_of (hF _)
  have EW : ∀ v a b d os, Calls Try.prog 83 #[.int .i64 v, .int .i64 a, .int .i64 b] (grow (redrawn W d) os) fun e w'' => e = .returned (.bool (inB v a b)) ∧ ∃ p : Regrown, w'' = grow (redrawn W p.d) p.os := fun v a b d os => Calls.regrown_of ((pwithin_any v a b _).mono (fun e w' h => ⟨h.1, by rw [h.2]; exact Below.refl _ _⟩))
  clear hv hF hX c0 c1
  cases h1 : inB x.1 (-1) T
  · go_enter Try.func82, Try.ntmps82
    go_upto_region 1 with fail
    refine wp_region_quiet_below (by kernel_rfl) (by kernel_rfl) ?_
    repeat (quiet_step (first | (go_at_call 83; exact EW _ _ _ _ _) | exact EG _ _))
    refine wpQuiet_nil ?_
    intro _ hw'
    obtain ⟨⟨dq, osq⟩, hw''⟩ := hw'
    have HB9 : Hid (Below W.heap.size W (grow (redrawn W dq) osq)) := below_regrown W dq osq
    subst hw''
    generalize grow (redrawn W dq) osq = W9 at HB9 ⊢
    have HC : Hid (Below w.heap.size w W9) := HB.out.trans (HB9.out.mono HB.out.size)
    clear g0 g1 EG EW
    go_wp2_with fail
    go_ret
    exact ⟨rfl, HC.out⟩
  · cases h2 : inB x.2 (-1) 199
    all_goals go_enter Try.func82, Try.ntmps82
    all_goals go_upto_region 1 with fail
    all_goals refine wp_region_quiet_below (by kernel_rfl) (by kernel_rfl) ?_
    all_goals repeat (quiet_step (first | (go_at_call 83; exact EW _ _ _ _ _) | exact EG _ _))
    all_goals refine wpQuiet_nil ?_
    all_goals intro _ hw'
    all_goals obtain ⟨⟨dq, osq⟩, hw''⟩ := hw'
    all_goals have HB9 : Hid (Below W.heap.size W (grow (redrawn W dq) osq)) := below_regrown W dq osq
    all_goals subst hw''
    all_goals generalize grow (redrawn W dq) osq = W9 at HB9 ⊢
    all_goals have HC : Hid (Below w.heap.size w W9) := HB.out.trans (HB9.out.mono HB.out.size)
    all_goals clear g0 g1 EG EW
    all_goals go_wp2_with fail
    all_goals go_ret
    all_goals exact ⟨rfl, HC.out⟩

set_option maxHeartbeats 1000000 in
set_option maxRecDepth 100000 in
theorem mailMayBe_any (j : Jb) (v : Value) (m : List Int) (w : World) (h : InR w v m) :
    Calls Try.prog 90 #[Jb.v j, v] w fun e w' => e = .returned (.bool (mailB j m)) ∧ RowKit.Below w.heap.size w w' := by
  have HR : Hid (InR w v m) := h
  obtain ⟨a, cap, rfl, hca, hma, _, _⟩ := h
  unfold maxLen at hma
  obtain ⟨t, u, hv, _, ⟨f, r, ⟨hm, he⟩, hF⟩, _⟩ := job_open j
  rw [hv]
  simp [mname, Try.underlying125] at hm
  have HF : Hid (GreatF j f r) := hF
  unfold GreatF at HF
  have HM : Hid (mailB j m = m.all fun y => inB y 0 (Jb.top j)) := rfl
  generalize mailB j m = R at *
  generalize Jb.top j = T at *
  clear hv hF
  go_enter Try.func90, Try.ntmps90
  go_wp2_with fail
  go_loopw [9] (fun i wr => ∃ k : Nat, k ≤ m.length ∧ i = .int .i64 k ∧ ((m.take k).all fun y => inB y 0 T) = true ∧ RowKit.Below w.heap.size w wr) (fun i _ => m.length - (intOf i).toNat)
  case atStart => exact ⟨0, by omega, rfl, rfl, Below.refl _ _⟩
  case round =>
    obtain ⟨k, hk, rfl, hh, hb⟩ := hrel
    have HH : Hid (((m.take k).all fun y => inB y 0 T) = true) := hh
    have HBL : Hid (RowKit.Below w.heap.size w wr) := hb
    clear hh hb
    by_cases hlt : k < m.length
    · obtain ⟨xa, oa, cap', e1, _, _, la, hva⟩ := InR.at (HR.out.below HBL.out (Nat.le_refl _)) (by omega)
      injection e1 with e1 _ e3
      subst e1 e3
      obtain ⟨y, hy⟩ := getX hlt
      have p0 : (0 : Int) ≤ (k : Int) := by omega
      have p1 : (k : Int) < (m.length : Int) := by omega
      have c1 := hva k y hy
      have HY : Hid (m[k]? = some y) := hy
      clear hva hy
      cases hin : inB y 0 T
      · have HE : Hid (R = false) := by
          show R = false
          rw [HM.out]
          refine Bool.eq_false_iff.2 fun hall => ?_
          have := List.all_eq_true.1 hall y (List.mem_of_getElem? HY.out)
          rw [hin] at this
          cases this
        have C2 : Hid (∀ X, Calls Try.prog 83 #[.int .i64 y, .int .i64 0, .int .i64 T] X fun e w' => e = .returned (.bool false) ∧ w' = X) := fun X => pwithin_is hin X
        clear hin
        go_wp2_with fail
        refine (HF.out _).mono ?_
        rintro e w1 ⟨rfl, hb1⟩
        have B1 : Hid (RowKit.Below w.heap.size w w1) := HBL.out.trans (hb1.mono HBL.out.size)
        clear hb1 c1
        go_wp2_with fail
        refine (C2.out _).mono ?_
        rintro e w2 ⟨rfl, hw⟩
        replace hw := hw.symm
        subst hw
        go_wp2_with fail
        go_ret
        exact ⟨ret_bool HE.out.symm, B1.out⟩
      · have HE : Hid (((m.take (k + 1)).all fun y => inB y 0 T) = true) := by
          show ((m.take (k + 1)).all fun y => inB y 0 T) = true
          rw [take_snoc HY.out, List.all_append, HH.out]
          simp [hin]
        have C2 : Hid (∀ X, Calls Try.prog 83 #[.int .i64 y, .int .i64 0, .int .i64 T] X fun e w' => e = .returned (.bool true) ∧ w' = X) := fun X => pwithin_is hin X
        clear hin
        go_wp2_with fail
        refine (HF.out _).mono ?_
        rintro e w1 ⟨rfl, hb1⟩
        have B1 : Hid (RowKit.Below w.heap.size w w1) := HBL.out.trans (hb1.mono HBL.out.size)
        clear hb1 c1
        go_wp2_with fail
        refine (C2.out _).mono ?_
        rintro e w2 ⟨rfl, hw⟩
        replace hw := hw.symm
        subst hw
        go_wp2_with fail
        go_roundw
        case rel => exact ⟨k + 1, by omega, by go_num, HE.out, B1.out⟩
        case measure => simp [intOf]; omega
    · have HE : Hid (R = true) := by
        show R = true
        rw [HM.out]
        have := HH.out
        rwa [List.take_of_length_le (by omega)] at this
      go_wp2_with fail
      go_ret
      exact ⟨ret_bool HE.out.symm, HBL.out⟩
end Go.Proofs.Ytbmkgnlfccigpaa

namespace Go.Proofs.Ytbmkgnlfccigpaa
set_option maxRecDepth 100000
open Go.ChangeShapes Go.WideShapes Go.ChangeAt Go.RowKit

/-- A value, whether it is said, and an error. -/
def WakP (w : World) (r : Wk) (e : Ending) (w' : World) : Prop :=
  e = .returned (.tuple #[.agg #[.int .i64 r.x.1, .int .i64 r.x.2], .bool r.b, .int .i64 r.f]) ∧ Below w.heap.size w w'
def SayP (w : World) (r : Int × Int) (e : Ending) (w' : World) : Prop := e = .returned (.tuple #[.int .i64 r.1, .int .i64 r.2]) ∧ Below w.heap.size w w'

set_option maxHeartbeats 2000000 in
set_option maxRecDepth 100000 in
theorem wake_none {k v s p : Int} {x : Ml} {b : Bool} {m : List Int} (vm : Value) (h : jobF k p = none ∧ ¬ (k = 1 ∧ p = 0) ∧ ¬ (k = 2 ∧ p = 0) ∧ ¬ (k = 3 ∧ p = 0) ∧ ¬ (k = 3 ∧ p = 1)) (w : World) (hm : InR w vm m) :
    Calls Try.prog 81 #[.int .i64 k, .int .i64 v, .int .i64 s, .agg #[.int .i64 x.1, .int .i64 x.2], .int .i64 p, .bool b, vm] w (WakP w (wakeF k v s x p b m)) := by
  obtain ⟨a, cap, rfl⟩ := hm.shape
  clear hm
  rw [wakeF_none h.1]
  have HC : Hid (∀ X, Calls Try.prog 79 #[.int .i64 k, .int .i64 p] X fun e w' => e = .returned (.tuple #[.nilIface, .int .i64 3]) ∧ w' = X) := fun X => jobOf_none h.2 X
  have HE : Hid (∀ w', Below w.heap.size w w' → WakP w ⟨(0, 0), false, 3⟩ (.returned (.tuple #[.agg #[.int .i64 0, .int .i64 0], .bool false, .int .i64 3])) w') := fun w' hw => ⟨rfl, hw⟩
  generalize WakP w ⟨(0, 0), false, 3⟩ = P at *
  obtain ⟨W0, hW0⟩ : ∃ W0, W0 = (w.alloc (.cells #[.int .i64 x.1, .int .i64 x.2] 59)).alloc (.cells #[.int .i64 0, .int .i64 0] 59) := ⟨_, rfl⟩
  obtain ⟨Q0, T0, B0, s1, s2⟩ := boxes2 w #[.int .i64 x.1, .int .i64 x.2] #[.int .i64 0, .int .i64 0] 59 59 W0 hW0
  have T1 : Hid (BX 59 W0 (w.heap.size + 1) #[.int .i64 0, .int .i64 0]) := T0
  have BH : Hid (Below w.heap.size w W0) := B0
  clear Q0 T0 B0 h
  obtain ⟨t0, t1, t2, t3⟩ := T1.out.all2
  have RX : Hid (BX 59 (put2 W0 (w.heap.size + 1) (.int .i64 0) (.int .i64 0)) (w.heap.size + 1) #[.int .i64 0, .int .i64 0]) := T1.out.put2 _ _
  have HX : Hid (Below w.heap.size w (put2 W0 (w.heap.size + 1) (.int .i64 0) (.int .i64 0))) := below_put2 BH.out (by omega) _ _
  go_enter Try.func81, Try.ntmps81
  go_upto_region 1 with fail
  rw [← hW0]
  clear hW0
  go_wp2_with fail
  refine (HC.out _).mono ?_
  rintro e w1 ⟨rfl, hw⟩
  replace hw := hw.symm
  subst hw
  go_wp2_with fail
  obtain ⟨r0, r1, _⟩ := RX.out.all2
  unfold put2 at r0 r1
  exact bodyPost_ret (v := .tuple #[.agg #[.int .i64 0, .int .i64 0], .bool false, .int .i64 3]) (by simp [results, Try.results81, go_sem, r0, r1]) rfl (HE.out _ HX.out)

set_option maxHeartbeats 4000000 in
set_option maxRecDepth 100000 in
theorem wake_job (j : Jb) (v s : Int) (x : Ml) (b : Bool) (m : List Int) (vm : Value) (w : World) (hm : InR w vm m) :
    Calls Try.prog 81 #[.int .i64 (Jb.k j), .int .i64 v, .int .i64 s, .agg #[.int .i64 x.1, .int .i64 x.2], .int .i64 (Jb.p j), .bool b, vm] w (WakP w (wakeJ j v s x b m)) := by
  have HR : Hid (InR w vm m) := hm
  obtain ⟨a, cap, rfl⟩ := hm.shape
  clear hm
  have CJ : Hid (∀ X, Calls Try.prog 79 #[.int .i64 (Jb.k j), .int .i64 (Jb.p j)] X fun e w' => e = .returned (.tuple #[Jb.v j, .int .i64 0]) ∧ w' = X) := fun X => jobOf_any j X
  have CI : Hid (∀ X, Calls Try.prog 89 #[.int .i64 v] X fun e w' => e = .returned (.bool (inB v 0 199)) ∧ w' = X) := fun X => isVertex_any v X
  have CV : Hid (∀ X, Calls Try.prog 82 #[Jb.v j, .agg #[.int .i64 x.1, .int .i64 x.2]] X fun e w' => e = .returned (.bool (valB j x)) ∧ Below X.heap.size X w') := fun X => valueMayBe_any j x X
  have CM : Hid (∀ X, InR X (.slice a m.length cap) m → Calls Try.prog 90 #[Jb.v j, .slice a m.length cap] X fun e w' => e = .returned (.bool (mailB j m)) ∧ Below X.heap.size X w') := fun X hX => mailMayBe_any j _ m X hX
  obtain ⟨t, u, hv, ⟨fb, rb, ⟨hmb, heb⟩, hFB⟩, _, ⟨fh, rh, ⟨hmh, heh⟩, hFH⟩, _⟩ := job_open j
  rw [hv] at CJ CV CM
  simp [mname, Try.underlying125] at hmb hmh
  have CB : Hid (∀ X, Calls Try.prog fb #[rb, .int .i64 v, .int .i64 s, .agg #[.int .i64 x.1, .int .i64 x.2]] X fun e w' => e = .returned (.tuple #[.agg #[.int .i64 (beginF j v s x).1.1, .int .i64 (beginF j v s x).1.2], .bool (beginF j v s x).2]) ∧ Below X.heap.size X w') := fun X => hFB v s x X
  have CH : Hid (∀ X, InR X (.slice a m.length cap) m → Calls Try.prog fh #[rh, .agg #[.int .i64 x.1, .int .i64 x.2], .slice a m.length cap] X fun e w' => e = .returned (.tuple #[.agg #[.int .i64 (hearF j x m).1.1, .int .i64 (hearF j x m).1.2], .bool (hearF j x m).2]) ∧ Below X.heap.size X w') := fun X hX => hFH x _ m X hX
  clear hv hFB hFH
  obtain ⟨W0, hW0⟩ : ∃ W0, W0 = (w.alloc (.cells #[.int .i64 x.1, .int .i64 x.2] 59)).alloc (.cells #[.int .i64 0, .int .i64 0] 59) := ⟨_, rfl⟩
  obtain ⟨Q0, T0, B0, s1, s2⟩ := boxes2 w #[.int .i64 x.1, .int .i64 x.2] #[.int .i64 0, .int .i64 0] 59 59 W0 hW0
  have Q1 : Hid (BX 59 W0 w.heap.size #[.int .i64 x.1, .int .i64 x.2]) := Q0
  have T1 : Hid (BX 59 W0 (w.heap.size + 1) #[.int .i64 0, .int .i64 0]) := T0
  have BH : Hid (Below w.heap.size w W0) := B0
  have HK : Hid (∀ X, Below W0.heap.size W0 X → BX 59 X w.heap.size #[.int .i64 x.1, .int .i64 x.2] ∧ BX 59 X (w.heap.size + 1) #[.int .i64 0, .int .i64 0] ∧ Below w.heap.size w X ∧ InR X (.slice a m.length cap) m) := fun X hX => ⟨Q1.out.below hX (by omega), T1.out.below hX (by omega), BH.out.trans (hX.mono (by omega)), HR.out.below (BH.out.trans (hX.mono (by omega))) (Nat.le_refl _)⟩
  have R0 : Hid (InR W0 (.slice a m.length cap) m) := HR.out.below B0 (Nat.le_refl _)
  obtain ⟨q0, q1, _⟩ := Q0.all2
  clear Q0 T0 B0
  generalize hkk : Jb.k j = kk at *
  generalize hpp : Jb.p j = pp at *
  clear hkk hpp
  cases h1 : inB v 0 199
  · have HW : wakeJ j v s x b m = ⟨(0, 0), false, 2⟩ := by unfold wakeJ; rw [h1]; simp
    rw [HW]
    have HE : Hid (∀ w', Below w.heap.size w w' → WakP w ⟨(0, 0), false, 2⟩ (.returned (.tuple #[.agg #[.int .i64 0, .int .i64 0], .bool false, .int .i64 2])) w') := fun w' hw => ⟨rfl, hw⟩
    generalize WakP w ⟨(0, 0), false, 2⟩ = P at *
    clear HW CB CH hmb hmh heb heh
    rw [h1] at CI
    clear h1 CV CM
    obtain ⟨t0, t1, t2, t3⟩ := T1.out.all2
    have RX : Hid (BX 59 (put2 W0 (w.heap.size + 1) (.int .i64 0) (.int .i64 0)) (w.heap.size + 1) #[.int .i64 0, .int .i64 0]) := T1.out.put2 _ _
    have HX : Hid (Below w.heap.size w (put2 W0 (w.heap.size + 1) (.int .i64 0) (.int .i64 0))) := below_put2 BH.out (by omega) _ _
    go_enter Try.func81, Try.ntmps81
    go_upto_region 1 with fail
    rw [← hW0]
    clear hW0
    go_wp2_with fail
    refine (CJ.out _).mono ?_
    rintro e w1 ⟨rfl, hw⟩
    replace hw := hw.symm
    subst hw
    go_wp2_with fail
    refine (CI.out _).mono ?_
    rintro e w1 ⟨rfl, hw⟩
    replace hw := hw.symm
    subst hw
    go_wp2_with fail
    obtain ⟨r0, r1, _⟩ := RX.out.all2
    unfold put2 at r0 r1
    exact bodyPost_ret (v := .tuple #[.agg #[.int .i64 0, .int .i64 0], .bool false, .int .i64 2]) (by simp [results, Try.results81, go_sem, r0, r1]) rfl (HE.out _ HX.out)
  · cases h2 : valB j x
    · have HW : wakeJ j v s x b m = ⟨(0, 0), false, 2⟩ := by unfold wakeJ; rw [h1, h2]; simp
      rw [HW]
      have HE : Hid (∀ w', Below w.heap.size w w' → WakP w ⟨(0, 0), false, 2⟩ (.returned (.tuple #[.agg #[.int .i64 0, .int .i64 0], .bool false, .int .i64 2])) w') := fun w' hw => ⟨rfl, hw⟩
      generalize WakP w ⟨(0, 0), false, 2⟩ = P at *
      clear HW CB CH hmb hmh heb heh
      rw [h1] at CI
      rw [h2] at CV
      clear h1 h2 CM
      go_enter Try.func81, Try.ntmps81
      go_upto_region 1 with fail
      rw [← hW0]
      clear hW0
      go_wp2_with fail
      refine (CJ.out _).mono ?_
      rintro e w1 ⟨rfl, hw⟩
      replace hw := hw.symm
      subst hw
      go_wp2_with fail
      refine (CI.out _).mono ?_
      rintro e w1 ⟨rfl, hw⟩
      replace hw := hw.symm
      subst hw
      go_wp2_with fail
      refine (CV.out _).mono ?_
      rintro e w2 ⟨rfl, hb2⟩
      have A2 : Hid (Below W0.heap.size W0 w2) := hb2
      clear hb2 q0 q1
      obtain ⟨_, T3, B3, _⟩ := HK.out _ A2.out
      have T4 : Hid (BX 59 w2 (w.heap.size + 1) #[.int .i64 0, .int .i64 0]) := T3
      have B4 : Hid (Below w.heap.size w w2) := B3
      clear T3 B3
      obtain ⟨t0, t1, t2, t3⟩ := T4.out.all2
      have RX : Hid (BX 59 (put2 w2 (w.heap.size + 1) (.int .i64 0) (.int .i64 0)) (w.heap.size + 1) #[.int .i64 0, .int .i64 0]) := T4.out.put2 _ _
      have HX : Hid (Below w.heap.size w (put2 w2 (w.heap.size + 1) (.int .i64 0) (.int .i64 0))) := below_put2 B4.out (by omega) _ _
      go_wp2_with fail
      obtain ⟨r0, r1, _⟩ := RX.out.all2
      unfold put2 at r0 r1
      exact bodyPost_ret (v := .tuple #[.agg #[.int .i64 0, .int .i64 0], .bool false, .int .i64 2]) (by simp [results, Try.results81, go_sem, r0, r1]) rfl (HE.out _ HX.out)
    · cases h3 : mailB j m
      · have HW : wakeJ j v s x b m = ⟨(0, 0), false, 2⟩ := by unfold wakeJ; rw [h1, h2, h3]; simp
        rw [HW]
        have HE : Hid (∀ w', Below w.heap.size w w' → WakP w ⟨(0, 0), false, 2⟩ (.returned (.tuple #[.agg #[.int .i64 0, .int .i64 0], .bool false, .int .i64 2])) w') := fun w' hw => ⟨rfl, hw⟩
        generalize WakP w ⟨(0, 0), false, 2⟩ = P at *
        clear HW CB CH hmb hmh heb heh
        rw [h1] at CI
        rw [h2] at CV
        rw [h3] at CM
        clear h1 h2 h3
        go_enter Try.func81, Try.ntmps81
        go_upto_region 1 with fail
        rw [← hW0]
        clear hW0
        go_wp2_with fail
        refine (CJ.out _).mono ?_
        rintro e w1 ⟨rfl, hw⟩
        replace hw := hw.symm
        subst hw
        go_wp2_with fail
        refine (CI.out _).mono ?_
        rintro e w1 ⟨rfl, hw⟩
        replace hw := hw.symm
        subst hw
        go_wp2_with fail
        refine (CV.out _).mono ?_
        rintro e w2 ⟨rfl, hb2⟩
        have A2 : Hid (Below W0.heap.size W0 w2) := hb2
        clear hb2 q0 q1
        obtain ⟨_, _, _, R2⟩ := HK.out _ A2.out
        have R3 : Hid (InR w2 (.slice a m.length cap) m) := R2
        clear R2
        go_wp2_with fail
        refine (CM.out _ R3.out).mono ?_
        rintro e w3 ⟨rfl, hb3⟩
        have A3 : Hid (Below W0.heap.size W0 w3) := A2.out.trans (hb3.mono A2.out.size)
        clear hb3 A2 R3
        obtain ⟨_, T3, B3, _⟩ := HK.out _ A3.out
        have T4 : Hid (BX 59 w3 (w.heap.size + 1) #[.int .i64 0, .int .i64 0]) := T3
        have B4 : Hid (Below w.heap.size w w3) := B3
        clear T3 B3
        obtain ⟨t0, t1, t2, t3⟩ := T4.out.all2
        have RX : Hid (BX 59 (put2 w3 (w.heap.size + 1) (.int .i64 0) (.int .i64 0)) (w.heap.size + 1) #[.int .i64 0, .int .i64 0]) := T4.out.put2 _ _
        have HX : Hid (Below w.heap.size w (put2 w3 (w.heap.size + 1) (.int .i64 0) (.int .i64 0))) := below_put2 B4.out (by omega) _ _
        go_wp2_with fail
        obtain ⟨r0, r1, _⟩ := RX.out.all2
        unfold put2 at r0 r1
        exact bodyPost_ret (v := .tuple #[.agg #[.int .i64 0, .int .i64 0], .bool false, .int .i64 2]) (by simp [results, Try.results81, go_sem, r0, r1]) rfl (HE.out _ HX.out)
      · cases b
        · have HW : wakeJ j v s x false m = ⟨(hearF j x m).1, (hearF j x m).2, 0⟩ := by unfold wakeJ wakeV; rw [h1, h2, h3]; simp
          rw [HW]
          have HE : Hid (∀ w', Below w.heap.size w w' → WakP w ⟨(hearF j x m).1, (hearF j x m).2, 0⟩ (.returned (.tuple #[.agg #[.int .i64 (hearF j x m).1.1, .int .i64 (hearF j x m).1.2], .bool (hearF j x m).2, .int .i64 0])) w') := fun w' hw => ⟨rfl, hw⟩
          generalize WakP w ⟨(hearF j x m).1, (hearF j x m).2, 0⟩ = P at *
          generalize (hearF j x m).1.1 = ra at *
          generalize (hearF j x m).1.2 = rl at *
          generalize (hearF j x m).2 = rs at *
          rw [h1] at CI
          rw [h2] at CV
          rw [h3] at CM
          clear HW h1 h2 h3 CB hmb heb
          go_enter Try.func81, Try.ntmps81
          go_upto_region 1 with fail
          rw [← hW0]
          clear hW0
          go_wp2_with fail
          refine (CJ.out _).mono ?_
          rintro e w1 ⟨rfl, hw⟩
          replace hw := hw.symm
          subst hw
          go_wp2_with fail
          refine (CI.out _).mono ?_
          rintro e w1 ⟨rfl, hw⟩
          replace hw := hw.symm
          subst hw
          go_wp2_with fail
          refine (CV.out _).mono ?_
          rintro e w2 ⟨rfl, hb2⟩
          have A2 : Hid (Below W0.heap.size W0 w2) := hb2
          clear hb2 q0 q1
          obtain ⟨_, _, _, R2⟩ := HK.out _ A2.out
          have R3 : Hid (InR w2 (.slice a m.length cap) m) := R2
          clear R2
          go_wp2_with fail
          refine (CM.out _ R3.out).mono ?_
          rintro e w3 ⟨rfl, hb3⟩
          have A3 : Hid (Below W0.heap.size W0 w3) := A2.out.trans (hb3.mono A2.out.size)
          clear hb3 A2 R3
          obtain ⟨Q3, T3, B3, R3⟩ := HK.out _ A3.out
          have R4 : Hid (InR w3 (.slice a m.length cap) m) := R3
          obtain ⟨q0, q1, _⟩ := Q3.all2
          clear Q3 T3 B3 R3
          go_wp2_with fail
          refine (CH.out _ R4.out).mono ?_
          rintro e w4 ⟨rfl, hb4⟩
          have A4 : Hid (Below W0.heap.size W0 w4) := A3.out.trans (hb4.mono A3.out.size)
          clear hb4 A3 R4 q0 q1
          go_upto_region 10 with fail
          have N5 := BX.new 59 w4 #[.int .i64 ra, .int .i64 rl]
          have A5 : Hid (Below W0.heap.size W0 (w4.alloc (.cells #[.int .i64 ra, .int .i64 rl] 59))) := A4.out.alloc A4.out.size _
          generalize w4.alloc (.cells #[.int .i64 ra, .int .i64 rl] 59) = w5 at *
          obtain ⟨_, T5, B5, _⟩ := HK.out _ A5.out
          have T6 : Hid (BX 59 w5 (w.heap.size + 1) #[.int .i64 0, .int .i64 0]) := T5
          have B6 : Hid (Below w.heap.size w w5) := B5
          clear T5 B5
          obtain ⟨n0, n1, _⟩ := N5.all2
          clear N5
          obtain ⟨t0, t1, t2, t3⟩ := T6.out.all2
          have RX : Hid (BX 59 (put2 w5 (w.heap.size + 1) (.int .i64 ra) (.int .i64 rl)) (w.heap.size + 1) #[.int .i64 ra, .int .i64 rl]) := T6.out.put2 _ _
          have HX : Hid (Below w.heap.size w (put2 w5 (w.heap.size + 1) (.int .i64 ra) (.int .i64 rl))) := below_put2 B6.out (by omega) _ _
          go_wp2_with fail
          obtain ⟨r0, r1, _⟩ := RX.out.all2
          unfold put2 at r0 r1
          exact bodyPost_ret (v := .tuple #[.agg #[.int .i64 ra, .int .i64 rl], .bool rs, .int .i64 0]) (by simp [results, Try.results81, go_sem, r0, r1]) rfl (HE.out _ HX.out)
        · have HW : wakeJ j v s x true m = ⟨(beginF j v s x).1, (beginF j v s x).2, 0⟩ := by unfold wakeJ wakeV; rw [h1, h2, h3]; simp
          rw [HW]
          have HE : Hid (∀ w', Below w.heap.size w w' → WakP w ⟨(beginF j v s x).1, (beginF j v s x).2, 0⟩ (.returned (.tuple #[.agg #[.int .i64 (beginF j v s x).1.1, .int .i64 (beginF j v s x).1.2], .bool (beginF j v s x).2, .int .i64 0])) w') := fun w' hw => ⟨rfl, hw⟩
          generalize WakP w ⟨(beginF j v s x).1, (beginF j v s x).2, 0⟩ = P at *
          generalize (beginF j v s x).1.1 = ra at *
          generalize (beginF j v s x).1.2 = rl at *
          generalize (beginF j v s x).2 = rs at *
          rw [h1] at CI
          rw [h2] at CV
          rw [h3] at CM
          clear HW h1 h2 h3 CH hmh heh
          go_enter Try.func81, Try.ntmps81
          go_upto_region 1 with fail
          rw [← hW0]
          clear hW0
          go_wp2_with fail
          refine (CJ.out _).mono ?_
          rintro e w1 ⟨rfl, hw⟩
          replace hw := hw.symm
          subst hw
          go_wp2_with fail
          refine (CI.out _).mono ?_
          rintro e w1 ⟨rfl, hw⟩
          replace hw := hw.symm
          subst hw
          go_wp2_with fail
          refine (CV.out _).mono ?_
          rintro e w2 ⟨rfl, hb2⟩
          have A2 : Hid (Below W0.heap.size W0 w2) := hb2
          clear hb2 q0 q1
          obtain ⟨_, _, _, R2⟩ := HK.out _ A2.out
          have R3 : Hid (InR w2 (.slice a m.length cap) m) := R2
          clear R2
          go_wp2_with fail
          refine (CM.out _ R3.out).mono ?_
          rintro e w3 ⟨rfl, hb3⟩
          have A3 : Hid (Below W0.heap.size W0 w3) := A2.out.trans (hb3.mono A2.out.size)
          clear hb3 A2 R3
          obtain ⟨Q3, T3, B3, R3⟩ := HK.out _ A3.out
          have R4 : Hid (InR w3 (.slice a m.length cap) m) := R3
          obtain ⟨q0, q1, _⟩ := Q3.all2
          clear Q3 T3 B3 R3
          go_wp2_with fail
          refine (CB.out _).mono ?_
          rintro e w4 ⟨rfl, hb4⟩
          have A4 : Hid (Below W0.heap.size W0 w4) := A3.out.trans (hb4.mono A3.out.size)
          clear hb4 A3 R4 q0 q1
          go_upto_region 8 with fail
          have N5 := BX.new 59 w4 #[.int .i64 ra, .int .i64 rl]
          have A5 : Hid (Below W0.heap.size W0 (w4.alloc (.cells #[.int .i64 ra, .int .i64 rl] 59))) := A4.out.alloc A4.out.size _
          generalize w4.alloc (.cells #[.int .i64 ra, .int .i64 rl] 59) = w5 at *
          obtain ⟨_, T5, B5, _⟩ := HK.out _ A5.out
          have T6 : Hid (BX 59 w5 (w.heap.size + 1) #[.int .i64 0, .int .i64 0]) := T5
          have B6 : Hid (Below w.heap.size w w5) := B5
          clear T5 B5
          obtain ⟨n0, n1, _⟩ := N5.all2
          clear N5
          obtain ⟨t0, t1, t2, t3⟩ := T6.out.all2
          have RX : Hid (BX 59 (put2 w5 (w.heap.size + 1) (.int .i64 ra) (.int .i64 rl)) (w.heap.size + 1) #[.int .i64 ra, .int .i64 rl]) := T6.out.put2 _ _
          have HX : Hid (Below w.heap.size w (put2 w5 (w.heap.size + 1) (.int .i64 ra) (.int .i64 rl))) := below_put2 B6.out (by omega) _ _
          go_wp2_with fail
          obtain ⟨r0, r1, _⟩ := RX.out.all2
          unfold put2 at r0 r1
          exact bodyPost_ret (v := .tuple #[.agg #[.int .i64 ra, .int .i64 rl], .bool rs, .int .i64 0]) (by simp [results, Try.results81, go_sem, r0, r1]) rfl (HE.out _ HX.out)
theorem wake_any (k v s : Int) (x : Ml) (p : Int) (b : Bool) (m : List Int) (vm : Value) (w : World) (hm : InR w vm m) :
    Calls Try.prog 81 #[.int .i64 k, .int .i64 v, .int .i64 s, .agg #[.int .i64 x.1, .int .i64 x.2], .int .i64 p, .bool b, vm] w (WakP w (wakeF k v s x p b m)) := by
  rcases jobF_cases k p with h | ⟨j, rfl, rfl⟩
  · exact wake_none vm h w hm
  · rw [wakeF_of]
    exact wake_job j v s x b m vm w hm
end Go.Proofs.Ytbmkgnlfccigpaa

namespace Go.Proofs.Ytbmkgnlfccigpaa
set_option maxRecDepth 100000
open Go.ChangeShapes Go.WideShapes Go.ChangeAt Go.RowKit

theorem top_le : ∀ j : Jb, Jb.top j ≤ 4398046511104 := jb_cases (by decide) (by decide) (by decide) (by decide)

set_option maxHeartbeats 2000000 in
set_option maxRecDepth 100000 in
theorem say_none {k p n : Int} {x : Ml} (h : jobF k p = none ∧ ¬ (k = 1 ∧ p = 0) ∧ ¬ (k = 2 ∧ p = 0) ∧ ¬ (k = 3 ∧ p = 0) ∧ ¬ (k = 3 ∧ p = 1)) (w : World) :
    Calls Try.prog 68 #[.int .i64 k, .agg #[.int .i64 x.1, .int .i64 x.2], .int .i64 p, .int .i64 n] w (SayP w (saidF k x p n)) := by
  rw [saidF_none h.1]
  have HC : Hid (∀ X, Calls Try.prog 79 #[.int .i64 k, .int .i64 p] X fun e w' => e = .returned (.tuple #[.nilIface, .int .i64 3]) ∧ w' = X) := fun X => jobOf_none h.2 X
  have HB : Hid (∀ o, Below w.heap.size w (w.alloc o)) := fun o => below_alloc w o
  unfold SayP
  clear h
  go_enter Try.func68, Try.ntmps68
  go_wp2_with fail
  refine (HC.out _).mono ?_
  rintro e w1 ⟨rfl, hw⟩
  replace hw := hw.symm
  subst hw
  go_wp2_with fail
  go_ret2
  exact ⟨rfl, HB.out _⟩

set_option maxHeartbeats 4000000 in
set_option maxRecDepth 100000 in
theorem say_job (j : Jb) (x : Ml) (n : Int) (w : World) :
    Calls Try.prog 68 #[.int .i64 (Jb.k j), .agg #[.int .i64 x.1, .int .i64 x.2], .int .i64 (Jb.p j), .int .i64 n] w (SayP w (saidJ j x n)) := by
  have CJ : Hid (∀ X, Calls Try.prog 79 #[.int .i64 (Jb.k j), .int .i64 (Jb.p j)] X fun e w' => e = .returned (.tuple #[Jb.v j, .int .i64 0]) ∧ w' = X) := fun X => jobOf_any j X
  have CV : Hid (∀ X, Calls Try.prog 82 #[Jb.v j, .agg #[.int .i64 x.1, .int .i64 x.2]] X fun e w' => e = .returned (.bool (valB j x)) ∧ Below X.heap.size X w') := fun X => valueMayBe_any j x X
  have CW : Hid (∀ X, Calls Try.prog 83 #[.int .i64 n, .int .i64 0, .int .i64 1099511627776] X fun e w' => e = .returned (.bool (inB n 0 1099511627776)) ∧ w' = X) := fun X => pwithin_any n 0 _ X
  obtain ⟨t, u, hv, _, ⟨fg, rg, ⟨hmg, heg⟩, hFG⟩, _, ⟨fs, rs, ⟨hms, hes⟩, hFS⟩, _⟩ := job_open j
  rw [hv] at CJ CV
  simp [mname, Try.underlying125] at hmg hms
  have CG : Hid (∀ X, Calls Try.prog fg #[rg] X fun e w' => e = .returned (.int .i64 (Jb.top j)) ∧ Below X.heap.size X w') := hFG
  obtain ⟨W0, hW0⟩ : ∃ W0, W0 = w.alloc (.cells #[.int .i64 x.1, .int .i64 x.2] 59) := ⟨_, rfl⟩
  have Q0 : BX 59 W0 w.heap.size #[.int .i64 x.1, .int .i64 x.2] := by rw [hW0]; exact BX.new _ _ _
  have BH : Hid (Below w.heap.size w W0) := by show Below _ _ _; rw [hW0]; exact below_alloc _ _
  have s1 : w.heap.size + 1 ≤ W0.heap.size := by rw [hW0]; simp
  have HK : Hid (∀ X, Below W0.heap.size W0 X → BX 59 X w.heap.size #[.int .i64 x.1, .int .i64 x.2] ∧ Below w.heap.size w X) := fun X hX => ⟨Q0.below hX (by omega), BH.out.trans (hX.mono (by omega))⟩
  obtain ⟨q0, q1, _⟩ := Q0.all2
  generalize hkk : Jb.k j = kk at *
  generalize hpp : Jb.p j = pp at *
  clear hkk hpp Q0 hv hFG
  cases h1 : valB j x
  · have HW : saidJ j x n = (0, 2) := by unfold saidJ; rw [h1]; simp
    rw [HW]
    rw [h1] at CV
    unfold SayP
    clear HW h1 hFS
    go_enter Try.func68, Try.ntmps68
    go_upto_region 1 with fail
    rw [← hW0]
    clear hW0
    go_wp2_with fail
    refine (CJ.out _).mono ?_
    rintro e w1 ⟨rfl, hw⟩
    replace hw := hw.symm
    subst hw
    go_wp2_with fail
    refine (CV.out _).mono ?_
    rintro e w2 ⟨rfl, hb2⟩
    have B2 : Hid (Below w.heap.size w w2) := (HK.out _ hb2).2
    clear hb2 q0 q1
    go_wp2_with fail
    go_ret2
    exact ⟨rfl, B2.out⟩
  · have hxb : -1 ≤ x.1 ∧ x.1 ≤ Jb.top j := by
      unfold valB at h1
      rw [Bool.and_eq_true] at h1
      exact inB_iff.1 h1.1
    by_cases h2 : x.1 = -1
    · have HW : saidJ j x n = (0, 2) := by unfold saidJ; rw [h1]; simp [h2]
      rw [HW]
      rw [h1] at CV
      have d2 : (x.1 == -1) = true := by simpa using h2
      unfold SayP
      clear HW h1 h2 hxb hFS
      go_enter Try.func68, Try.ntmps68
      go_upto_region 1 with fail
      rw [← hW0]
      clear hW0
      go_wp2_with fail
      refine (CJ.out _).mono ?_
      rintro e w1 ⟨rfl, hw⟩
      replace hw := hw.symm
      subst hw
      go_wp2_with fail
      refine (CV.out _).mono ?_
      rintro e w2 ⟨rfl, hb2⟩
      obtain ⟨Q2, b2⟩ := HK.out _ hb2
      have B2 : Hid (Below w.heap.size w w2) := b2
      clear hb2 q0 q1 b2
      obtain ⟨q0, q1, _⟩ := Q2.all2
      clear Q2
      go_wp2_with fail
      go_ret2
      exact ⟨rfl, B2.out⟩
    · have d2 : (x.1 == -1) = false := by simpa using h2
      cases h3 : inB n 0 1099511627776
      · have HW : saidJ j x n = (0, 2) := by unfold saidJ; rw [h1, h3]; simp
        rw [HW]
        rw [h1] at CV
        rw [h3] at CW
        unfold SayP
        clear HW h1 h2 h3 hxb hFS
        go_enter Try.func68, Try.ntmps68
        go_upto_region 1 with fail
        rw [← hW0]
        clear hW0
        go_wp2_with fail
        refine (CJ.out _).mono ?_
        rintro e w1 ⟨rfl, hw⟩
        replace hw := hw.symm
        subst hw
        go_wp2_with fail
        refine (CV.out _).mono ?_
        rintro e w2 ⟨rfl, hb2⟩
        obtain ⟨Q2, b2⟩ := HK.out _ hb2
        have B2 : Hid (Below w.heap.size w w2) := b2
        clear hb2 q0 q1 b2
        obtain ⟨q0, q1, _⟩ := Q2.all2
        clear Q2
        go_wp2_with fail
        refine (CW.out _).mono ?_
        rintro e w3 ⟨rfl, hw⟩
        replace hw := hw.symm
        subst hw
        go_wp2_with fail
        go_ret2
        exact ⟨rfl, B2.out⟩
      · have hnb := inB_iff.1 h3
        have htl := top_le j
        have CS : Hid (∀ X, Calls Try.prog fs #[rs, .int .i64 x.1, .int .i64 n] X fun e w' => e = .returned (.int .i64 (sayJ j x.1 n)) ∧ Below X.heap.size X w') := fun X => hFS x.1 n ⟨by omega, by omega⟩ hnb X
        have HW : saidJ j x n = if sayJ j x.1 n ≤ Jb.top j then (sayJ j x.1 n, 0) else (0, 6) := by unfold saidJ; rw [h1, h3]; simp [h2]
        rw [HW]
        rw [h1] at CV
        rw [h3] at CW
        unfold SayP
        generalize sayJ j x.1 n = y at *
        generalize Jb.top j = T at *
        clear HW h1 h2 h3 hxb hFS hnb htl
        by_cases h4 : y ≤ T
        · rw [if_pos h4]
          have d4 : ¬ y > T := by omega
          clear h4
          go_enter Try.func68, Try.ntmps68
          go_upto_region 1 with fail
          rw [← hW0]
          clear hW0
          go_wp2_with fail
          refine (CJ.out _).mono ?_
          rintro e w1 ⟨rfl, hw⟩
          replace hw := hw.symm
          subst hw
          go_wp2_with fail
          refine (CV.out _).mono ?_
          rintro e w2 ⟨rfl, hb2⟩
          obtain ⟨Q2, b2⟩ := HK.out _ hb2
          have B2 : Hid (Below w.heap.size w w2) := b2
          clear hb2 q0 q1 b2
          obtain ⟨q0, q1, _⟩ := Q2.all2
          clear Q2
          go_wp2_with fail
          refine (CW.out _).mono ?_
          rintro e w3 ⟨rfl, hw⟩
          replace hw := hw.symm
          subst hw
          go_wp2_with fail
          refine (CS.out _).mono ?_
          rintro e w4 ⟨rfl, hb4⟩
          have B4 : Hid (Below w.heap.size w w4) := B2.out.trans (hb4.mono B2.out.size)
          clear hb4 q0 q1
          go_wp2_with fail
          refine (CG.out _).mono ?_
          rintro e w5 ⟨rfl, hb5⟩
          have B5 : Hid (Below w.heap.size w w5) := B4.out.trans (hb5.mono B4.out.size)
          clear hb5
          go_wp2_with fail
          go_ret2
          exact ⟨rfl, B5.out⟩
        · rw [if_neg h4]
          have d4 : y > T := by omega
          clear h4
          go_enter Try.func68, Try.ntmps68
          go_upto_region 1 with fail
          rw [← hW0]
          clear hW0
          go_wp2_with fail
          refine (CJ.out _).mono ?_
          rintro e w1 ⟨rfl, hw⟩
          replace hw := hw.symm
          subst hw
          go_wp2_with fail
          refine (CV.out _).mono ?_
          rintro e w2 ⟨rfl, hb2⟩
          obtain ⟨Q2, b2⟩ := HK.out _ hb2
          have B2 : Hid (Below w.heap.size w w2) := b2
          clear hb2 q0 q1 b2
          obtain ⟨q0, q1, _⟩ := Q2.all2
          clear Q2
          go_wp2_with fail
          refine (CW.out _).mono ?_
          rintro e w3 ⟨rfl, hw⟩
          replace hw := hw.symm
          subst hw
          go_wp2_with fail
          refine (CS.out _).mono ?_
          rintro e w4 ⟨rfl, hb4⟩
          have B4 : Hid (Below w.heap.size w w4) := B2.out.trans (hb4.mono B2.out.size)
          clear hb4 q0 q1
          go_wp2_with fail
          refine (CG.out _).mono ?_
          rintro e w5 ⟨rfl, hb5⟩
          have B5 : Hid (Below w.heap.size w w5) := B4.out.trans (hb5.mono B4.out.size)
          clear hb5
          go_wp2_with fail
          go_ret2
          exact ⟨rfl, B5.out⟩
theorem say_any (k : Int) (x : Ml) (p n : Int) (w : World) :
    Calls Try.prog 68 #[.int .i64 k, .agg #[.int .i64 x.1, .int .i64 x.2], .int .i64 p, .int .i64 n] w (SayP w (saidF k x p n)) := by
  rcases jobF_cases k p with h | ⟨j, rfl, rfl⟩
  · exact say_none h w
  · rw [saidF_of]
    exact say_job j x n w
end Go.Proofs.Ytbmkgnlfccigpaa
