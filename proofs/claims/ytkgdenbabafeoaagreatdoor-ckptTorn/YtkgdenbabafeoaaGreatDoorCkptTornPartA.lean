/-
  Lists of slices of bytes: what a call owns, what reads; append of one more slice.
  A queue that came in, and a piece of mail: what their data say of memory.
  A box that holds a queue.
  Contracts of queue's looseMayBe, unpackAll, count and Count.
  Contract of queue.Count.
  Contracts of ckpt.valueBarred and mailBarred, and of slices.ContainsFunc over them.
  Contract of ckpt.mayBe: what may be saved.
  Contract of ckpt.Encode: what P14.2 says.
  Contract of the law's own sameValues, of what reads alike.
  Contract of the law's own sameMails: what reads alike.
  The box of what is saved, written as a whole; the bytes of P14.2 are bytes.
  Contract of the law's own sameSaved, of what reads alike.
  What a disk reads as: its files, three cells each; how that is kept.
  Plain mathematics of P3: which disk may be, and where a name stands.
  The file that is written; what a call that changes a disk answers.
  Boxes of parameters.
  The contract of bytes.Clone: a new slice with the same bytes.
  Contracts of disk's nameMayBe, fileMayBe and bytes.Clone.
  Contract of disk's mayBe: a disk at work may be, as P3.1 says; the names go into a map.
  Contracts of disk's find: its closure, slices.IndexFunc over it, and find itself: the place of a file, or -1.
  A disk that lies in memory of the call's own: its files' row, and a row of each file's data.
  Two boxes.
  Contract of disk's copyFiles: the files of a disk at work are laid anew, in memory of the call's own.
  Contract of disk's changed, whatever change it is handed: by that change's own contract.
  One cell of a file is written: what the disk reads as then.
  What the faces of disk's changes have in common.
  Contract of slices.Delete over files, at one file: the others stand in their order.
  Contracts of disk.Remove and of what it does: what P3.7 says.
  Contracts of disk.Append and of what it does: what P3.2 says.
  Contract of ckpt.Put: P14.5.
  Contract of ckpt.slotName: the names of the two slots, and an error for other numbers (strconv.Itoa walked at 0 and 1).
  Contracts of disk.Read and of the document's own ReadFile: what P3.3 says.
  Contracts of bytes.Equal and bytes.Clone; what slices of a slice of bytes read as.
  Contract of frame.Unwrap and of the table's unwrap: payload, count of bytes and error are those of P2.3; nothing that was there is written.
  Plain mathematics of P2 (no program): a frame is had again, whatever stands behind it; a changed byte of payload or sum is told; a frame whose end is torn off is refused.
  P14.3 as functions: what the program makes of a payload, and that it finds again what was saved.
  Contracts of the reader of package ckpt: number, count.
  Rows of values.
-/
import Derived.Test.YtkgdenbabafeoaaGreatDoorKeptMem
import Derived.Test.YtkgdenbabafeoaaGreatDoorSame
import Derived.Deep.AppendLies
import Derived.Test.YtkgdenbabafeoaaGreatDoorMailOpen
import Derived.Test.YtkgdenbabafeoaaGreatDoorRunRead
import Derived.Test.YtkgdenbabafeoaaGreatDoorMailLists
import Derived.Deep.QuietTactic
import Derived.BigQuiet
import Derived.Lib.QuietBelow
import Derived.Test.YtkgdenbabafeoaaGreatDoorSavedMath
import Derived.Test.YtkgdenbabafeoaaGreatDoorMayBar
import Derived.Test.YtkgdenbabafeoaaGreatDoorBoxMem
import Derived.Test.YtkgdenbabafeoaaGreatDoorLeastFace
import Derived.Deep.CutRange
import Derived.Test.YtkgdenbabafeoaaGreatDoorSavedPut
import Derived.Test.YtkgdenbabafeoaaGreatDoorTwoMem
import Derived.Test.YtkgdenbabafeoaaGreatDoorMailMem
import Derived.Test.YtkgdenbabafeoaaGreatDoorBase
import Derived.Lib.Walk
import Derived.Maps.OwnSet
import Derived.BigRegion
import Derived.Deep.DeepMust
import Derived.Test.YtkgdenbabafeoaaGreatDoorAppendRun
import Derived.Deep.RegionWith
import Derived.Test.YtkgdenbabafeoaaGreatDoorRowBase
import Derived.Test.YtkgdenbabafeoaaGreatDoorAppendReads
import Derived.Test.YtkgdenbabafeoaaGreatDoorWrapWalk
import Derived.Test.YtkgdenbabafeoaaGreatDoorGetWalk
import Derived.Test.YtkgdenbabafeoaaGreatDoorCutBytes
import Derived.Test.YtkgdenbabafeoaaGreatDoorRowNew

namespace Go.Proofs.YtkgdenbabafeoaaGreatDoor
set_option maxRecDepth 100000
open Go.ChangeShapes Go.WideShapes Go.ChangeAt Go.RowKit

theorem Tryz.infoBs : (Tryz.prog.info? 31).map (fun i => (i.zero, i.size, i.bytes)) = some (some (.slice none 0 0), 1, 24) := by kernel_rfl
/-- A list of slices of bytes, each of the call's own. -/
def OwnBs (w : World) (base : Nat) (v : Value) (f : List (List Int)) : Prop :=
  ∃ vs : List Value, vs.length = f.length ∧ w.ownsRow base 31 1 v f.length vs ∧ ∀ (j : Nat) (u : Value) (l : List Int), vs[j]? = some u → f[j]? = some l → w.ownsRow base 5 1 u l.length (l.map (Value.int .u8))
theorem OwnBs.nil (w : World) (base : Nat) : OwnBs w base (.slice none 0 0) [] := ⟨[], rfl, World.ownsRow_nil _ _ _ _, fun j u l h => by simp at h⟩
theorem OwnBs.row {w : World} {base : Nat} {v : Value} {f : List (List Int)} (h : OwnBs w base v f) : ∃ vs, w.ownsRow base 31 1 v f.length vs := by obtain ⟨vs, _, h, _⟩ := h; exact ⟨vs, h⟩
theorem own_geB {w : World} {base n size g : Nat} {e : TypeId} {v : Value} {xs : List Value} (h : w.ownsRow base e size v n xs) (hg : v.ownBlock = some g) : base ≤ g ∧ g < w.heap.size := h.lt g hg
theorem OwnBs.kept {S : Nat → Prop} {w w' : World} {base : Nat} {v : Value} {f : List (List Int)} (h : OwnBs w base v f) (hk : Kept S w w') (hs : ∀ g, base ≤ g → ¬ S g) : OwnBs w' base v f := by
  obtain ⟨vs, h1, h2, h3⟩ := h
  exact ⟨vs, h1, hk.own h2 fun g hg => hs g (own_geB h2 hg).1, fun j u l hu hl => hk.own (h3 j u l hu hl) fun g hg => hs g (own_geB (h3 j u l hu hl) hg).1⟩
/-- Boxes of another type are written. -/
theorem OwnBs.box {w : World} {base q i : Nat} {v u : Value} {f : List (List Int)} {cs : Array Value} {t : TypeId} {fr : Nat × Nat} (h : OwnBs w base v f) (hq : w.heap[q]? = some (.cells cs t fr)) (h1 : 31 ≠ t) (h2 : 5 ≠ t) : OwnBs (w.setCell ⟨q, i, none⟩ u) base v f := by
  obtain ⟨vs, k1, k2, k3⟩ := h
  exact ⟨vs, k1, (Kept.box w q i u).own k2 fun g hg => own_block k2 hg hq h1, fun j x l hx hl => (Kept.box w q i u).own (k3 j x l hx hl) fun g hg => own_block (k3 j x l hx hl) hg hq h2⟩
theorem OwnBs.lower {w : World} {base b : Nat} {v : Value} {f : List (List Int)} (h : OwnBs w base v f) (hb : b ≤ base) : OwnBs w b v f := by
  obtain ⟨vs, h1, h2, h3⟩ := h
  exact ⟨vs, h1, own_lower h2 hb, fun j u l hu hl => own_lower (h3 j u l hu hl) hb⟩
/-- Another list of lists grows. -/
theorem OwnBs.grown {w w' : World} {base b n : Nat} {v r : Value} {f : List (List Int)} {xs : List Value} (h : OwnBs w base v f) (hr : w.ownsRow b 31 1 r n xs) (hg : w.grownBy w' r.ownBlock) (ha : v.ownBlock = none ∨ v.ownBlock ≠ r.ownBlock) : OwnBs w' base v f := by
  obtain ⟨vs, h1, h2, h3⟩ := h
  exact ⟨vs, h1, h2.kept hg ha, fun j u l hu hl => (h3 j u l hu hl).kept hg (own_apart (h3 j u l hu hl) hr (by decide))⟩
/-- One more list. -/
theorem run_append_bs {w : World} (ty : TypeId) (base : Nat) (v : Value) (f : List (List Int)) (h : OwnBs w base v f) (B : Nat) (p : Value) (x : List Int) (fr : Nat × Nat) (hB : w.heap[B]? = some (.cells #[p] 31 fr)) (hp : w.ownsRow base 5 1 p x.length (x.map (Value.int .u8))) (hlen : (f.length + 1) * 24 ≤ 140737488355328) (hbase : base ≤ w.heap.size) :
    ∃ g c w', (Builtin.append_ #[112, 112] ty #[v, .slice (some ⟨B, 0, none⟩) 1 1]).run Tryz.prog w = .ok (.slice (some ⟨g, 0, none⟩) (f.length + 1) c) w' ∧ OwnBs w' base (.slice (some ⟨g, 0, none⟩) (f.length + 1) c) (f ++ [x]) ∧ w.grownBy w' v.ownBlock ∧ (v.ownBlock = some g ∨ g = w.heap.size) := by
  obtain ⟨i0, hi, hz0, hz1, hz2⟩ := info_parts Tryz.infoBs
  obtain ⟨vs, h1, h2, h3⟩ := h
  have hone : p.oneCell' = true := by
    rcases own_cases hp with ⟨rfl, _⟩ | ⟨g, cap, rfl, _⟩ <;> rfl
  obtain ⟨g, c, w', hrun, ho, hg, hl, _⟩ := run_append_lies (P := Tryz.prog) w 112 ty base 31 i0 (.slice none 0 0) 1 24 Tryz.underlying112 hi hz0 hz1 hz2 rfl (by decide) v f.length vs h2
    ⟨B, 0, none⟩ 1 1 [p] rfl (by have := World.news_of_block hB; simpa using this) (fun u hu => by simp at hu; subst hu; exact hone) (by omega) (by unfold maxLen; omega) (by omega) hbase _ rfl
  refine ⟨g, c, w', hrun, ⟨vs ++ [p], by simp [h1], by simpa using ho, fun j u l hu hl => ?_⟩, hg, hl⟩
  by_cases hj : j < vs.length
  · rw [List.getElem?_append_left hj] at hu
    rw [List.getElem?_append_left (by omega)] at hl
    exact (h3 j u l hu hl).kept hg (own_apart (h3 j u l hu hl) h2 (by decide))
  · have hj2 : j = vs.length := by have := (List.getElem?_eq_some_iff.1 hu).1; simp at this; omega
    subst hj2
    rw [List.getElem?_concat_length] at hu
    rw [h1, List.getElem?_concat_length] at hl
    injection hu with hu
    injection hl with hl
    subst hu hl
    exact hp.kept hg (own_apart hp h2 (by decide))

/-- The same as a law for the walk. -/
theorem wpList_append_bs {w : World} {ops : Array Oper} {rest : List Oper} {o : Oper} {a : Act} {Q : Exit → Act → World → Prop} (hgd : o.guard = none) (s y : Operand)
    (ho : o.op = .call { callee := .builtin .append, args := #[s, y], argTypes := #[112, 112] })
    (base : Nat) (v : Value) (f : List (List Int)) (hs : a.eval s = v) (hown : OwnBs w base v f) (B : Nat) (p : Value) (x : List Int) (hy : a.eval y = .slice (some ⟨B, 0, none⟩) 1 1) (fr : Nat × Nat) (hB : w.heap[B]? = some (.cells #[p] 31 fr)) (hp : w.ownsRow base 5 1 p x.length (x.map (Value.int .u8))) (hlen : (f.length + 1) * 24 ≤ 140737488355328) (hbase : base ≤ w.heap.size)
    (h : ∀ g c w', OwnBs w' base (.slice (some ⟨g, 0, none⟩) (f.length + 1) c) (f ++ [x]) → w.grownBy w' v.ownBlock → (v.ownBlock = some g ∨ g = w.heap.size) → wpList Tryz.prog ops Q rest (a.put o.dst (.slice (some ⟨g, 0, none⟩) (f.length + 1) c)) w') :
    wpList Tryz.prog ops Q (o :: rest) a w := by
  obtain ⟨g, c, w', hrun, h1, h2, h3⟩ := run_append_bs o.type base v f hown B p x fr hB hp hlen hbase
  refine wpList_plain hgd fun K' hK => ?_
  unfold Oper.wp
  simp [execOp, ho, resolve, invoke, builtin, hs, hy, hrun, Result.andThen]
  exact hK _ _ (h g c w' h1 h2 h3)

/-- A slice reads as these slices of bytes. -/
def BsR (w : World) (v : Value) (f : List (List Int)) : Prop :=
  ∃ a cap, v = .slice a f.length cap ∧ f.length ≤ cap ∧ cap ≤ maxLen ∧ (0 < f.length → ∃ b off, a = some ⟨b, off, none⟩ ∧ b < w.heap.size ∧ ∀ j l, f[j]? = some l → ∃ u, w.cell? ⟨b, off + j, none⟩ = some u ∧ Reads .u8 w u l)
theorem BsR.below {w w' : World} {v : Value} {f : List (List Int)} {B : Nat} (h : BsR w v f) (hb : Below B w w') (hB : w.heap.size ≤ B) : BsR w' v f := by
  obtain ⟨a, cap, rfl, h1, h2, h3⟩ := h
  refine ⟨a, cap, rfl, h1, h2, fun hn => ?_⟩
  obtain ⟨b, off, rfl, lt, hv⟩ := h3 hn
  refine ⟨b, off, rfl, Nat.lt_of_lt_of_le lt hb.size, fun j l hl => ?_⟩
  obtain ⟨u, hu, hr⟩ := hv j l hl
  exact ⟨u, (hb.cell (p := ⟨b, off + j, none⟩) (show b < B by omega)).trans hu, hr.below hb hB⟩
theorem BsR.nil (w : World) : BsR w (.slice none 0 0) [] := ⟨none, 0, rfl, by simp, by simp [maxLen], fun h => by simp at h⟩
theorem OwnBs.reads {w : World} {base : Nat} {v : Value} {f : List (List Int)} (h : OwnBs w base v f) : BsR w v f := by
  obtain ⟨vs, h1, h2, h3⟩ := h
  rcases own_cases h2 with ⟨rfl, h0, _⟩ | ⟨g, cap, rfl, _, hl, hc, hm, hcell⟩
  · have : f = [] := List.eq_nil_of_length_eq_zero h0
    subst this
    exact BsR.nil w
  · refine ⟨_, cap, rfl, hc, hm, fun _ => ⟨g, 0, rfl, hl, fun j l hj => ?_⟩⟩
    have hjl : j < vs.length := by rw [h1]; exact (List.getElem?_eq_some_iff.1 hj).1
    have hu : vs[j]? = some vs[j] := List.getElem?_eq_getElem hjl
    have := hcell j _ hu
    rw [addr_add] at this
    rw [Nat.zero_add]
    exact ⟨_, this, reads_own (h3 j _ l hu hj)⟩
theorem BsR.at {w : World} {v : Value} {f : List (List Int)} (h : BsR w v f) (hn : 0 < f.length) : ∃ b off cap, v = .slice (some ⟨b, off, none⟩) f.length cap ∧ b < w.heap.size ∧ f.length ≤ cap ∧ cap ≤ maxLen ∧ ∀ j l, f[j]? = some l → ∃ u, w.cell? ⟨b, off + j, none⟩ = some u ∧ Reads .u8 w u l := by
  obtain ⟨a, cap, rfl, h1, h2, h3⟩ := h
  obtain ⟨b, off, rfl, lt, hv⟩ := h3 hn
  exact ⟨b, off, cap, rfl, lt, h1, h2, hv⟩
end Go.Proofs.YtkgdenbabafeoaaGreatDoor

namespace Go.Proofs.YtkgdenbabafeoaaGreatDoor
set_option maxRecDepth 100000
open Go.ChangeShapes Go.WideShapes Go.ChangeAt Go.RowKit

set_option maxHeartbeats 400000 in
/-- A slice of bytes. -/
theorem open_bytesF {H : Type} {enc : TypeId × Value → H} {W : World} {fuel : Nat} {v : Value} {y : DataW H × List MemPlace} (hf : DataW.trod enc Tryz.prog W 0 (fun _ => true) true fuel 31 [v] = some y) (hs : ∀ m ∈ y.1.weights Tryz.prog 31, m ≤ reachBytes) :
    ∃ xs, Reads .u8 W v xs ∧ (∀ x ∈ xs, 0 ≤ x ∧ x ≤ 255) ∧ xs.length ≤ 140737488351232 := by
  have hc5 : Tryz.prog.cellsOf 5 = 1 := by kernel_rfl
  have hb5 : Tryz.prog.bytesOf 5 = 1 := by kernel_rfl
  rcases open_ints Tryz.underlying31 Tryz.underlying5 hc5 hf with ⟨e1, rfl⟩ | ⟨a, len, cap, zs, e1, _, hle, hm, hz, rfl, hcell, hwf⟩
  · simp only [List.cons.injEq, and_true] at e1
    subst e1
    exact ⟨[], ⟨none, 0, rfl, by simp, by simp [maxLen], fun _ => rfl, fun x hx => by cases hx⟩, by simp, by simp⟩
  · simp only [List.cons.injEq, and_true] at e1
    subst e1
    have hz2 : zs.length = cap := by simpa using hz
    have el : (zs.take len).length = len := List.length_take_of_le (by omega)
    have hw : ((zs.take len).length + (zs.drop len).length) * Tryz.prog.bytesOf 5 ≤ reachBytes := by
      refine hs _ ?_
      simp [DataW.weights, Tryz.underlying31, lits]
    rw [hb5] at hw
    simp only [List.length_take, List.length_drop, reachBytes] at hw
    refine ⟨zs.take len, ⟨some a, cap, by rw [el], by rw [el]; omega, hm, fun e => (by cases e), fun x hx j hj => ?_⟩, bytes_wf (fun n hn => hwf n (List.mem_of_mem_take hn)), by rw [el]; omega⟩
    injection hx with hx
    subst hx
    rw [el] at hj
    rw [hcell j (by omega), List.getD_eq_getElem?_getD, List.getD_eq_getElem?_getD, List.getElem?_take_of_lt hj]

set_option maxHeartbeats 400000 in
/-- Lists of slices of bytes. -/
theorem open_rowsF {H : Type} {enc : TypeId × Value → H} {W : World} {fuel : Nat} {v0 : Value} {y : DataW H × List MemPlace} (hf : DataW.trod enc Tryz.prog W 0 (fun _ => true) true fuel 112 [v0] = some y) (hs : ∀ m ∈ y.1.weights Tryz.prog 112, m ≤ reachBytes) :
    ∃ f, BsR W v0 f ∧ (∀ l ∈ f, (∀ x ∈ l, 0 ≤ x ∧ x ≤ 255) ∧ l.length ≤ 140737488351232) ∧ f.length * 24 ≤ 140737488351232 := by
  rcases Go.Deep.open_slice Tryz.underlying112 hf with ⟨e1, _⟩ | ⟨a, len, cap, m, n', D, Pl, e1, _, hl, hm, hmm, rfl, hel⟩
  · simp only [List.cons.injEq, and_true] at e1
    rw [e1]
    exact ⟨[], BsR.nil _, by simp, by simp⟩
  · simp only [List.cons.injEq, and_true] at e1
    rw [e1]
    simp only [if_true] at hmm
    subst hmm
    have hc1 : Tryz.prog.cellsOf 31 = 1 := by kernel_rfl
    have hby : Tryz.prog.bytesOf 31 = 24 := by kernel_rfl
    have hw : (((List.range len).map D).length + ((List.range (m - len)).map fun j => D (len + j)).length) * Tryz.prog.bytesOf 31 ≤ reachBytes := by
      refine hs _ ?_
      simp [DataW.weights, Tryz.underlying112]
    rw [hby] at hw
    simp only [List.length_map, List.length_range, reachBytes] at hw
    rw [hc1] at hel
    have each : ∀ i, i < len → ∃ y : List Int, (∃ u, W.cell? ⟨a.block, a.off + i, none⟩ = some u ∧ Reads .u8 W u y) ∧ a.spot = none ∧ a.block < W.heap.size ∧ (∀ x ∈ y, 0 ≤ x ∧ x ≤ 255) ∧ y.length ≤ 140737488351232 := by
      intro i hi
      obtain ⟨cs', hc, ht⟩ := hel i (by omega)
      have hs3 : ∀ q ∈ (D i).weights Tryz.prog 31, q ≤ reachBytes := fun q hq => hs q (by
        simp only [DataW.weights, Tryz.underlying112, List.mem_cons, List.mem_append]
        exact .inr (.inl (weights_allM (List.mem_map.2 ⟨i, by simpa using hi, rfl⟩) q hq)))
      obtain ⟨_, hcl, hcell⟩ := World.cells?_some hc
      obtain ⟨u, rfl⟩ : ∃ u, cs' = [u] := by
        match cs', hcl with
        | [u], _ => exact ⟨u, rfl⟩
      obtain ⟨es, hR, hB, hL⟩ := open_bytesF ht hs3
      have k0 := hcell 0 (by omega)
      rw [addr_addrM] at k0
      simp only [List.getElem?_cons_zero] at k0
      have hsp : a.spot = none := by
        obtain ⟨cs0, hc0, ht0⟩ := hel 0 (by omega)
        obtain ⟨_, hl0, hcell0⟩ := World.cells?_some hc0
        have q0 := hcell0 0 (by omega)
        have e0 : (a.add (0 * 1)).add 0 = a := by simp [Addr.add]
        rw [e0] at q0
        rw [List.getElem?_eq_getElem (by omega)] at q0
        exact World.cell?_spot q0
      obtain ⟨ab, ao, asp⟩ := a
      simp only at hsp
      subst hsp
      rw [addr_plus] at k0
      simp only [Nat.mul_one, Nat.add_zero] at k0
      exact ⟨es, ⟨u, k0, hR⟩, rfl, World.block_lt_of_cell? W ⟨ab, ao + i, none⟩ k0, hB, hL⟩
    obtain ⟨F, hF⟩ := @Go.Deep.choose_lt (List Int) ⟨[]⟩ len _ each
    have hfl : ((List.range len).map F).length = len := by simp
    refine ⟨(List.range len).map F, ⟨some a, m, by rw [hfl], by rw [hfl]; exact hl, hm, fun hn => ?_⟩, fun l hl2 => ?_, by rw [hfl]; omega⟩
    · rw [hfl] at hn
      obtain ⟨_, hsp, hlt, _⟩ := hF 0 hn
      refine ⟨a.block, a.off, by obtain ⟨ab, ao, asp⟩ := a; simp only at hsp; subst hsp; rfl, hlt, fun i x hx => ?_⟩
      rw [List.getElem?_map] at hx
      rcases Nat.lt_or_ge i len with h' | h'
      · rw [List.getElem?_range h'] at hx
        simp at hx
        subst hx
        exact (hF i h').1
      · rw [List.getElem?_eq_none (by simpa using h')] at hx; cases hx
    · obtain ⟨i, hi, rfl⟩ := List.mem_map.1 hl2
      exact (hF i (by simpa using hi)).2.2.2

/-- A queue's loose mail and its runs. -/
def QuR (w : World) (vl vr : Value) (lo : List Ml) (rs : List (List Int)) : Prop := MlR w vl lo ∧ BsR w vr rs
theorem QuR.below {w w' : World} {vl vr : Value} {lo : List Ml} {rs : List (List Int)} {B : Nat} (h : QuR w vl vr lo rs) (hb : Below B w w') (hB : w.heap.size ≤ B) : QuR w' vl vr lo rs := ⟨h.1.below hb hB, h.2.below hb hB⟩
/-- How great they may be. -/
def QuB (lo : List Ml) (rs : List (List Int)) : Prop := ((∀ x ∈ lo, mlB x) ∧ lo.length * 16 ≤ 140737488351232) ∧ (∀ l ∈ rs, (∀ x ∈ l, 0 ≤ x ∧ x ≤ 255) ∧ l.length ≤ 140737488351232) ∧ rs.length * 24 ≤ 140737488351232

set_option maxHeartbeats 400000 in
theorem open_queue {H : Type} {enc : TypeId × Value → H} {W : World} {v0 : Value} {d0 : DataW H} {p0 : List MemPlace} (hv : ∃ cs, v0 = .agg cs ∧ cs.size = Tryz.prog.cellsOf 114) (h0 : DataW.Trod enc Tryz.prog W 0 (fun _ => true) true 114 v0 d0 p0)
    (hs : ∀ m ∈ d0.weights Tryz.prog 114, m ≤ reachBytes) : ∃ n vl vr lo rs, v0 = .agg #[.int .i64 n, vl, vr] ∧ i64B n ∧ QuR W vl vr lo rs ∧ QuB lo rs := by
  obtain ⟨cs, rfl, hcs⟩ := hv
  have hc1 : Tryz.prog.cellsOf 114 = 3 := by kernel_rfl
  have hc2 : Tryz.prog.cellsOf 26 = 1 := by kernel_rfl
  have hc3 : Tryz.prog.cellsOf 112 = 1 := by kernel_rfl
  rw [hc1] at hcs
  obtain ⟨u, v, x, rfl⟩ : ∃ u v x, cs = #[u, v, x] := by
    obtain ⟨l⟩ := cs
    match l, hcs with
    | [u, v, x], _ => exact ⟨u, v, x, rfl⟩
  obtain ⟨fuel, hf⟩ := h0
  obtain ⟨xs, n, _, hx, _, hxl, hfld⟩ := DataW.trod_struct Tryz.underlying114 hf
  have h1 := hfld 0 _ rfl
  have h2 := hfld 1 _ rfl
  have h3 := hfld 2 _ rfl
  match xs, hxl with
  | [y0, y1, y2], _ =>
    have e1 : ((Value.agg #[u, v, x]).cells.toList.drop 0).take (Tryz.prog.cellsOf 3) = [u] := by rw [cells3M]; rfl
    have e2 : ((Value.agg #[u, v, x]).cells.toList.drop 1).take (Tryz.prog.cellsOf 26) = [v] := by rw [hc2]; rfl
    have e3 : ((Value.agg #[u, v, x]).cells.toList.drop 2).take (Tryz.prog.cellsOf 112) = [x] := by rw [hc3]; rfl
    simp only [List.getElem?_cons_zero, List.getElem?_cons_succ] at h1 h2 h3
    have h1' : DataW.trod enc Tryz.prog W 0 (fun _ => true) true n 3 [u] = some y0 := by rw [← e1]; exact h1
    have h2' : DataW.trod enc Tryz.prog W 0 (fun _ => true) true n 26 [v] = some y1 := by rw [← e2]; exact h2
    have h3' : DataW.trod enc Tryz.prog W 0 (fun _ => true) true n 112 [x] = some y2 := by rw [← e3]; exact h3
    obtain ⟨i, e0, _, hi⟩ := DataW.trod_int Tryz.underlying3 h1'
    simp only [List.cons.injEq, and_true] at e0
    subst e0
    simp only [Prod.mk.injEq] at hx
    obtain ⟨rfl, _⟩ := hx
    have hs2 : ∀ m ∈ y1.1.weights Tryz.prog 26, m ≤ reachBytes := fun m hm => hs m (by
      simp only [DataW.weights, Tryz.underlying114, List.map_cons, List.map_nil, DataW.weightsEach, List.mem_append]
      simp [hm])
    have hs3 : ∀ m ∈ y2.1.weights Tryz.prog 112, m ≤ reachBytes := fun m hm => hs m (by
      simp only [DataW.weights, Tryz.underlying114, List.map_cons, List.map_nil, DataW.weightsEach, List.mem_append]
      simp [hm])
    obtain ⟨lo, hR, hB, hL⟩ := open_mailsF h2' hs2
    obtain ⟨rs, kR, kB, kL⟩ := open_rowsF h3' hs3
    exact ⟨i, v, x, lo, rs, rfl, bounds_i64 hi, ⟨hR, kR⟩, ⟨hB, hL⟩, kB, kL⟩

theorem open_mail {H : Type} {enc : TypeId × Value → H} {W : World} {v0 : Value} {d0 : DataW H} {p0 : List MemPlace} (hv : ∃ cs, v0 = .agg cs ∧ cs.size = Tryz.prog.cellsOf 62) (h0 : DataW.Trod enc Tryz.prog W 0 (fun _ => true) true 62 v0 d0 p0) :
    ∃ e : Ml, v0 = .agg #[.int .i64 e.1, .int .i64 e.2] ∧ mlB e := by
  obtain ⟨cs, rfl, hcs⟩ := hv
  obtain ⟨fuel, hf⟩ := h0
  obtain ⟨e, he, hb⟩ := open_two Tryz.underlying62 (by kernel_rfl) rfl rfl rfl rfl hf
  refine ⟨e, ?_, hb⟩
  obtain ⟨l⟩ := cs
  have : l = encM e := he
  rw [this]
  rfl
end Go.Proofs.YtkgdenbabafeoaaGreatDoor

namespace Go.Proofs.YtkgdenbabafeoaaGreatDoor
set_option maxRecDepth 100000
open Go.ChangeShapes Go.WideShapes Go.ChangeAt Go.RowKit

theorem boxQ_set {w : World} {q i : Nat} {cs : Array Value} {u : Value} {t : TypeId} (h : w.heap[q]? = some (.cells cs t (0, 0))) : (w.setCell ⟨q, i, none⟩ u).heap[q]? = some (.cells (cs.setIfInBounds i u) t (0, 0)) := by
  simp only [World.setCell, Array.getElem?_modify, if_true]
  rw [h]
  rfl
theorem boxQ_cells {w : World} {q : Nat} {cs : Array Value} {t : TypeId} (h : w.heap[q]? = some (.cells cs t (0, 0))) (i : Nat) : w.cell? ⟨q, i, none⟩ = cs[i]? := cell_of_row _ _ _ _ _ _ h
/-- The block q holds a queue. -/
def QX (w : World) (q : Nat) (a b c : Value) : Prop := w.heap[q]? = some (.cells #[a, b, c] 114 (0, 0))
theorem QX.cells {w : World} {q : Nat} {a b c : Value} (h : QX w q a b c) : w.cell? ⟨q, 0, none⟩ = some a ∧ w.cell? ⟨q, 1, none⟩ = some b ∧ w.cell? ⟨q, 2, none⟩ = some c := ⟨boxQ_cells h 0, boxQ_cells h 1, boxQ_cells h 2⟩
theorem QX.frozen {w : World} {q : Nat} {a b c : Value} (h : QX w q a b c) (i : Nat) : w.frozen? ⟨q, i, none⟩ = false := box_frozen h i
theorem QX.lt {w : World} {q : Nat} {a b c : Value} (h : QX w q a b c) : q < w.heap.size := (Array.getElem?_eq_some_iff.1 h).1
theorem QX.kept {S : Nat → Prop} {w w' : World} {q : Nat} {a b c : Value} (h : QX w q a b c) (hk : Kept S w w') (hs : ¬ S q) : QX w' q a b c := (hk.block q h.lt hs).trans h
theorem QX.below {w w' : World} {q B : Nat} {a b c : Value} (h : QX w q a b c) (hb : Below B w w') (hq : q < B) : QX w' q a b c := (hb.block q hq).trans h
theorem QX.new (w : World) (a b c : Value) : QX (w.alloc (.cells #[a, b, c] 114)) w.heap.size a b c := heap_alloc_new w _
theorem QX.set0 {w : World} {q : Nat} {a b c : Value} (h : QX w q a b c) (u : Value) : QX (w.setCell ⟨q, 0, none⟩ u) q u b c := boxQ_set h
theorem QX.set1 {w : World} {q : Nat} {a b c : Value} (h : QX w q a b c) (u : Value) : QX (w.setCell ⟨q, 1, none⟩ u) q a u c := boxQ_set h
theorem QX.set2 {w : World} {q : Nat} {a b c : Value} (h : QX w q a b c) (u : Value) : QX (w.setCell ⟨q, 2, none⟩ u) q a b u := boxQ_set h
theorem QX.other {w : World} {q p i : Nat} {a b c u : Value} (h : QX w q a b c) (hne : q ≠ p) : QX (w.setCell ⟨p, i, none⟩ u) q a b c := h.kept (Kept.box w p i u) (fun e => hne e)
theorem QX.drew {w : World} {q : Nat} {a b c : Value} (h : QX w q a b c) : QX w.drew q a b c := h
/-- Rows stay where a queue's box is written. -/
theorem QX.own {w : World} {q i base n size : Nat} {e : TypeId} {a b c v u : Value} {xs : List Value} (h : QX w q a b c) (ho : w.ownsRow base e size v n xs) (hne : e ≠ 114) : (w.setCell ⟨q, i, none⟩ u).ownsRow base e size v n xs :=
  (Kept.box w q i u).own ho fun _ hg => own_block ho hg h hne
theorem OwnBs.boxQ {w : World} {q i base : Nat} {a b c v u : Value} {f : List (List Int)} (hq : QX w q a b c) (h : OwnBs w base v f) : OwnBs (w.setCell ⟨q, i, none⟩ u) base v f := h.box hq (by decide) (by decide)
/-- Whole stores. -/
def putQ (w : World) (q : Nat) (a b c : Value) : World := ((w.setCell ⟨q, 0, none⟩ a).setCell ⟨q, 1, none⟩ b).setCell ⟨q, 2, none⟩ c
theorem QX.put {w : World} {q : Nat} {a b c : Value} (h : QX w q a b c) (x y z : Value) : QX (putQ w q x y z) q x y z := ((h.set0 x).set1 y).set2 z
theorem QX.putOther {w : World} {q p : Nat} {a b c x y z : Value} (h : QX w q a b c) (hne : q ≠ p) : QX (putQ w p x y z) q a b c := ((h.other hne).other hne).other hne
theorem QX.ownPut {w : World} {q base n size : Nat} {e : TypeId} {a b c v x y z : Value} {xs : List Value} (h : QX w q a b c) (ho : w.ownsRow base e size v n xs) (hne : e ≠ 114) : (putQ w q x y z).ownsRow base e size v n xs :=
  ((h.set0 x).set1 y).own ((h.set0 x).own (h.own ho hne) hne) hne
theorem OwnBs.putQ {w : World} {q base : Nat} {a b c v x y z : Value} {f : List (List Int)} (hq : QX w q a b c) (h : OwnBs w base v f) : OwnBs (putQ w q x y z) base v f := (((h.boxQ hq).boxQ (hq.set0 x)).boxQ ((hq.set0 x).set1 y))
theorem below_putQ {B : Nat} {w0 w : World} {q : Nat} (h : Below B w0 w) (hq : B ≤ q) (x y z : Value) : Below B w0 (putQ w q x y z) := ((h.setCell (p := ⟨q, 0, none⟩) hq x).setCell (p := ⟨q, 1, none⟩) hq y).setCell (p := ⟨q, 2, none⟩) hq z
/-- A box made ahead of a call, behind it. -/
theorem newQ {W V : World} (h : Below (W.drew.alloc (.cells #[.int .i64 0, .slice none 0 0, .slice none 0 0] 114)).heap.size (W.drew.alloc (.cells #[.int .i64 0, .slice none 0 0, .slice none 0 0] 114)) V) : QX V W.heap.size (.int .i64 0) (.slice none 0 0) (.slice none 0 0) := (QX.new W.drew (.int .i64 0) (.slice none 0 0) (.slice none 0 0)).below h (by simp)
theorem QX.all {w : World} {q : Nat} {a b c : Value} (h : QX w q a b c) : w.cell? ⟨q, 0, none⟩ = some a ∧ w.cell? ⟨q, 1, none⟩ = some b ∧ w.cell? ⟨q, 2, none⟩ = some c ∧ (w.frozen? ⟨q, 0, none⟩ = false ∧ w.frozen? ⟨q, 1, none⟩ = false ∧ w.frozen? ⟨q, 2, none⟩ = false) := ⟨h.cells.1, h.cells.2.1, h.cells.2.2, h.frozen 0, h.frozen 1, h.frozen 2⟩
end Go.Proofs.YtkgdenbabafeoaaGreatDoor

namespace Go.Proofs.YtkgdenbabafeoaaGreatDoor
set_option maxRecDepth 100000
open Go.ChangeShapes Go.WideShapes Go.ChangeAt Go.RowKit

/-- P9.3, of the budget and what is loose. -/
def looB (n : Int) (lo : List Ml) : Bool := decide (1 ≤ n ∧ n ≤ 1000 ∧ (lo.length : Int) < n) && mayA lo
theorem looB_no {n : Int} {lo : List Ml} (h : ¬ (1 ≤ n ∧ n ≤ 1000 ∧ (lo.length : Int) < n)) : looB n lo = false := by unfold looB; rw [decide_eq_false h]; rfl
theorem looB_yes {n : Int} {lo : List Ml} (h : 1 ≤ n ∧ n ≤ 1000 ∧ (lo.length : Int) < n) : looB n lo = mayA lo := by unfold looB; rw [decide_eq_true h]; rfl
theorem okQ_loo (n : Int) (lo : List Ml) (m : Nat) : okQ n lo m = (looB n lo && decide (m ≤ 5000)) := by
  rw [Bool.eq_iff_iff, okQ_iff, Bool.and_eq_true]
  unfold looB
  rw [Bool.and_eq_true, decide_eq_true_iff, decide_eq_true_iff]
  exact ⟨fun ⟨⟨a, b, c, d⟩, e⟩ => ⟨⟨⟨a, b, c⟩, e⟩, d⟩, fun ⟨⟨⟨a, b, c⟩, e⟩, d⟩ => ⟨⟨a, b, c, d⟩, e⟩⟩

set_option maxHeartbeats 1000000 in
theorem looseMayBe_any (n : Int) (vl vr : Value) (lo : List Ml) (w : World) (h : MlR w vl lo) :
    Calls Tryz.prog 96 #[.agg #[.int .i64 n, vl, vr]] w fun e w' => e = .returned (.bool (looB n lo)) ∧ Below w.heap.size w w' := by
  have HR : Hid (MlR w vl lo) := h
  obtain ⟨a, cap, rfl, hc, hm, _, _⟩ := h
  unfold maxLen at hm
  have hb : ∀ o, Below w.heap.size w (w.alloc o) := fun o => below_alloc w o
  by_cases h0 : 1 ≤ n
  · by_cases h1 : n ≤ 1000
    · by_cases h2 : (lo.length : Int) < n
      · rw [looB_yes ⟨h0, h1, h2⟩]
        have HA : Hid (∀ X, MlR X (.slice a lo.length cap) lo → Calls Tryz.prog 107 #[.slice a lo.length cap] X fun e w' => e = .returned (.bool (!mayA lo)) ∧ Below X.heap.size X w') := fun X hX => anyBarred_any _ lo X hX
        have e0 : decide (1 ≤ n) = true := decide_eq_true h0
        have e1 : decide (n ≤ 1000) = true := decide_eq_true h1
        have e2 : decide ((lo.length : Int) < n) = true := decide_eq_true h2
        generalize mayA lo = r at HA ⊢
        clear h0 h1 h2
        go_enter Tryz.func96, Tryz.ntmps96
        go_wp2_with fail
        refine (HA.out _ (HR.out.below (hb _) (Nat.le_refl _))).mono ?_
        rintro e w1 ⟨rfl, hb1⟩
        have HB : Hid (Below w.heap.size w w1) := (hb _).trans (hb1.mono (by simp))
        clear hb1
        cases r
        · go_wp2_with fail
          go_ret
          exact ⟨rfl, HB.out⟩
        · go_wp2_with fail
          go_ret
          exact ⟨rfl, HB.out⟩
      · rw [looB_no (by omega)]
        have e2 : decide ((lo.length : Int) < n) = false := decide_eq_false h2
        go_enter Tryz.func96, Tryz.ntmps96
        go_wp2_with fail
        go_ret
        exact ⟨rfl, hb _⟩
    · rw [looB_no (by omega)]
      have e1 : decide (n ≤ 1000) = false := decide_eq_false h1
      go_enter Tryz.func96, Tryz.ntmps96
      go_wp2_with fail
      go_ret
      exact ⟨rfl, hb _⟩
  · rw [looB_no (by omega)]
    have e1 : decide (1 ≤ n) = false := decide_eq_false h0
    go_enter Tryz.func96, Tryz.ntmps96
    go_wp2_with fail
    go_ret
    exact ⟨rfl, hb _⟩

/-- What unpackAll answers. -/
def UnpP (w : World) (o : Option (List (List Ml))) (e : Ending) (w' : World) : Prop := ∃ v', e = .returned (.tuple #[v', .int .i64 (errQ o)]) ∧ OwnLm w' w.heap.size v' (o.getD []) ∧ Below w.heap.size w w'

set_option maxHeartbeats 2000000 in
set_option maxRecDepth 100000 in
theorem unpackAll_any (n : Int) (vl vr : Value) (lo : List Ml) (rs : List (List Int)) (w : World) (h : QuR w vl vr lo rs) (hB : QuB lo rs) :
    Calls Tryz.prog 81 #[.agg #[.int .i64 n, vl, vr]] w (UnpP w (quF n lo rs)) := by
  have HR : Hid (MlR w vl lo) := h.1
  have HS : Hid (BsR w vr rs) := h.2
  have HBY : Hid (∀ b ∈ rs, ∀ x ∈ b, 0 ≤ x ∧ x ≤ 255) := fun b hb => (hB.2.1 b hb).1
  obtain ⟨a, cap, rfl⟩ := h.1.shape
  obtain ⟨c, cap2, rfl, hc2, hm2, _⟩ := id h.2
  have hlr : rs.length * 24 ≤ 140737488351232 := hB.2.2
  unfold maxLen at hm2
  clear h hB
  have HLo : Hid (∀ X, MlR X (.slice a lo.length cap) lo → Calls Tryz.prog 96 #[.agg #[.int .i64 n, .slice a lo.length cap, .slice c rs.length cap2]] X fun e w' => e = .returned (.bool (looB n lo)) ∧ Below X.heap.size X w') := fun X hX => looseMayBe_any n _ _ lo X hX
  have HNo : Hid (quF n lo rs = none → ∀ w', Below w.heap.size w w' → UnpP w (quF n lo rs) (.returned (.tuple #[.slice none 0 0, .int .i64 9])) w') := fun e w' hw => by rw [e]; exact ⟨_, rfl, OwnLm.nil _ _, hw⟩
  have HYes : Hid (∀ f, quF n lo rs = some f → ∀ v w', OwnLm w' w.heap.size v f → Below w.heap.size w w' → UnpP w (quF n lo rs) (.returned (.tuple #[v, .int .i64 0])) w') := fun f e v w' ho hw => by rw [e]; exact ⟨_, rfl, ho, hw⟩
  cases hlo : looB n lo
  · have HX : Hid _ := HNo.out (quF_no (by rw [okQ_loo, hlo]; rfl))
    generalize UnpP w (quF n lo rs) = P at *
    rw [hlo] at HLo
    clear HNo HYes hlo
    go_enter Tryz.func81, Tryz.ntmps81
    go_wp2_with fail
    refine (HLo.out _ (HR.out.below (below_alloc _ _) (Nat.le_refl _))).mono ?_
    rintro e w1 ⟨rfl, hb1⟩
    have HE : Hid (P (.returned (.tuple #[.slice none 0 0, .int .i64 9])) w1) := HX.out _ ((below_alloc _ _).trans (hb1.mono (by simp)))
    clear hb1 HX
    go_wp2_with fail
    exact HE.out
  · by_cases hrl : rs.length ≤ 5000
    · have hok : okQ n lo rs.length = true := by rw [okQ_loo, hlo]; exact decide_eq_true hrl
      have HQ : Hid (quF n lo rs = unpF (5000 - lo.length) rs) := quF_yes hok
      have hle : lo.length < 1000 := by obtain ⟨⟨_, h2, h3, _⟩, _⟩ := okQ_iff.1 hok; omega
      have HNo2 : Hid (unpF (5000 - lo.length) rs = none → ∀ w', Below w.heap.size w w' → UnpP w (quF n lo rs) (.returned (.tuple #[.slice none 0 0, .int .i64 9])) w') := fun e => HNo.out (HQ.out.trans e)
      have HYes2 : Hid (∀ f, unpF (5000 - lo.length) rs = some f → ∀ v w', OwnLm w' w.heap.size v f → Below w.heap.size w w' → UnpP w (quF n lo rs) (.returned (.tuple #[v, .int .i64 0])) w') := fun f e => HYes.out f (HQ.out.trans e)
      generalize UnpP w (quF n lo rs) = P at *
      rw [hlo] at HLo
      clear HNo HYes hlo HQ hok
      have e5 : ¬ (5000 : Int) < (rs.length : Int) := by omega
      obtain ⟨R0, hR0, hR1⟩ : ∃ R0 : Nat, 5000 - lo.length = R0 ∧ IntKind.i64.wrap (5000 - (lo.length : Int)) = (R0 : Int) := ⟨_, rfl, by rw [IntKind.wrap_i64]; omega⟩
      rw [hR0] at HNo2 HYes2
      have hR2 : R0 ≤ 5000 := by omega
      clear hR0
      go_enter Tryz.func81, Tryz.ntmps81
      go_wp2_with fail
      refine (HLo.out _ (HR.out.below (below_alloc _ _) (Nat.le_refl _))).mono ?_
      rintro e w1 ⟨rfl, hb1⟩
      have hb1' : Below (w.heap.size + 1) (w.alloc (.cells #[.int .i64 n, .slice a lo.length cap, .slice c rs.length cap2] 114)) w1 := by simpa using hb1
      have B1 : Hid (Below w.heap.size w w1) := box_below hb1'
      obtain ⟨q0, q1, q2⟩ := ((QX.new w (.int .i64 n) (.slice a lo.length cap) (.slice c rs.length cap2)).below hb1' (Nat.lt_succ_self _)).cells
      clear hb1 hb1' HLo
      go_wp2_with fail
      go_loopw [4, 5, 26] (fun m x i wr => ∃ (k R : Nat) (f : List (List Ml)), k ≤ rs.length ∧ i = .int .i64 k ∧ m = .int .i64 R ∧ UpTo R0 rs k f ∧ R0 ≤ R + sumM f ∧ R + sumM f ≤ R0 ∧ OwnLm wr w.heap.size x f ∧ Below w.heap.size w wr) (fun _ _ i _ => rs.length - (intOf i).toNat)
      case atStart => exact ⟨0, R0, [], by omega, rfl, rfl, UpTo.zero _ _, by simp [sumM], by simp [sumM], OwnLm.nil _ _, B1.out⟩
      case round =>
        obtain ⟨k, R, f, hk, rfl, rfl, hto, hr1, hr2, hown, hbel⟩ := hrel
        have TO : Hid (UpTo R0 rs k f) := hto
        have OW : Hid (OwnLm wr w.heap.size u5 f) := hown
        have HB : Hid (Below w.heap.size w wr) := hbel
        have hsr := hbel.size
        have hfl : f.length ≤ k := Nat.le_of_eq hto.1
        obtain ⟨va, vc, rfl⟩ : ∃ a c, u5 = .slice a f.length c := by obtain ⟨a, c, e, _⟩ := hown.reads; exact ⟨a, c, e⟩
        clear hto hown hbel
        by_cases hlt : k < rs.length
        · obtain ⟨b, off, cap', e1, lt, _, _, hv⟩ := (HS.out.below HB.out (Nat.le_refl _)).at (by omega)
          injection e1 with e1 e2 e3
          subst e1 e3
          clear e2
          obtain ⟨l, hl⟩ := getX hlt
          obtain ⟨u, hu, hpr⟩ := hv k l hl
          have HK : Hid (rs[k]? = some l) := hl
          have HU : Hid (∀ X, Reads .u8 X u l → Calls Tryz.prog 97 #[u] X (RefP X (errR (runF l)) ((runF l).getD []))) := fun X hX => unpack_any u l X hX (HBY.out l (List.mem_of_getElem? hl))
          have HP : Hid (Reads .u8 wr u l) := hpr
          obtain ⟨ua, uc, rfl, _⟩ := id hpr
          clear hl hv hpr
          cases hrf : runF l with
          | none =>
            have HE : Hid (∀ w', Below w.heap.size w w' → P (.returned (.tuple #[.slice none 0 0, .int .i64 9])) w') := HNo2.out (TO.out.bad HK.out hrf)
            rw [hrf] at HU
            clear hrf
            go_wp2_with fail
            refine (HU.out _ HP.out).mono ?_
            rintro e w2 ⟨v2, rfl, _, hb2⟩
            have HX : Hid (P (.returned (.tuple #[.slice none 0 0, .int .i64 9])) w2) := HE.out _ (HB.out.trans (hb2.mono hsr))
            clear hb2
            unfold errR
            go_wp2_with fail
            exact HX.out
          | some x =>
            rw [hrf] at HU
            by_cases hx : x.length ≤ R
            · have TO2 : Hid (UpTo R0 rs (k + 1) (f ++ [x])) := TO.out.step HK.out hrf (by omega)
              have HS2 : Hid (sumM (f ++ [x]) = sumM f + x.length) := sumM_snoc f x
              have hx2 : ¬ (R : Int) < (x.length : Int) := by omega
              have hsub : IntKind.i64.wrap ((R : Int) - (x.length : Int)) = ((R - x.length : Nat) : Int) := by rw [IntKind.wrap_i64]; omega
              obtain ⟨R2, hR3⟩ : ∃ R2, R - x.length = R2 := ⟨_, rfl⟩
              rw [hR3] at hsub
              have hR4 : R2 + x.length ≤ R := by omega
              have hR5 : R ≤ R2 + x.length := by omega
              clear hrf hR3
              go_wp2_with fail
              refine (HU.out _ HP.out).mono ?_
              rintro e w2 ⟨v2, rfl, ho2, hb2⟩
              have O2 : Hid (w2.ownsRow w.heap.size 62 2 v2 x.length (x.flatMap encM)) := own_lower ho2 hsr
              have OL : Hid (OwnLm w2 w.heap.size (.slice va f.length vc) f) := OW.out.kept (Kept.of (S := fun _ => False) hb2) (fun _ _ h => h)
              have B2 : Hid (Below w.heap.size w w2) := HB.out.trans (hb2.mono hsr)
              have hs2 := B2.out.size
              obtain ⟨xa, xc, rfl⟩ := (MlR.ownd O2.out).shape
              clear ho2 hb2
              unfold errR
              go_wp2_with (at_builtin; refine wpList_append_lm rfl _ _ rfl w.heap.size _ f rfl (OL.out.kept (Kept.of (S := fun _ => False) (below_alloc w2 _)) (fun _ _ h => h)) w2.heap.size (.slice xa x.length xc) x rfl (0, 0) (heap_alloc_new _ _) (O2.out.alloc _) ?d1 ?d2 ?_)
              case d1 => omega
              case d2 => simp; omega
              intro g c3 w3 hown3 hg3 _
              have O3 : Hid (OwnLm w3 w.heap.size (.slice (some ⟨g, 0, none⟩) (f.length + 1) c3) (f ++ [x])) := hown3
              have B3 : Hid (Below w.heap.size w w3) := (B2.out.alloc hs2 _).grown hg3 (by simp; omega) (fun j hj => by
                obtain ⟨vs, hrow⟩ := OL.out.row
                exact (own_geM hrow hj).1)
              clear hown3 hg3
              go_wp2_with fail
              go_roundw
              case rel => exact ⟨k + 1, R2, f ++ [x], by omega, by go_num, rfl, TO2.out, by rw [HS2.out]; omega, by rw [HS2.out]; omega, O3.out, B3.out⟩
              case measure => simp [intOf]; omega
            · have HE : Hid (∀ w', Below w.heap.size w w' → P (.returned (.tuple #[.slice none 0 0, .int .i64 9])) w') := HNo2.out (TO.out.much HK.out hrf (by omega))
              have hx2 : (R : Int) < (x.length : Int) := by omega
              clear hrf
              go_wp2_with fail
              refine (HU.out _ HP.out).mono ?_
              rintro e w2 ⟨v2, rfl, ho2, hb2⟩
              have HX : Hid (P (.returned (.tuple #[.slice none 0 0, .int .i64 9])) w2) := HE.out _ (HB.out.trans (hb2.mono hsr))
              obtain ⟨xa, xc, rfl⟩ := (MlR.ownd (show w2.ownsRow wr.heap.size 62 2 v2 x.length (x.flatMap encM) from ho2)).shape
              clear hb2 ho2
              unfold errR
              go_wp2_with fail
              exact HX.out
        · have HX : Hid (P (.returned (.tuple #[.slice va f.length vc, .int .i64 0])) wr) := HYes2.out f (TO.out.done (by omega)) _ _ OW.out HB.out
          clear TO OW
          go_wp2_with fail
          exact HX.out
    · have HX : Hid _ := HNo.out (quF_no (by rw [okQ_loo, hlo]; exact decide_eq_false hrl))
      generalize UnpP w (quF n lo rs) = P at *
      rw [hlo] at HLo
      clear HNo HYes hlo
      have e5 : (5000 : Int) < (rs.length : Int) := by omega
      go_enter Tryz.func81, Tryz.ntmps81
      go_wp2_with fail
      refine (HLo.out _ (HR.out.below (below_alloc _ _) (Nat.le_refl _))).mono ?_
      rintro e w1 ⟨rfl, hb1⟩
      have HE : Hid (P (.returned (.tuple #[.slice none 0 0, .int .i64 9])) w1) := HX.out _ ((below_alloc _ _).trans (hb1.mono (by simp)))
      have hb1' : Below (w.heap.size + 1) (w.alloc (.cells #[.int .i64 n, .slice a lo.length cap, .slice c rs.length cap2] 114)) w1 := by simpa using hb1
      obtain ⟨q0, q1, q2⟩ := ((QX.new w (.int .i64 n) (.slice a lo.length cap) (.slice c rs.length cap2)).below hb1' (Nat.lt_succ_self _)).cells
      clear hb1 hb1' HX
      go_wp2_with fail
      exact HE.out
set_option maxHeartbeats 1000000 in
set_option maxRecDepth 100000 in
theorem countQ_any (v : Value) (f : List (List Ml)) (w : World) (h : LmR w v f) (hs : sumM f ≤ 4611686018427387904) :
    Calls Tryz.prog 82 #[v] w fun e w' => e = .returned (.int .i64 (sumM f : Nat)) ∧ w' = w := by
  have HR : Hid (LmR w v f) := h
  obtain ⟨a, cap, rfl, hc, hm, _⟩ := h
  unfold maxLen at hm
  go_enter Tryz.func82, Tryz.ntmps82
  go_wp2_with fail
  go_loopw [3, 8] (fun s i wr => ∃ k : Nat, k ≤ f.length ∧ i = .int .i64 k ∧ s = .int .i64 (sumM (f.take k) : Nat) ∧ wr = w) (fun _ i _ => f.length - (intOf i).toNat)
  case atStart => exact ⟨0, by omega, rfl, rfl, rfl⟩
  case round =>
    obtain ⟨k, hk, rfl, rfl, rfl⟩ := hrel
    by_cases hlt : k < f.length
    · obtain ⟨b, off, cap', e1, lt, _, _, hv⟩ := HR.out.at (by omega)
      injection e1 with e1 _ e3
      subst e1 e3
      obtain ⟨l, hl⟩ := getX hlt
      obtain ⟨u, hu, hpr⟩ := hv k l hl
      obtain ⟨ua, uc, rfl⟩ := hpr.shape
      have HT : Hid (sumM (f.take (k + 1)) = sumM (f.take k) + l.length) := sumM_take hl
      have hs1 := sumM_le f (k + 1)
      have hs2 := HT.out
      have hs3 : sumM (f.take k) + l.length ≤ 4611686018427387904 := by omega
      clear hs1 hs2 hl hv hpr
      generalize sumM (f.take k) = s at *
      go_wp2_with fail
      go_roundw
      case rel => exact ⟨k + 1, by omega, by go_num, by rw [HT.out]; go_num, trivial⟩
      case measure => simp [intOf]; omega
    · have ek : f.take k = f := List.take_of_length_le (by omega)
      have HT : Hid (sumM (f.take k) = sumM f) := by show _ = _; rw [ek]
      clear ek
      generalize sumM (f.take k) = s at *
      go_wp2_with fail
      go_ret
      exact ⟨by rw [HT.out]; rfl, rfl⟩
end Go.Proofs.YtkgdenbabafeoaaGreatDoor

namespace Go.Proofs.YtkgdenbabafeoaaGreatDoor
set_option maxRecDepth 100000
open Go.ChangeShapes Go.WideShapes Go.ChangeAt Go.RowKit

/-- What Count answers. -/
def CntP (w : World) (lo : List Ml) (o : Option (List (List Ml))) (e : Ending) (w' : World) : Prop := e = .returned (.tuple #[.int .i64 (countF lo o : Nat), .int .i64 (errQ o)]) ∧ Below w.heap.size w w'

set_option maxHeartbeats 1000000 in
set_option maxRecDepth 100000 in
theorem queueCount_any (n : Int) (vl vr : Value) (lo : List Ml) (rs : List (List Int)) (w : World) (h : QuR w vl vr lo rs) (hB : QuB lo rs) :
    Calls Tryz.prog 66 #[.agg #[.int .i64 n, vl, vr]] w (CntP w lo (quF n lo rs)) := by
  have HR : Hid (QuR w vl vr lo rs) := h
  have HU : Hid (∀ X, QuR X vl vr lo rs → Calls Tryz.prog 81 #[.agg #[.int .i64 n, vl, vr]] X (UnpP X (quF n lo rs))) := fun X hX => unpackAll_any n vl vr lo rs X hX hB
  have HQ : Hid (∀ f, quF n lo rs = some f → lo.length + sumM f ≤ 5000) := fun f hf => (quF_inv hf).2.2.2.2.2.2.1
  obtain ⟨a, cap, rfl⟩ := h.1.shape
  obtain ⟨c, cap2, rfl, _⟩ := id h.2
  clear h hB
  generalize quF n lo rs = o at *
  have hb : ∀ o, Below w.heap.size w (w.alloc o) := fun o => below_alloc w o
  cases o with
  | none =>
    have HE : Hid (∀ w', Below w.heap.size w w' → CntP w lo none (.returned (.tuple #[.int .i64 0, .int .i64 9])) w') := fun w' hw => ⟨rfl, hw⟩
    generalize CntP w lo none = P at *
    go_enter Tryz.func66, Tryz.ntmps66
    go_wp2_with fail
    refine (HU.out _ (HR.out.below (hb _) (Nat.le_refl _))).mono ?_
    rintro e w1 ⟨v1, rfl, ho, hb1⟩
    have HX : Hid (P (.returned (.tuple #[.int .i64 0, .int .i64 9])) w1) := HE.out w1 ((hb _).trans (hb1.mono (by simp)))
    clear hb1 ho
    unfold errQ
    go_wp2_with fail
    exact HX.out
  | some f =>
    have hs := HQ.out f rfl
    have HE : Hid (∀ w', Below w.heap.size w w' → CntP w lo (some f) (.returned (.tuple #[.int .i64 (lo.length + sumM f : Nat), .int .i64 0])) w') := fun w' hw => ⟨rfl, hw⟩
    generalize CntP w lo (some f) = P at *
    go_enter Tryz.func66, Tryz.ntmps66
    go_wp2_with fail
    refine (HU.out _ (HR.out.below (hb _) (Nat.le_refl _))).mono ?_
    rintro e w1 ⟨v1, rfl, ho, hb1⟩
    have hb1' : Below (w.heap.size + 1) (w.alloc (.cells #[.int .i64 n, .slice a lo.length cap, .slice c rs.length cap2] 114)) w1 := by simpa using hb1
    obtain ⟨q0, q1, q2⟩ := ((QX.new w (.int .i64 n) (.slice a lo.length cap) (.slice c rs.length cap2)).below hb1' (Nat.lt_succ_self _)).cells
    have HX : Hid (∀ w', Below w1.heap.size w1 w' → P (.returned (.tuple #[.int .i64 (lo.length + sumM f : Nat), .int .i64 0])) w') := fun w' hw => HE.out w' ((box_below hb1').trans (hw.mono (box_below hb1').size))
    have HL : Hid (LmR w1 v1 f) := ho.reads
    obtain ⟨fa, fc, rfl⟩ : ∃ a c, v1 = .slice a f.length c := by obtain ⟨a, c, e, _⟩ := ho.reads; exact ⟨a, c, e⟩
    have hadd : IntKind.i64.wrap ((lo.length : Int) + (sumM f : Nat)) = ((lo.length + sumM f : Nat) : Int) := by rw [IntKind.wrap_i64]; omega
    have HC : Hid (∀ X, LmR X (.slice fa f.length fc) f → Calls Tryz.prog 82 #[.slice fa f.length fc] X fun e w' => e = .returned (.int .i64 (sumM f : Nat)) ∧ w' = X) := fun X hX => countQ_any _ f X hX (by omega)
    clear hb1 hb1' ho HU HR
    generalize lo.length + sumM f = tot at *
    generalize sumM f = sf at *
    unfold errQ
    go_wp2_with fail
    go_quiet ((go_at_call 82; exact Calls.quiet_of_same (HC.out _ HL.out)))
    have HY : Hid (∀ m, P (.returned (.tuple #[.int .i64 (tot : Nat), .int .i64 0])) (w1.drewN m)) := fun m => HX.out _ (below_drewN (Below.refl _ _) m)
    go_wp2_with fail
    exact HY.out _
end Go.Proofs.YtkgdenbabafeoaaGreatDoor

namespace Go.Proofs.YtkgdenbabafeoaaGreatDoor
set_option maxRecDepth 100000
open Go.ChangeShapes Go.WideShapes Go.ChangeAt Go.RowKit

theorem mlR_new {w : World} {g : Nat} {m : Ml} {t : TypeId} (h : w.heap[g]? = some (.cells #[.int .i64 m.1, .int .i64 m.2] t)) : MlR w (.slice (some ⟨g, 0, none⟩) 1 1) [m] := by
  refine ⟨some ⟨g, 0, none⟩, 1, rfl, by simp, by simp [maxLen], fun h => (by cases h), fun _ => ⟨g, 0, rfl, ?_, ?_⟩⟩
  · exact (Array.getElem?_eq_some_iff.1 h).1
  · intro i x hx j u hu
    cases i with
    | succ i => simp at hx
    | zero =>
      simp only [List.getElem?_cons_zero, Option.some.injEq] at hx
      subst hx
      cases j with
      | zero =>
        have e : u = .int .i64 m.1 := by simpa [encM] using hu.symm
        rw [e, cell_of_row _ _ _ _ _ _ h]; rfl
      | succ j =>
        cases j with
        | zero =>
          have e : u = .int .i64 m.2 := by simpa [encM] using hu.symm
          rw [e, cell_of_row _ _ _ _ _ _ h]; rfl
        | succ j => simp [encM] at hu
set_option maxHeartbeats 1000000 in
theorem valBarred_any (m : Ml) (w : World) : Calls Tryz.prog 38 #[.agg #[.int .i64 m.1, .int .i64 m.2]] w fun e w' => e = .returned (.bool (!valS m)) ∧ Below w.heap.size w w' := by
  obtain ⟨a, b⟩ := m
  simp only
  have hb : ∀ o, Below w.heap.size w (w.alloc o) := fun o => below_alloc w o
  have HY : Hid (¬ (-1 ≤ a ∧ a ≤ 4398046511104 ∧ -1 ≤ b ∧ b < 200) → (!valS (a, b)) = true) := fun h => by rw [valS_no.2 h]; rfl
  have HN : Hid ((-1 ≤ a ∧ a ≤ 4398046511104 ∧ -1 ≤ b ∧ b < 200) → (!valS (a, b)) = false) := fun h => by rw [valS_iff.2 h]; rfl
  generalize (!valS (a, b)) = r at *
  by_cases h0 : a < -1
  · have e := HY.out (by omega)
    subst e
    clear HY HN
    go_enter Tryz.func38, Tryz.ntmps38
    go_wp2_with fail
    go_ret
    exact ⟨rfl, hb _⟩
  · by_cases h1 : 4398046511104 < a
    · have e := HY.out (by omega)
      subst e
      clear HY HN
      go_enter Tryz.func38, Tryz.ntmps38
      go_wp2_with fail
      go_ret
      exact ⟨rfl, hb _⟩
    · by_cases h2 : b < -1
      · have e := HY.out (by omega)
        subst e
        clear HY HN
        go_enter Tryz.func38, Tryz.ntmps38
        go_wp2_with fail
        go_ret
        exact ⟨rfl, hb _⟩
      · by_cases h3 : 200 ≤ b
        · have e := HY.out (by omega)
          subst e
          clear HY HN
          go_enter Tryz.func38, Tryz.ntmps38
          go_wp2_with fail
          go_ret
          exact ⟨rfl, hb _⟩
        · have e := HN.out (by omega)
          subst e
          clear HY HN
          go_enter Tryz.func38, Tryz.ntmps38
          go_wp2_with fail
          go_ret
          exact ⟨rfl, hb _⟩

set_option maxHeartbeats 1000000 in
theorem indexVal_any (v : Value) (l : List Ml) (w : World) (h : MlR w v l) :
    Calls Tryz.prog 63 #[v, .func (.func 38) #[] #[]] w fun e w' => (∃ r : Int, e = .returned (.int .i64 r) ∧ decide (0 ≤ r) = !valA l) ∧ Below w.heap.size w w' := by
  have HR : Hid (MlR w v l) := h
  obtain ⟨a, cap, rfl, hc, hm, _, _⟩ := h
  unfold maxLen at hm
  go_enter Tryz.func63, Tryz.ntmps63
  go_wp2_with fail
  go_loopw [8] (fun i wr => ∃ k : Nat, k ≤ l.length ∧ i = .int .i64 k ∧ valA (l.take k) = true ∧ Below w.heap.size w wr) (fun i _ => l.length - (intOf i).toNat)
  case atStart => exact ⟨0, by omega, rfl, rfl, Below.refl _ _⟩
  case round =>
    obtain ⟨k, hk, rfl, hno, hbel⟩ := hrel
    have HNO : Hid (valA (l.take k) = true) := hno
    have HB : Hid (Below w.heap.size w wr) := hbel
    have hsr := hbel.size
    clear hno hbel
    by_cases hlt : k < l.length
    · obtain ⟨b, off, cap', e1, _, _, lt, hv⟩ := MlR.at (HR.out.below HB.out (Nat.le_refl _)) (by omega)
      injection e1 with e1 e2 e3
      subst e1 e3
      clear e2
      obtain ⟨x, hx⟩ := getX hlt
      obtain ⟨c1, c2⟩ := hv k x hx
      have HX : Hid (l[k]? = some x) := hx
      clear hv hx
      cases ho : valS x
      · have HA : Hid (valA l = false) := valA_hit HX.out ho
        go_wp2_with fail
        refine (valBarred_any x _).mono ?_
        rw [ho]
        rintro e w2 ⟨rfl, hb2⟩
        go_wp2_with fail
        go_ret
        exact ⟨⟨k, rfl, by rw [HA.out]; simp⟩, HB.out.trans (hb2.mono hsr)⟩
      · have HN2 : Hid (valA (l.take (k + 1)) = true) := valA_cut HX.out HNO.out ho
        go_wp2_with fail
        refine (valBarred_any x _).mono ?_
        rw [ho]
        rintro e w2 ⟨rfl, hb2⟩
        go_wp2_with fail
        go_roundw
        case rel => exact ⟨k + 1, by omega, by go_num, HN2.out, HB.out.trans (hb2.mono hsr)⟩
        case measure => simp [intOf]; omega
    · have ek : l.take k = l := List.take_of_length_le (by omega)
      have HA : Hid (valA l = true) := by have := HNO.out; rwa [ek] at this
      clear ek
      go_wp2_with fail
      go_ret
      exact ⟨⟨-1, rfl, by rw [HA.out]; rfl⟩, HB.out⟩

set_option maxHeartbeats 400000 in
theorem containsVal_any (v : Value) (l : List Ml) (w : World) (h : MlR w v l) :
    Calls Tryz.prog 37 #[v, .func (.func 38) #[] #[]] w fun e w' => e = .returned (.bool (!valA l)) ∧ Below w.heap.size w w' := by
  have hcon := indexVal_any v l w h
  obtain ⟨a, cap, rfl⟩ := h.shape
  generalize (!valA l) = r at hcon ⊢
  clear h
  go_enter Tryz.func37, Tryz.ntmps37
  go_wp2_with fail
  refine hcon.mono ?_
  rintro e w2 ⟨⟨j, rfl, hj⟩, hb2⟩
  have HJ : Hid (decide (0 ≤ j) = r) := hj
  clear hj
  go_wp2_with fail
  go_ret
  exact ⟨ret_bool HJ.out, hb2⟩

set_option maxHeartbeats 1000000 in
set_option maxRecDepth 100000 in
/-- A queue with this one piece may not be for one thing alone. -/
theorem mailBarred_any (m : Ml) (w : World) (hB : mlB m) : Calls Tryz.prog 41 #[.agg #[.int .i64 m.1, .int .i64 m.2]] w fun e w' => e = .returned (.bool (!mayM m)) ∧ Below w.heap.size w w' := by
  have CQ : Hid (∀ X v, MlR X v [m] → Calls Tryz.prog 66 #[.agg #[.int .i64 1000, v, .slice none 0 0]] X fun e w' => ∃ c : Int, e = .returned (.tuple #[.int .i64 c, .int .i64 (if mayM m then 0 else 9)]) ∧ Below X.heap.size X w') := fun X v hX => by
    have h1 := queueCount_any 1000 v (.slice none 0 0) [m] [] X ⟨hX, BsR.nil X⟩ ⟨⟨fun x hx => by simp only [List.mem_cons, List.not_mem_nil, or_false] at hx; subst hx; exact hB, by simp⟩, fun l hl => by simp at hl, by simp⟩
    have e1 : mayA [m] = mayM m := by unfold mayA; simp
    have hE : errQ (quF 1000 [m] []) = if mayM m then 0 else 9 := by
      cases hm : mayM m with
      | false =>
        have h0 : okQ 1000 [m] ([] : List (List Int)).length = false := by
          unfold okQ
          rw [e1, hm]; simp
        rw [quF_no h0]; rfl
      | true =>
        have h0 : okQ 1000 [m] ([] : List (List Int)).length = true := okQ_iff.2 ⟨⟨by omega, by omega, by simp, by simp⟩, e1.trans hm⟩
        rw [quF_yes h0]; rfl
    exact h1.mono fun e w' h => ⟨_, by rw [← hE]; exact h.1, h.2⟩
  have HE : Hid (((if mayM m then (0 : Int) else 9) != 0) = !mayM m) := by show _ = _; cases mayM m <;> rfl
  obtain ⟨a, b⟩ := m
  simp only
  generalize (!mayM (a, b)) = r at *
  obtain ⟨z, hz⟩ : ∃ z : Int, (if mayM (a, b) then (0 : Int) else 9) = z := ⟨_, rfl⟩
  rw [hz] at CQ HE
  clear hz hB
  have X0 : BX 62 (w.alloc (.cells #[.int .i64 a, .int .i64 b] 62)) w.heap.size #[.int .i64 a, .int .i64 b] := BX.new _ _ _
  have R1 : Hid (MlR ((w.alloc (.cells #[.int .i64 a, .int .i64 b] 62)).alloc (.cells #[.int .i64 a, .int .i64 b] 62)) (.slice (some ⟨w.heap.size + 1, 0, none⟩) 1 1) [(a, b)]) := by
    have h1 : ((w.alloc (.cells #[.int .i64 a, .int .i64 b] 62)).alloc (.cells #[.int .i64 a, .int .i64 b] 62)).heap[w.heap.size + 1]? = some (.cells #[.int .i64 a, .int .i64 b] 62) := by
      have := heap_alloc_new (w.alloc (.cells #[.int .i64 a, .int .i64 b] 62)) (.cells #[.int .i64 a, .int .i64 b] 62)
      simpa using this
    exact mlR_new h1
  have B1 : Hid (Below w.heap.size w ((w.alloc (.cells #[.int .i64 a, .int .i64 b] 62)).alloc (.cells #[.int .i64 a, .int .i64 b] 62))) := (below_alloc w _).alloc (by simp) _
  obtain ⟨m0, m1, _⟩ := X0.all2
  clear X0
  go_enter Tryz.func41, Tryz.ntmps41
  go_wp2_with fail
  refine (CQ.out _ _ R1.out).mono ?_
  rintro e w2 ⟨c, rfl, hb2⟩
  have B2 : Hid (Below w.heap.size w w2) := B1.out.trans (hb2.mono B1.out.size)
  clear hb2 m0 m1 B1 R1 CQ
  go_wp2_with fail
  go_ret
  exact ⟨ret_bool HE.out, B2.out⟩
set_option maxHeartbeats 1000000 in
theorem indexMal_any (v : Value) (l : List Ml) (w : World) (h : MlR w v l) (hB : ∀ x ∈ l, mlB x) :
    Calls Tryz.prog 65 #[v, .func (.func 41) #[] #[]] w fun e w' => (∃ r : Int, e = .returned (.int .i64 r) ∧ decide (0 ≤ r) = !mayA l) ∧ Below w.heap.size w w' := by
  have HR : Hid (MlR w v l) := h
  have HB0 : Hid (∀ x ∈ l, mlB x) := hB
  clear hB
  obtain ⟨a, cap, rfl, hc, hm, _, _⟩ := h
  unfold maxLen at hm
  go_enter Tryz.func65, Tryz.ntmps65
  go_wp2_with fail
  go_loopw [8] (fun i wr => ∃ k : Nat, k ≤ l.length ∧ i = .int .i64 k ∧ mayA (l.take k) = true ∧ Below w.heap.size w wr) (fun i _ => l.length - (intOf i).toNat)
  case atStart => exact ⟨0, by omega, rfl, rfl, Below.refl _ _⟩
  case round =>
    obtain ⟨k, hk, rfl, hno, hbel⟩ := hrel
    have HNO : Hid (mayA (l.take k) = true) := hno
    have HB : Hid (Below w.heap.size w wr) := hbel
    have hsr := hbel.size
    clear hno hbel
    by_cases hlt : k < l.length
    · obtain ⟨b, off, cap', e1, _, _, lt, hv⟩ := MlR.at (HR.out.below HB.out (Nat.le_refl _)) (by omega)
      injection e1 with e1 e2 e3
      subst e1 e3
      clear e2
      obtain ⟨x, hx⟩ := getX hlt
      obtain ⟨c1, c2⟩ := hv k x hx
      have HX : Hid (l[k]? = some x) := hx
      clear hv hx
      cases ho : mayM x
      · have HA : Hid (mayA l = false) := mayA_hit HX.out ho
        go_wp2_with fail
        refine (mailBarred_any x _ (HB0.out x (List.mem_of_getElem? HX.out))).mono ?_
        rw [ho]
        rintro e w2 ⟨rfl, hb2⟩
        go_wp2_with fail
        go_ret
        exact ⟨⟨k, rfl, by rw [HA.out]; simp⟩, HB.out.trans (hb2.mono hsr)⟩
      · have HN2 : Hid (mayA (l.take (k + 1)) = true) := mayA_cut HX.out HNO.out ho
        go_wp2_with fail
        refine (mailBarred_any x _ (HB0.out x (List.mem_of_getElem? HX.out))).mono ?_
        rw [ho]
        rintro e w2 ⟨rfl, hb2⟩
        go_wp2_with fail
        go_roundw
        case rel => exact ⟨k + 1, by omega, by go_num, HN2.out, HB.out.trans (hb2.mono hsr)⟩
        case measure => simp [intOf]; omega
    · have ek : l.take k = l := List.take_of_length_le (by omega)
      have HA : Hid (mayA l = true) := by have := HNO.out; rwa [ek] at this
      clear ek
      go_wp2_with fail
      go_ret
      exact ⟨⟨-1, rfl, by rw [HA.out]; rfl⟩, HB.out⟩

set_option maxHeartbeats 400000 in
theorem containsMal_any (v : Value) (l : List Ml) (w : World) (h : MlR w v l) (hB : ∀ x ∈ l, mlB x) :
    Calls Tryz.prog 40 #[v, .func (.func 41) #[] #[]] w fun e w' => e = .returned (.bool (!mayA l)) ∧ Below w.heap.size w w' := by
  have hcon := indexMal_any v l w h hB
  obtain ⟨a, cap, rfl⟩ := h.shape
  generalize (!mayA l) = r at hcon ⊢
  clear h hB
  go_enter Tryz.func40, Tryz.ntmps40
  go_wp2_with fail
  refine hcon.mono ?_
  rintro e w2 ⟨⟨j, rfl, hj⟩, hb2⟩
  have HJ : Hid (decide (0 ≤ j) = r) := hj
  clear hj
  go_wp2_with fail
  go_ret
  exact ⟨ret_bool HJ.out, hb2⟩

end Go.Proofs.YtkgdenbabafeoaaGreatDoor

namespace Go.Proofs.YtkgdenbabafeoaaGreatDoor
set_option maxRecDepth 100000
open Go.ChangeShapes Go.WideShapes Go.ChangeAt Go.RowKit

theorem BX.all5 {t : TypeId} {w : World} {q : Nat} {a b c d e : Value} (h : BX t w q #[a, b, c, d, e]) : w.cell? ⟨q, 0, none⟩ = some a ∧ w.cell? ⟨q, 1, none⟩ = some b ∧ w.cell? ⟨q, 2, none⟩ = some c ∧ w.cell? ⟨q, 3, none⟩ = some d ∧ w.cell? ⟨q, 4, none⟩ = some e := ⟨h.cell 0, h.cell 1, h.cell 2, h.cell 3, h.cell 4⟩
theorem svMay_head {s : SvS} (h : ¬ (0 ≤ s.step ∧ s.step ≤ 100000 ∧ (s.phase = 0 ∨ s.phase = 1))) : svMay s = false := by rw [Bool.eq_false_iff]; intro g; exact h (svMay_iff.1 g).1
theorem svMay_vals {s : SvS} (h : ¬ (s.vals.length ≤ 200 ∧ valA s.vals = true)) : svMay s = false := by rw [Bool.eq_false_iff]; intro g; exact h ⟨(svMay_iff.1 g).2.1, (svMay_iff.1 g).2.2.1⟩
theorem svMay_mail {s : SvS} (h : errL s.mail ≠ 0) : svMay s = false := by
  rw [Bool.eq_false_iff]
  intro g
  obtain ⟨_, _, _, h1, h2, _⟩ := svMay_iff.1 g
  apply h
  unfold errL
  rw [if_neg (by omega), if_pos h2]
theorem errL_zero {l : List Ml} (h : errL l = 0) : l.length ≤ 5000 ∧ srtMb l = true := by
  unfold errL at h
  by_cases h1 : l.length > 5000
  · rw [if_pos h1] at h; cases h
  · rw [if_neg h1] at h
    cases h2 : srtMb l with
    | false => rw [h2] at h; cases h
    | true => exact ⟨by omega, rfl⟩

set_option maxHeartbeats 4000000 in
set_option maxRecDepth 100000 in
theorem sMayBe_any (s : SvS) (vv vm : Value) (w : World) (hv : MlR w vv s.vals) (hm : MlR w vm s.mail) (hB : ∀ x ∈ s.mail, mlB x) :
    Calls Tryz.prog 19 #[.agg #[.int .i64 s.step, .int .i64 s.phase, .bool s.fresh, vv, vm]] w fun e w' => e = .returned (.bool (svMay s)) ∧ Below w.heap.size w w' := by
  have HV : Hid (MlR w vv s.vals) := hv
  have HM : Hid (MlR w vm s.mail) := hm
  have HB : Hid (∀ x ∈ s.mail, mlB x) := hB
  obtain ⟨va, vc, rfl, hvc, hvm, _, _⟩ := hv
  obtain ⟨ma, mc, rfl, hmc, hmm, _, _⟩ := hm
  unfold maxLen at hvm hmm
  have H1 : Hid (¬ (0 ≤ s.step ∧ s.step ≤ 100000 ∧ (s.phase = 0 ∨ s.phase = 1)) → svMay s = false) := svMay_head
  have H2 : Hid (¬ (s.vals.length ≤ 200 ∧ valA s.vals = true) → svMay s = false) := svMay_vals
  have H3 : Hid (errL s.mail ≠ 0 → svMay s = false) := svMay_mail
  have H4 : Hid ((0 ≤ s.step ∧ s.step ≤ 100000 ∧ (s.phase = 0 ∨ s.phase = 1)) → (s.vals.length ≤ 200 ∧ valA s.vals = true) → errL s.mail = 0 → svMay s = mayA s.mail) := fun h1 h2 h3 => by
    obtain ⟨h4, h5⟩ := errL_zero h3
    rw [Bool.eq_iff_iff, svMay_iff]
    exact ⟨fun h => h.2.2.2.2.2, fun h => ⟨h1, h2.1, h2.2, h4, h5, h⟩⟩
  have CV : Hid (∀ X, MlR X (.slice va s.vals.length vc) s.vals → Calls Tryz.prog 37 #[.slice va s.vals.length vc, .func (.func 38) #[] #[]] X fun e w' => e = .returned (.bool (!valA s.vals)) ∧ Below X.heap.size X w') := fun X hX => containsVal_any _ s.vals X hX
  have CL : Hid (∀ X, MlR X (.slice ma s.mail.length mc) s.mail → Calls Tryz.prog 39 #[.slice ma s.mail.length mc] X (RefP X (errL s.mail) (lowM s.mail))) := fun X hX => least_any _ s.mail X hX
  have CM : Hid (∀ X, MlR X (.slice ma s.mail.length mc) s.mail → Calls Tryz.prog 40 #[.slice ma s.mail.length mc, .func (.func 41) #[] #[]] X fun e w' => e = .returned (.bool (!mayA s.mail)) ∧ Below X.heap.size X w') := fun X hX => containsMal_any _ s.mail X hX HB.out
  generalize svMay s = r at *
  generalize valA s.vals = bv at *
  generalize mayA s.mail = bm at *
  generalize lowM s.mail = lo at *
  generalize errL s.mail = el at *
  obtain ⟨st, ph, fr, vs, ms⟩ := s
  simp only at HV HM H1 H2 H3 H4 CV CL CM hvc hvm hmc hmm ⊢
  clear hB HB
  generalize vs.length = nv at *
  generalize ms.length = nm at *
  have X0 : BX 28 (w.alloc (.cells #[.int .i64 st, .int .i64 ph, .bool fr, .slice va nv vc, .slice ma nm mc] 28)) w.heap.size #[.int .i64 st, .int .i64 ph, .bool fr, .slice va nv vc, .slice ma nm mc] := BX.new _ _ _
  have B0 : Below w.heap.size w (w.alloc (.cells #[.int .i64 st, .int .i64 ph, .bool fr, .slice va nv vc, .slice ma nm mc] 28)) := below_alloc _ _
  go_enter Tryz.func19, Tryz.ntmps19
  go_upto_region 1 with fail
  generalize w.alloc (.cells #[.int .i64 st, .int .i64 ph, .bool fr, .slice va nv vc, .slice ma nm mc] 28) = W0 at *
  have HK : Hid (∀ X, Below W0.heap.size W0 X → BX 28 X w.heap.size #[.int .i64 st, .int .i64 ph, .bool fr, .slice va nv vc, .slice ma nm mc] ∧ Below w.heap.size w X ∧ MlR X (.slice va nv vc) vs ∧ MlR X (.slice ma nm mc) ms) := fun X hX => ⟨X0.below hX X0.lt, B0.trans (hX.mono B0.size), HV.out.below (B0.trans (hX.mono B0.size)) (Nat.le_refl _), HM.out.below (B0.trans (hX.mono B0.size)) (Nat.le_refl _)⟩
  have A0 : Hid (Below W0.heap.size W0 W0) := Below.refl _ _
  have BW0 : Hid (Below w.heap.size w W0) := B0
  obtain ⟨c0, c1, c2, c3, c4⟩ := X0.all5
  clear X0 B0 HV HM
  obtain ⟨b1, hb1⟩ : ∃ b : Bool, b = decide (¬ (0 ≤ st ∧ st ≤ 100000 ∧ (ph = 0 ∨ ph = 1))) := ⟨_, rfl⟩
  have HB1 : Hid (b1 = decide (¬ (0 ≤ st ∧ st ≤ 100000 ∧ (ph = 0 ∨ ph = 1)))) := hb1
  clear hb1
  go_cut [22] from 22 to 22 (fun t wx => t = .bool b1 ∧ W0 = wx)
  case first =>
    clear H1 H2 H3 H4 CV CL CM HK
    by_cases h1 : st < 0
    · have e : Hid (Value.bool true = .bool b1) := by show _ = _; rw [HB1.out, decide_eq_true (by omega)]
      clear HB1
      go_wp2_with fail
      go_meet
      case rel => exact ⟨e.out, rfl⟩
    · by_cases h2 : st > 100000
      · have e : Hid (Value.bool true = .bool b1) := by show _ = _; rw [HB1.out, decide_eq_true (by omega)]
        clear HB1
        go_wp2_with fail
        go_meet
        case rel => exact ⟨e.out, rfl⟩
      · by_cases h3 : ph = 0
        · have e : Hid (Value.bool false = .bool b1) := by show _ = _; rw [HB1.out, decide_eq_false (by omega)]
          have t3 : (ph != 0) = false := by simpa using h3
          clear HB1 h3
          go_wp2_with fail
          go_meet
          case rel => exact ⟨e.out, rfl⟩
        · have t3 : (ph != 0) = true := by simpa using h3
          by_cases h4 : ph = 1
          · have e : Hid (Value.bool false = .bool b1) := by show _ = _; rw [HB1.out, decide_eq_false (by omega)]
            have t4 : (ph != 1) = false := by simpa using h4
            clear HB1 h3 h4
            go_wp2_with fail
            go_meet
            case rel => exact ⟨e.out, rfl⟩
          · have e : Hid (Value.bool true = .bool b1) := by show _ = _; rw [HB1.out, decide_eq_true (by omega)]
            have t4 : (ph != 1) = true := by simpa using h4
            clear HB1 h3 h4
            go_wp2_with fail
            go_meet
            case rel => exact ⟨e.out, rfl⟩
  case rest =>
  obtain ⟨rfl, rfl⟩ := hcut
  cases b1
  · have HH : Hid (0 ≤ st ∧ st ≤ 100000 ∧ (ph = 0 ∨ ph = 1)) := by have h := of_decide_eq_false HB1.out.symm; exact Classical.not_not.1 h
    clear HB1 H1
    go_upto_region 3 with fail
    obtain ⟨b2, hb2⟩ : ∃ b : Bool, b = decide (¬ (nv ≤ 200 ∧ bv = true)) := ⟨_, rfl⟩
    have HB2 : Hid (b2 = decide (¬ (nv ≤ 200 ∧ bv = true))) := hb2
    clear hb2
    go_cut [31] from 31 to 31 (fun t wx => t = .bool b2 ∧ Below W0.heap.size W0 wx)
    case first =>
      by_cases h1 : 200 < nv
      · have e : Hid (Value.bool true = .bool b2) := by show _ = _; rw [HB2.out, decide_eq_true (by omega)]
        have t1 : decide ((nv : Int) > 200) = true := decide_eq_true (by omega)
        have t1' : (200 : Int) < (nv : Int) := by omega
        clear HB2 H2 H3 H4 CV CL CM
        go_wp2_with fail
        go_meet
        case rel => exact ⟨e.out, A0.out⟩
      · have e : Hid (Value.bool (!bv) = .bool b2) := by
          show _ = _
          rw [HB2.out]
          cases bv
          · rw [decide_eq_true (by simp)]; rfl
          · rw [decide_eq_false (by simp; omega)]; rfl
        have t1 : decide ((nv : Int) > 200) = false := decide_eq_false (by omega)
        have t1' : ¬ (200 : Int) < (nv : Int) := by omega
        clear HB2 H2 H3 H4 CL CM
        go_wp2_with fail
        refine (CV.out _ (HK.out _ A0.out).2.2.1).mono ?_
        rintro e w1 ⟨rfl, hb1⟩
        have A1 : Hid (Below W0.heap.size W0 w1) := hb1
        clear hb1
        go_wp2_with fail
        go_meet
        case rel => exact ⟨e.out, A1.out⟩
    case rest =>
    obtain ⟨rfl, hbc⟩ := hcut
    have AC : Hid (Below W0.heap.size W0 wc) := hbc
    obtain ⟨Q1, bw1, _, _⟩ := HK.out _ hbc
    have BW1 : Hid (Below w.heap.size w wc) := bw1
    clear c0 c1 c2 c3 c4 hbc bw1
    obtain ⟨c0, c1, c2, c3, c4⟩ := Q1.all5
    clear Q1
    cases b2
    · have HJ : Hid (nv ≤ 200 ∧ bv = true) := by have h := of_decide_eq_false HB2.out.symm; exact Classical.not_not.1 h
      clear HB2 H2 CV
      go_wp2_with fail
      refine (CL.out _ (HK.out _ AC.out).2.2.2).mono ?_
      rintro e w2 ⟨v2, rfl, ho2, hb2⟩
      have A2 : Hid (Below W0.heap.size W0 w2) := AC.out.trans (hb2.mono AC.out.size)
      obtain ⟨Q2, bw2, _, _⟩ := HK.out _ A2.out
      have BW2 : Hid (Below w.heap.size w w2) := bw2
      clear c0 c1 c2 c3 c4 ho2 hb2 bw2 AC BW1
      obtain ⟨c0, c1, c2, c3, c4⟩ := Q2.all5
      clear Q2
      by_cases h3 : el = 0
      · have e := H4.out HH.out HJ.out h3
        have HR : Hid (r = bm) := e
        have t3 : (el != 0) = false := by simpa using h3
        clear e h3 H3 H4 CL
        go_wp2_with fail
        refine (CM.out _ (HK.out _ A2.out).2.2.2).mono ?_
        rintro e w3 ⟨rfl, hb3⟩
        have BW3 : Hid (Below w.heap.size w w3) := BW2.out.trans (hb3.mono BW2.out.size)
        clear hb3 c0 c1 c2 c3 c4
        go_wp2_with fail
        go_ret
        exact ⟨ret_bool (by rw [HR.out]), BW3.out⟩
      · have e := H3.out h3
        subst e
        have t3 : (el != 0) = true := by simpa using h3
        clear h3 H3 H4 CL CM
        go_wp2_with fail
        go_ret
        exact ⟨rfl, BW2.out⟩
    · have e := H2.out (by have := HB2.out; exact of_decide_eq_true this.symm)
      subst e
      clear HB2 H2 H3 H4 CV CL CM
      go_wp2_with fail
      go_ret
      exact ⟨rfl, BW1.out⟩
  · have e := H1.out (by have := HB1.out; exact of_decide_eq_true this.symm)
    subst e
    clear HB1 H1 H2 H3 H4 CV CL CM
    go_wp2_with fail
    go_ret
    exact ⟨rfl, BW0.out⟩
end Go.Proofs.YtkgdenbabafeoaaGreatDoor

namespace Go.Proofs.YtkgdenbabafeoaaGreatDoor
set_option maxRecDepth 100000
open Go.ChangeShapes Go.WideShapes Go.ChangeAt Go.RowKit

theorem own_lit1 (w : World) (base : Nat) (hb : base ≤ w.heap.size) (x : Int) : (w.alloc (.cells #[.int .i64 x] 3)).ownsRow base 3 1 (.slice (some ⟨w.heap.size, 0, none⟩) 1 1) ([x] : List Int).length (([x] : List Int).flatMap encI) :=
  ⟨by simp [encI], .inr ⟨w.heap.size, 1, #[.int .i64 x], rfl, hb, heap_alloc_new w _, by simp, by simp [maxLen], by simp, by simp [encI]⟩⟩
theorem own_lit2 (w : World) (base : Nat) (hb : base ≤ w.heap.size) (x y : Int) : (w.alloc (.cells #[.int .i64 x, .int .i64 y] 3)).ownsRow base 3 1 (.slice (some ⟨w.heap.size, 0, none⟩) 2 2) ([x, y] : List Int).length (([x, y] : List Int).flatMap encI) :=
  ⟨by simp [encI], .inr ⟨w.heap.size, 2, #[.int .i64 x, .int .i64 y], rfl, hb, heap_alloc_new w _, by simp, by simp [maxLen], by simp, by simp [encI]⟩⟩
theorem own_lit4 (w : World) (base : Nat) (hb : base ≤ w.heap.size) (x y z u : Int) : (w.alloc (.cells #[.int .i64 x, .int .i64 y, .int .i64 z, .int .i64 u] 3)).ownsRow base 3 1 (.slice (some ⟨w.heap.size, 0, none⟩) 4 4) ([x, y, z, u] : List Int).length (([x, y, z, u] : List Int).flatMap encI) :=
  ⟨by simp [encI], .inr ⟨w.heap.size, 4, #[.int .i64 x, .int .i64 y, .int .i64 z, .int .i64 u], rfl, hb, heap_alloc_new w _, by simp, by simp [maxLen], by simp, by simp [encI]⟩⟩
theorem own_lenB {w : World} {base : Nat} {a : Option Addr} {n c : Nat} {l : List Int} (h : w.ownsRow base 5 1 (.slice a n c) l.length (l.map (Value.int .u8))) : n = l.length := by
  rcases h.2 with ⟨hv, h0⟩ | ⟨g, cap, cur, hv, _⟩
  · injection hv with _ h1 _; omega
  · injection hv with _ h1 _
/-- What Encode answers. -/
def BytP2 (w : World) (r : List Int × Int) (e : Ending) (w' : World) : Prop := ∃ v', e = .returned (.tuple #[v', .int .i64 r.2]) ∧ w'.ownsRow w.heap.size 5 1 v' r.1.length (r.1.map (Value.int .u8)) ∧ Below w.heap.size w w'
theorem BytP2.no {w w' : World} {f : Int} (hb : Below w.heap.size w w') : BytP2 w ([], f) (.returned (.tuple #[.slice none 0 0, .int .i64 f])) w' := ⟨_, rfl, World.ownsRow_nil _ _ _ _, hb⟩

set_option maxHeartbeats 8000000 in
set_option maxRecDepth 100000 in
theorem sEnc_any (s : SvS) (vv vm : Value) (w : World) (hv : MlR w vv s.vals) (hm : MlR w vm s.mail) (hB : ∀ x ∈ s.mail, mlB x) :
    Calls Tryz.prog 8 #[.agg #[.int .i64 s.step, .int .i64 s.phase, .bool s.fresh, vv, vm]] w (BytP2 w (encS s)) := by
  have HV : Hid (MlR w vv s.vals) := hv
  have HM : Hid (MlR w vm s.mail) := hm
  have CM : Hid (∀ X, MlR X vv s.vals → MlR X vm s.mail → Calls Tryz.prog 19 #[.agg #[.int .i64 s.step, .int .i64 s.phase, .bool s.fresh, vv, vm]] X fun e w' => e = .returned (.bool (svMay s)) ∧ Below X.heap.size X w') := fun X h1 h2 => sMayBe_any s vv vm X h1 h2 hB
  obtain ⟨va, vc, rfl, hvc, hvm, _, _⟩ := hv
  obtain ⟨ma, mc, rfl, hmc, hmm, _, _⟩ := hm
  unfold maxLen at hvm hmm
  have EN : Hid (svMay s = false → encS s = ([], 9)) := encS_no
  have EB : Hid (svMay s = true → ¬ (bytN (numsS s)).length ≤ 20000 → encS s = ([], 1)) := encS_big
  have EY : Hid (svMay s = true → (bytN (numsS s)).length ≤ 20000 → encS s = (wrap (bytN (numsS s)), 0)) := encS_yes
  have NI : Hid (svMay s = true → ∀ n ∈ numsS s, 0 ≤ n ∧ n ≤ 4398046511105) := numsS_in
  have NB : Hid (svMay s = true → (0 ≤ s.step ∧ s.step ≤ 100000) ∧ (s.phase = 0 ∨ s.phase = 1) ∧ s.vals.length ≤ 200 ∧ s.mail.length ≤ 5000 ∧ (∀ x ∈ s.vals, -1 ≤ x.1 ∧ x.1 ≤ 4398046511104 ∧ -1 ≤ x.2 ∧ x.2 < 200) ∧ (∀ x ∈ s.mail, 0 ≤ x.1 ∧ x.1 < 200 ∧ 0 ≤ x.2 ∧ x.2 ≤ 4398046511104)) := fun h => by
    obtain ⟨⟨h1, h2, h3⟩, h4, h5, h6, _, h7⟩ := svMay_iff.1 h
    exact ⟨⟨h1, h2⟩, h3, h4, h6, fun x hx => valS_iff.1 (valA_iff.1 h5 x hx), fun x hx => mayM_iff.1 (mayA_iff.1 h7 x hx)⟩
  have NE : Hid (bytN (numsS s) = (((bytN [s.step, s.phase, if s.fresh then 1 else 0, (s.vals.length : Int)]) ++ bytN (pairN 1 s.vals)) ++ bytN [(s.mail.length : Int)]) ++ bytN (pairN 0 s.mail)) := by
    show _ = _
    unfold numsS
    rw [bytN_app, bytN_app, bytN_app, List.append_assoc, List.append_assoc]
  have NL : Hid ((bytN (numsS s)).length ≤ 10 * (5 + 2 * s.vals.length + 2 * s.mail.length)) := by
    have := bytN_len (numsS s)
    rw [numsS_len] at this
    exact this
  have BY : Hid (svMay s = true → ∀ x ∈ bytN (numsS s), 0 ≤ x ∧ x ≤ 255) := fun h => bytN_bytes (fun n hn => ⟨(numsS_in h n hn).1, by have := (numsS_in h n hn).2; omega⟩)
  generalize encS s = R at *
  generalize svMay s = r at *
  generalize hNN : bytN (numsS s) = NN at *
  generalize numsS s = nums at *
  clear hNN
  obtain ⟨st, ph, fr, vs, ms⟩ := s
  simp only at HV HM CM hvc hvm hmc hmm NB NE NL ⊢
  clear hB
  have X0 : BX 28 (w.alloc (.cells #[.int .i64 st, .int .i64 ph, .bool fr, .slice va vs.length vc, .slice ma ms.length mc] 28)) w.heap.size #[.int .i64 st, .int .i64 ph, .bool fr, .slice va vs.length vc, .slice ma ms.length mc] := BX.new _ _ _
  have B0 : Below w.heap.size w (w.alloc (.cells #[.int .i64 st, .int .i64 ph, .bool fr, .slice va vs.length vc, .slice ma ms.length mc] 28)) := below_alloc _ _
  go_enter Tryz.func8, Tryz.ntmps8
  go_upto_region 1 with fail
  generalize w.alloc (.cells #[.int .i64 st, .int .i64 ph, .bool fr, .slice va vs.length vc, .slice ma ms.length mc] 28) = W0 at *
  have HK0 : Hid (∀ X, Below W0.heap.size W0 X → BX 28 X w.heap.size #[.int .i64 st, .int .i64 ph, .bool fr, .slice va vs.length vc, .slice ma ms.length mc] ∧ Below w.heap.size w X ∧ MlR X (.slice va vs.length vc) vs ∧ MlR X (.slice ma ms.length mc) ms) := fun X hX => ⟨X0.below hX X0.lt, B0.trans (hX.mono B0.size), HV.out.below (B0.trans (hX.mono B0.size)) (Nat.le_refl _), HM.out.below (B0.trans (hX.mono B0.size)) (Nat.le_refl _)⟩
  have A0 : Hid (Below W0.heap.size W0 W0) := Below.refl _ _
  obtain ⟨c0, c1, c2, c3, c4⟩ := X0.all5
  clear X0 B0 HV HM
  go_wp2_with fail
  refine (CM.out _ (HK0.out _ A0.out).2.2.1 (HK0.out _ A0.out).2.2.2).mono ?_
  rintro e W1 ⟨rfl, hb1⟩
  have A1 : Hid (Below W0.heap.size W0 W1) := hb1
  obtain ⟨Q1, bw1, _, _⟩ := HK0.out _ hb1
  have BW1 : Hid (Below w.heap.size w W1) := bw1
  clear c0 c1 c2 c3 c4 hb1 bw1 CM
  obtain ⟨c0, c1, c2, c3, c4⟩ := Q1.all5
  clear Q1
  cases r
  · have e := EN.out rfl
    subst e
    have HP : Hid (BytP2 w ([], 9) (.returned (.tuple #[.slice none 0 0, .int .i64 9])) W1) := BytP2.no BW1.out
    clear EN EB EY NI NB NE NL BY
    generalize BytP2 w ([], 9) = P at *
    go_wp2_with fail
    exact HP.out
  · obtain ⟨⟨hs0, hs1⟩, hph, hvl, hml, hvb, hmb⟩ := NB.out rfl
    have HVB : Hid (∀ x ∈ vs, -1 ≤ x.1 ∧ x.1 ≤ 4398046511104 ∧ -1 ≤ x.2 ∧ x.2 < 200) := hvb
    have HMB : Hid (∀ x ∈ ms, 0 ≤ x.1 ∧ x.1 < 200 ∧ 0 ≤ x.2 ∧ x.2 ≤ 4398046511104) := hmb
    have EB2 : Hid (¬ NN.length ≤ 20000 → R = ([], 1)) := EB.out rfl
    have EY2 : Hid (NN.length ≤ 20000 → R = (wrap NN, 0)) := EY.out rfl
    have hnl := NL.out
    have HNB : Hid (∀ x ∈ NN, 0 ≤ x ∧ x ≤ 255) := BY.out rfl
    have hphb : 0 ≤ ph ∧ ph ≤ 1 := by omega
    clear hph hvb hmb EN EB EY NI NB NL BY
    have W2 : Hid (PyI W1.heap.size [] (.slice none 0 0) (W1.alloc (.cells #[.slice none 0 0] 31)) ∧ Below W1.heap.size W1 (W1.alloc (.cells #[.slice none 0 0] 31))) := ⟨⟨BX.new _ _ _, World.ownsRow_nil _ _ _ _⟩, below_alloc _ _⟩
    go_upto_region 4 with fail
    generalize W1.alloc (.cells #[.slice none 0 0] 31) = W3 at *
    have HK : Hid (∀ X, Below W1.heap.size W1 X → BX 28 X w.heap.size #[.int .i64 st, .int .i64 ph, .bool fr, .slice va vs.length vc, .slice ma ms.length mc] ∧ Below w.heap.size w X ∧ MlR X (.slice va vs.length vc) vs ∧ MlR X (.slice ma ms.length mc) ms) := fun X hX => HK0.out X (A1.out.trans (hX.mono A1.out.size))
    have hqw := BW1.out.size
    clear HK0 A0 A1 BW1
    generalize hqe : W1.heap.size = q at *
    obtain ⟨py3, b3⟩ := W2.out
    have PY3 : Hid (PyI q [] (.slice none 0 0) W3) := py3
    have A3 : Hid (Below q W1 W3) := b3
    have HS1 : Hid (W1.heap.size = q) := hqe
    obtain ⟨Q3, _, _, _⟩ := HK.out _ b3
    clear c0 c1 c2 c3 c4 py3 b3 W2 hqe
    obtain ⟨c0, c1, c2, c3, c4⟩ := Q3.all5
    clear Q3
    go_upto_if 16 with fail
    obtain ⟨fz, hfz⟩ : ∃ z : Int, (if fr then (1 : Int) else 0) = z := ⟨_, rfl⟩
    have HFZ : Hid ((if fr then (1 : Int) else 0) = fz) := hfz
    have hfb : 0 ≤ fz ∧ fz ≤ 1 := by rw [← hfz]; cases fr <;> decide
    rw [hfz] at NE
    clear hfz
    go_cut [6] from 16 to 16 (fun t wx => t = .int .i64 fz ∧ W3 = wx)
    case first =>
      cases fr
      · have e : Hid (Value.int .i64 0 = .int .i64 fz) := by show _ = _; rw [← HFZ.out]; rfl
        clear HFZ
        go_wp2_with fail
        go_meet
        case rel => exact ⟨e.out, rfl⟩
      · have e : Hid (Value.int .i64 1 = .int .i64 fz) := by show _ = _; rw [← HFZ.out]; rfl
        clear HFZ
        go_wp2_with fail
        go_meet
        case rel => exact ⟨e.out, rfl⟩
    case rest =>
    obtain ⟨rfl, rfl⟩ := hcut
    clear HFZ
    have W4 : Hid (PyI q [] (.slice none 0 0) (W3.alloc (.cells #[.int .i64 st, .int .i64 ph, .int .i64 fz, .int .i64 (vs.length : Int)] 3)) ∧ (W3.alloc (.cells #[.int .i64 st, .int .i64 ph, .int .i64 fz, .int .i64 (vs.length : Int)] 3)).ownsRow q 3 1 (.slice (some ⟨W3.heap.size, 0, none⟩) 4 4) ([st, ph, fz, (vs.length : Int)] : List Int).length (([st, ph, fz, (vs.length : Int)] : List Int).flatMap encI) ∧ Below q W1 (W3.alloc (.cells #[.int .i64 st, .int .i64 ph, .int .i64 fz, .int .i64 (vs.length : Int)] 3))) := ⟨PY3.out.below (below_alloc _ _), own_lit4 W3 q (Nat.le_of_lt PY3.out.x.lt) _ _ _ _, A3.out.alloc (Nat.le_of_lt PY3.out.x.lt) _⟩
    go_wp2_with fail
    generalize W3.alloc (.cells #[.int .i64 st, .int .i64 ph, .int .i64 fz, .int .i64 (vs.length : Int)] 3) = W5 at *
    refine (sPut_any q _ [] _ [st, ph, fz, (vs.length : Int)] W5 W4.out.1 W4.out.2.1 (fun n hn => by simp only [List.mem_cons, List.not_mem_nil, or_false] at hn; omega) (by simp)).mono ?_
    rintro e W6 ⟨rfl, ⟨pv6, hpy6⟩, hb6⟩
    have PY6 : Hid (PyI q (bytN [st, ph, fz, (vs.length : Int)]) pv6 W6) := hpy6
    have A6 : Hid (Below q W1 W6) := W4.out.2.2.trans hb6
    have HL0 : Hid ((bytN [st, ph, fz, (vs.length : Int)]).length ≤ 40) := bytN_len _
    clear hpy6 hb6 W4 PY3 A3 c0 c1 c2 c3 c4
    obtain ⟨Q6, _, _, _⟩ := HK.out _ A6.out
    obtain ⟨c0, c1, c2, c3, c4⟩ := Q6.all5
    clear Q6
    generalize bytN [st, ph, fz, (vs.length : Int)] = N0 at *
    go_wp2_with fail
    have HZ0 : Hid (N0 ++ bytN (pairN 1 (vs.take 0)) = N0) := by show _ = _; simp [pairN, bytN]
    have HLV : Hid (∀ k, k ≤ vs.length → (N0 ++ bytN (pairN 1 (vs.take k))).length ≤ 40 + 20 * vs.length) := fun k hk => by
      have h1 := bytN_len (pairN 1 (vs.take k))
      have h2 := HL0.out
      rw [pairN_len, List.length_take] at h1
      rw [List.length_append]
      omega
    go_loopw [31] (fun i wr => ∃ (k : Nat) (pv : Value), k ≤ vs.length ∧ i = .int .i64 k ∧ PyI q (N0 ++ bytN (pairN 1 (vs.take k))) pv wr ∧ Below q W1 wr) (fun i _ => vs.length - (intOf i).toNat)
    case atStart => exact ⟨0, pv6, by omega, rfl, by rw [HZ0.out]; exact PY6.out, A6.out⟩
    case round =>
      clear PY6 A6 HZ0 c0 c1 c2 c3 c4
      obtain ⟨k, pv, hk, rfl, hpy, hbel⟩ := hrel
      have PY : Hid (PyI q (N0 ++ bytN (pairN 1 (vs.take k))) pv wr) := hpy
      have AB : Hid (Below q W1 wr) := hbel
      have hqr := hpy.x.lt
      have hll := HLV.out k hk
      obtain ⟨Q7, _, MV, _⟩ := HK.out _ hbel
      clear hpy hbel
      by_cases hlt : k < vs.length
      · obtain ⟨bv, ov, cv', e5, _, _, ltv, hvv⟩ := MlR.at MV (by omega)
        injection e5 with e5 _ e6
        subst e5 e6
        obtain ⟨x, hx⟩ := getX hlt
        obtain ⟨y0, y1⟩ := hvv k x hx
        obtain ⟨g1, g2, g3, g4⟩ := HVB.out x (List.mem_of_getElem? hx)
        have HT : Hid (N0 ++ bytN (pairN 1 (vs.take (k + 1))) = (N0 ++ bytN (pairN 1 (vs.take k))) ++ bytN [x.1 + 1, x.2 + 1]) := by show _ = _; rw [take_snoc hx, pairN_app, pairN_one, bytN_app, List.append_assoc]
        have p0 : (0 : Int) ≤ (k : Int) := by omega
        have p1 : (k : Int) < (vs.length : Int) := by omega
        have w1 : IntKind.i64.wrap (x.1 + 1) = x.1 + 1 := wrap_id64 (by omega) (by omega)
        have w2 : IntKind.i64.wrap (x.2 + 1) = x.2 + 1 := wrap_id64 (by omega) (by omega)
        obtain ⟨x1, x2⟩ := x
        simp only at y0 y1 g1 g2 g3 g4 HT w1 w2
        generalize N0 ++ bytN (pairN 1 (vs.take k)) = M at *
        have xb : BX 53 (wr.alloc (.cells #[.int .i64 x1, .int .i64 x2] 53)) wr.heap.size #[.int .i64 x1, .int .i64 x2] := BX.new _ _ _
        have W8 : Hid (PyI q M pv (wr.alloc (.cells #[.int .i64 x1, .int .i64 x2] 53)) ∧ Below q W1 (wr.alloc (.cells #[.int .i64 x1, .int .i64 x2] 53))) := ⟨PY.out.below (below_alloc _ _), AB.out.alloc (Nat.le_of_lt hqr) _⟩
        clear hvv hx Q7 MV PY AB
        go_upto_region 12 with fail
        obtain ⟨m0, m1, _⟩ := xb.all2
        generalize wr.alloc (.cells #[.int .i64 x1, .int .i64 x2] 53) = W9 at *
        generalize wr.heap.size = bx at *
        obtain ⟨py9, b9⟩ := W8.out
        have W10 : Hid (PyI q M pv (W9.alloc (.cells #[.int .i64 (x1 + 1), .int .i64 (x2 + 1)] 3)) ∧ (W9.alloc (.cells #[.int .i64 (x1 + 1), .int .i64 (x2 + 1)] 3)).ownsRow q 3 1 (.slice (some ⟨W9.heap.size, 0, none⟩) 2 2) ([x1 + 1, x2 + 1] : List Int).length (([x1 + 1, x2 + 1] : List Int).flatMap encI) ∧ Below q W1 (W9.alloc (.cells #[.int .i64 (x1 + 1), .int .i64 (x2 + 1)] 3))) := ⟨py9.below (below_alloc _ _), own_lit2 W9 q (Nat.le_of_lt py9.x.lt) _ _, b9.alloc (Nat.le_of_lt py9.x.lt) _⟩
        clear xb y0 y1 py9 b9 W8
        go_wp2_with fail
        generalize W9.alloc (.cells #[.int .i64 (x1 + 1), .int .i64 (x2 + 1)] 3) = W11 at *
        refine (sPut_any q _ M _ [x1 + 1, x2 + 1] W11 W10.out.1 W10.out.2.1 (fun n hn => by simp only [List.mem_cons, List.not_mem_nil, or_false] at hn; omega) (by simp only [List.length_cons, List.length_nil]; omega)).mono ?_
        rintro e W12 ⟨rfl, ⟨pv12, hpy12⟩, hb12⟩
        have PYN : Hid (PyI q (M ++ bytN [x1 + 1, x2 + 1]) pv12 W12) := hpy12
        have AN : Hid (Below q W1 W12) := W10.out.2.2.trans hb12
        clear hpy12 hb12 W10 m0 m1
        go_wp2_with fail
        go_roundw
        case rel => exact ⟨k + 1, pv12, by omega, by go_num, by rw [HT.out]; exact PYN.out, AN.out⟩
        case measure => simp [intOf]; omega
      · have ek : vs.take k = vs := List.take_of_length_le (by omega)
        rw [ek] at PY hll
        obtain ⟨V7, rfl⟩ : ∃ V, V = wr := ⟨wr, rfl⟩
        obtain ⟨c0, c1, c2, c3, c4⟩ := Q7.all5
        generalize N0 ++ bytN (pairN 1 vs) = N1 at *
        have W13 : Hid (PyI q N1 pv (V7.alloc (.cells #[.int .i64 (ms.length : Int)] 3)) ∧ (V7.alloc (.cells #[.int .i64 (ms.length : Int)] 3)).ownsRow q 3 1 (.slice (some ⟨V7.heap.size, 0, none⟩) 1 1) ([(ms.length : Int)] : List Int).length (([(ms.length : Int)] : List Int).flatMap encI) ∧ Below q W1 (V7.alloc (.cells #[.int .i64 (ms.length : Int)] 3))) := ⟨PY.out.below (below_alloc _ _), own_lit1 V7 q (Nat.le_of_lt hqr) _, AB.out.alloc (Nat.le_of_lt hqr) _⟩
        clear ek Q7 MV PY AB HLV HVB
        go_wp2_with fail
        generalize V7.alloc (.cells #[.int .i64 (ms.length : Int)] 3) = W14 at *
        refine (sPut_any q _ N1 _ [(ms.length : Int)] W14 W13.out.1 W13.out.2.1 (fun n hn => by simp only [List.mem_cons, List.not_mem_nil, or_false] at hn; omega) (by simp only [List.length_cons, List.length_nil]; omega)).mono ?_
        rintro e W15 ⟨rfl, ⟨pv15, hpy15⟩, hb15⟩
        have PY15 : Hid (PyI q (N1 ++ bytN [(ms.length : Int)]) pv15 W15) := hpy15
        have A15 : Hid (Below q W1 W15) := W13.out.2.2.trans hb15
        have HL1 : Hid ((N1 ++ bytN [(ms.length : Int)]).length ≤ 50 + 20 * vs.length) := by
          have h1 := bytN_len [(ms.length : Int)]
          show _ ≤ _
          rw [List.length_append]
          simp only [List.length_cons, List.length_nil] at h1
          omega
        clear hpy15 hb15 W13 c0 c1 c2 c3 c4
        obtain ⟨Q15, _, _, _⟩ := HK.out _ A15.out
        obtain ⟨c0, c1, c2, c3, c4⟩ := Q15.all5
        clear Q15
        generalize N1 ++ bytN [(ms.length : Int)] = N2 at *
        go_wp2_with fail
        have HZ2 : Hid (N2 ++ bytN (pairN 0 (ms.take 0)) = N2) := by show _ = _; simp [pairN, bytN]
        have HLM : Hid (∀ k, k ≤ ms.length → (N2 ++ bytN (pairN 0 (ms.take k))).length ≤ 50 + 20 * vs.length + 20 * ms.length) := fun k hk => by
          have h1 := bytN_len (pairN 0 (ms.take k))
          have h2 := HL1.out
          rw [pairN_len, List.length_take] at h1
          rw [List.length_append]
          omega
        go_loopw [54] (fun i wr => ∃ (k : Nat) (pv : Value), k ≤ ms.length ∧ i = .int .i64 k ∧ PyI q (N2 ++ bytN (pairN 0 (ms.take k))) pv wr ∧ Below q W1 wr) (fun i _ => ms.length - (intOf i).toNat)
        case atStart => exact ⟨0, pv15, by omega, rfl, by rw [HZ2.out]; exact PY15.out, A15.out⟩
        case round =>
          clear PY15 A15 HZ2 c0 c1 c2 c3 c4
          obtain ⟨k, pv, hk, rfl, hpy, hbel⟩ := hrel
          have PY : Hid (PyI q (N2 ++ bytN (pairN 0 (ms.take k))) pv wr) := hpy
          have AB : Hid (Below q W1 wr) := hbel
          have hqr := hpy.x.lt
          have hll2 := HLM.out k hk
          obtain ⟨Q7, BW7, _, MM⟩ := HK.out _ hbel
          have hpv := hpy.shape
          clear hpy hbel
          by_cases hlt : k < ms.length
          · obtain ⟨bv, ov, cv', e5, _, _, ltv, hvv⟩ := MlR.at MM (by omega)
            injection e5 with e5 _ e6
            subst e5 e6
            obtain ⟨x, hx⟩ := getX hlt
            obtain ⟨y0, y1⟩ := hvv k x hx
            obtain ⟨g1, g2, g3, g4⟩ := HMB.out x (List.mem_of_getElem? hx)
            have HT : Hid (N2 ++ bytN (pairN 0 (ms.take (k + 1))) = (N2 ++ bytN (pairN 0 (ms.take k))) ++ bytN [x.1, x.2]) := by show _ = _; rw [take_snoc hx, pairN_app, pairN_one, bytN_app, List.append_assoc, Int.add_zero, Int.add_zero]
            have p0 : (0 : Int) ≤ (k : Int) := by omega
            have p1 : (k : Int) < (ms.length : Int) := by omega
            obtain ⟨x1, x2⟩ := x
            simp only at y0 y1 g1 g2 g3 g4 HT
            generalize N2 ++ bytN (pairN 0 (ms.take k)) = M at *
            have xb : BX 62 (wr.alloc (.cells #[.int .i64 x1, .int .i64 x2] 62)) wr.heap.size #[.int .i64 x1, .int .i64 x2] := BX.new _ _ _
            have W8 : Hid (PyI q M pv (wr.alloc (.cells #[.int .i64 x1, .int .i64 x2] 62)) ∧ Below q W1 (wr.alloc (.cells #[.int .i64 x1, .int .i64 x2] 62))) := ⟨PY.out.below (below_alloc _ _), AB.out.alloc (Nat.le_of_lt hqr) _⟩
            clear hvv hx Q7 MM PY AB BW7 hpv
            go_upto_region 18 with fail
            obtain ⟨m0, m1, _⟩ := xb.all2
            generalize wr.alloc (.cells #[.int .i64 x1, .int .i64 x2] 62) = W9 at *
            generalize wr.heap.size = bx at *
            obtain ⟨py9, b9⟩ := W8.out
            have W10 : Hid (PyI q M pv (W9.alloc (.cells #[.int .i64 x1, .int .i64 x2] 3)) ∧ (W9.alloc (.cells #[.int .i64 x1, .int .i64 x2] 3)).ownsRow q 3 1 (.slice (some ⟨W9.heap.size, 0, none⟩) 2 2) ([x1, x2] : List Int).length (([x1, x2] : List Int).flatMap encI) ∧ Below q W1 (W9.alloc (.cells #[.int .i64 x1, .int .i64 x2] 3))) := ⟨py9.below (below_alloc _ _), own_lit2 W9 q (Nat.le_of_lt py9.x.lt) _ _, b9.alloc (Nat.le_of_lt py9.x.lt) _⟩
            clear xb y0 y1 py9 b9 W8
            go_wp2_with fail
            generalize W9.alloc (.cells #[.int .i64 x1, .int .i64 x2] 3) = W11 at *
            refine (sPut_any q _ M _ [x1, x2] W11 W10.out.1 W10.out.2.1 (fun n hn => by simp only [List.mem_cons, List.not_mem_nil, or_false] at hn; omega) (by simp only [List.length_cons, List.length_nil]; omega)).mono ?_
            rintro e W12 ⟨rfl, ⟨pv12, hpy12⟩, hb12⟩
            have PYN : Hid (PyI q (M ++ bytN [x1, x2]) pv12 W12) := hpy12
            have AN : Hid (Below q W1 W12) := W10.out.2.2.trans hb12
            clear hpy12 hb12 W10 m0 m1
            go_wp2_with fail
            go_roundw
            case rel => exact ⟨k + 1, pv12, by omega, by go_num, by rw [HT.out]; exact PYN.out, AN.out⟩
            case measure => simp [intOf]; omega
          · have ek : ms.take k = ms := List.take_of_length_le (by omega)
            rw [ek] at PY
            rw [← NE.out] at PY
            obtain ⟨pa, pn, pc, rfl⟩ := hpv
            have pq := PY.out.x.cell 0
            have hpn : pn = NN.length := own_lenB PY.out.o
            have HB7 : Hid (Below w.heap.size w wr) := BW7
            have RN : Hid (Reads .u8 wr (.slice pa pn pc) NN) := reads_own PY.out.o
            subst hpn
            clear ek Q7 MM AB NE HLM HMB
            by_cases hsz : NN.length ≤ 20000
            · have HRE : Hid (R = (wrap NN, 0)) := EY2.out hsz
              have CW : Hid (∀ X, X = wr → _) := fun X (_ : X = wr) => wrap_any (.slice pa NN.length pc) NN wr RN.out HNB.out hsz
              clear EB2 EY2
              go_wp2_with fail
              refine (CW.out _ rfl).mono ?_
              rintro e W9 ⟨v9, rfl, ho9, hb9⟩
              have HP : Hid (BytP2 w R (.returned (.tuple #[v9, .int .i64 0])) W9) := by
                show BytP2 _ _ _ _
                rw [HRE.out]
                exact ⟨_, rfl, own_lower ho9 HB7.out.size, HB7.out.trans (hb9.mono HB7.out.size)⟩
              clear ho9 hb9 CW
              generalize BytP2 w R = P at *
              go_wp2_with fail
              exact HP.out
            · have HRE : Hid (R = ([], 1)) := EB2.out hsz
              have CW : Hid (∀ X, X = wr → _) := fun X (_ : X = wr) => wrap_over pa NN.length pc wr (by omega)
              clear EB2 EY2
              go_wp2_with fail
              refine (CW.out _ rfl).mono ?_
              rintro e W9 ⟨rfl, rfl⟩
              have HP : Hid (BytP2 w R (.returned (.tuple #[.slice none 0 0, .int .i64 1])) W9) := by
                show BytP2 _ _ _ _
                rw [HRE.out]
                exact BytP2.no HB7.out
              clear CW
              generalize BytP2 w R = P at *
              go_wp2_with fail
              exact HP.out
end Go.Proofs.YtkgdenbabafeoaaGreatDoor

namespace Go.Proofs.YtkgdenbabafeoaaGreatDoor
set_option maxRecDepth 100000
open Go.ChangeShapes Go.WideShapes Go.ChangeAt Go.RowKit

end Go.Proofs.YtkgdenbabafeoaaGreatDoor

namespace Go.Proofs.YtkgdenbabafeoaaGreatDoor
set_option maxRecDepth 100000
open Go.ChangeShapes Go.WideShapes Go.ChangeAt Go.RowKit

end Go.Proofs.YtkgdenbabafeoaaGreatDoor

namespace Go.Proofs.YtkgdenbabafeoaaGreatDoor
set_option maxRecDepth 100000
open Go.ChangeShapes Go.WideShapes Go.ChangeAt Go.RowKit

def putS (w : World) (q : Nat) (a b c d e : Value) : World := ((((w.setCell ⟨q, 0, none⟩ a).setCell ⟨q, 1, none⟩ b).setCell ⟨q, 2, none⟩ c).setCell ⟨q, 3, none⟩ d).setCell ⟨q, 4, none⟩ e
theorem BX.putS {t : TypeId} {w : World} {q : Nat} {a b c d e x1 x2 x3 x4 x5 : Value} (h : BX t w q #[a, b, c, d, e]) : BX t (putS w q x1 x2 x3 x4 x5) q #[x1, x2, x3, x4, x5] := ((((h.set 0 x1).set 1 x2).set 2 x3).set 3 x4).set 4 x5
theorem kept_putS (w : World) (q : Nat) (a b c d e : Value) : Kept (fun k => k = q) w (Go.Proofs.YtkgdenbabafeoaaGreatDoor.putS w q a b c d e) := ((((Kept.box _ _ _ _).trans (Kept.box _ _ _ _)).trans (Kept.box _ _ _ _)).trans (Kept.box _ _ _ _)).trans (Kept.box _ _ _ _)
theorem BX.all5f {t : TypeId} {w : World} {q : Nat} {a b c d e : Value} (h : BX t w q #[a, b, c, d, e]) : w.frozen? ⟨q, 0, none⟩ = false ∧ w.frozen? ⟨q, 1, none⟩ = false ∧ w.frozen? ⟨q, 2, none⟩ = false ∧ w.frozen? ⟨q, 3, none⟩ = false ∧ w.frozen? ⟨q, 4, none⟩ = false := ⟨h.frozen 0, h.frozen 1, h.frozen 2, h.frozen 3, h.frozen 4⟩
theorem encS_bd (s : SvS) : ∀ x ∈ (encS s).1, 0 ≤ x ∧ x ≤ 255 := by
  cases h : svMay s with
  | false => rw [encS_no h]; intro x hx; cases hx
  | true =>
    by_cases h2 : (bytN (numsS s)).length ≤ 20000
    · rw [encS_yes h h2]
      exact wrap_bytes (bytN_bytes fun n hn => ⟨(numsS_in h n hn).1, by have := (numsS_in h n hn).2; omega⟩) h2
    · rw [encS_big h h2]; intro x hx; cases hx
end Go.Proofs.YtkgdenbabafeoaaGreatDoor

namespace Go.Proofs.YtkgdenbabafeoaaGreatDoor
set_option maxRecDepth 100000
open Go.ChangeShapes Go.WideShapes Go.ChangeAt Go.RowKit

end Go.Proofs.YtkgdenbabafeoaaGreatDoor

namespace Go.Proofs.YtkgdenbabafeoaaGreatDoor
set_option maxRecDepth 100000
open Go.ChangeShapes Go.WideShapes Go.ChangeAt Go.RowKit

structure FileL where
  name : ByteArray
  data : List Int
  synced : Int

/-- No file. -/
def noF : FileL := ⟨ByteArray.empty, [], 0⟩

/-- The three cells of a file, from the offset o of the block b on; its data reads. -/
def FileC (w : World) (b o : Nat) (v : Value) (f : FileL) : Prop :=
  w.cell? ⟨b, o, none⟩ = some (.string f.name) ∧ w.cell? ⟨b, o + 1, none⟩ = some v ∧ w.cell? ⟨b, o + 2, none⟩ = some (.int .i64 f.synced) ∧ Reads .u8 w v f.data

/-- A slice of files reads as fs. -/
def DiskR (w : World) (v : Value) (fs : List FileL) : Prop :=
  ∃ a cap, v = .slice a fs.length cap ∧ fs.length ≤ cap ∧ cap ≤ maxLen ∧ (a = none → cap = 0) ∧
    (0 < fs.length → ∃ b off, a = some ⟨b, off, none⟩ ∧ b < w.heap.size ∧ ∃ vs : Nat → Value, ∀ i, i < fs.length → FileC w b (off + i * 3) (vs i) (fs.getD i noF))

theorem FileC.below {w w' : World} {b o B : Nat} {v : Value} {f : FileL} (h : FileC w b o v f) (hb : Below B w w') (hB : w.heap.size ≤ B) : FileC w' b o v f := by
  obtain ⟨h1, h2, h3, h4⟩ := h
  have lt : b < B := Nat.lt_of_lt_of_le (World.block_lt_of_cell? w _ h1) hB
  exact ⟨(hb.cell (p := ⟨b, o, none⟩) lt).trans h1, (hb.cell (p := ⟨b, o + 1, none⟩) lt).trans h2, (hb.cell (p := ⟨b, o + 2, none⟩) lt).trans h3, h4.below hb hB⟩

theorem DiskR.below {w w' : World} {v : Value} {fs : List FileL} {B : Nat} (h : DiskR w v fs) (hb : Below B w w') (hB : w.heap.size ≤ B) : DiskR w' v fs := by
  obtain ⟨a, cap, rfl, hc, hm, ha, hel⟩ := h
  refine ⟨a, cap, rfl, hc, hm, ha, fun hn => ?_⟩
  obtain ⟨b, off, e, lt, vs, hv⟩ := hel hn
  exact ⟨b, off, e, Nat.lt_of_lt_of_le lt hb.size, vs, fun i hi => (hv i hi).below hb hB⟩

/-- The numbers in a disk are what their types allow. -/
def Good (fs : List FileL) : Prop := ∀ i, i < fs.length → (∀ x ∈ (fs.getD i noF).data, 0 ≤ x ∧ x ≤ 255) ∧ -9223372036854775808 ≤ (fs.getD i noF).synced ∧ (fs.getD i noF).synced ≤ 9223372036854775807 ∧ (fs.getD i noF).name.size ≤ maxLen ∧ (fs.getD i noF).data.length ≤ 140737488351232

/-- The place of a name among the files; -1: none. -/
def atF : List FileL → ByteArray → Int
  | [], _ => -1
  | f :: r, n => if f.name = n then 0 else if atF r n < 0 then -1 else atF r n + 1
end Go.Proofs.YtkgdenbabafeoaaGreatDoor

namespace Go.Proofs.YtkgdenbabafeoaaGreatDoor
set_option maxRecDepth 100000

theorem name_eq (a b : ByteArray) : a.toList = b.toList ↔ a = b := by
  rw [ByteArray.toList_eq, ByteArray.toList_eq]
  constructor
  · intro h
    have h2 : a.data = b.data := by rw [← Array.toArray_toList (xs := a.data), h, Array.toArray_toList]
    cases a; cases b; simp_all
  · intro h; rw [h]
theorem name_yes {a b : ByteArray} (h : a = b) : (a.toList == b.toList) = true := by rw [h]; simp
theorem name_no {a b : ByteArray} (h : a ≠ b) : (a.toList == b.toList) = false := by
  rw [beq_eq_false_iff_ne]; exact fun e => h ((name_eq a b).1 e)

theorem atF_cons_eq {f : FileL} {r : List FileL} {n : ByteArray} (h : f.name = n) : atF (f :: r) n = 0 := by simp [atF, h]
theorem atF_cases : ∀ (fs : List FileL) (n : ByteArray), (∃ k : Nat, k < fs.length ∧ atF fs n = k ∧ (fs.getD k noF).name = n ∧ ∀ j, j < k → (fs.getD j noF).name ≠ n) ∨ (atF fs n = -1 ∧ ∀ j, j < fs.length → (fs.getD j noF).name ≠ n)
  | [], n => .inr ⟨rfl, fun j hj => by simp at hj⟩
  | f :: r, n => by
    by_cases h : f.name = n
    · exact .inl ⟨0, by simp, by simp [atF, h], by simpa using h, fun j hj => by omega⟩
    · rcases atF_cases r n with ⟨k, hk, e, hn, hno⟩ | ⟨e, hno⟩
      · refine .inl ⟨k + 1, by simp; omega, ?_, by simpa using hn, ?_⟩
        · rw [atF, if_neg h, if_neg (by omega), e]; rfl
        · intro j hj
          cases j with
          | zero => simpa using h
          | succ j => simpa using hno j (by omega)
      · refine .inr ⟨?_, ?_⟩
        · rw [atF, if_neg h, if_pos (by omega)]
        · intro j hj
          cases j with
          | zero => simpa using h
          | succ j => simpa using hno j (by simp at hj; omega)
theorem atF_at {fs : List FileL} {n : ByteArray} {k : Nat} (hk : k < fs.length) (hn : (fs.getD k noF).name = n) (hno : ∀ j, j < k → (fs.getD j noF).name ≠ n) : atF fs n = k := by
  rcases atF_cases fs n with ⟨m, hm, e, h1, h2⟩ | ⟨_, h2⟩
  · rcases Nat.lt_trichotomy m k with h | h | h
    · exact absurd h1 (hno m h)
    · rw [e, h]
    · exact absurd hn (h2 k h)
  · exact absurd hn (h2 k hk)
theorem atF_none {fs : List FileL} {n : ByteArray} (hno : ∀ j, j < fs.length → (fs.getD j noF).name ≠ n) : atF fs n = -1 := by
  rcases atF_cases fs n with ⟨m, hm, e, h1, h2⟩ | ⟨h, _⟩
  · exact absurd h1 (hno m hm)
  · exact h

/-- A name of 1 to MaxName bytes. -/
def nmB (n : ByteArray) : Bool := decide (1 ≤ n.size ∧ n.size ≤ 20)
/-- P3.1 of one file. -/
def okB (f : FileL) : Bool := nmB f.name && decide (f.data.length ≤ 100000) && decide (0 ≤ f.synced) && decide (f.synced ≤ f.data.length)
def distB : List FileL → Bool
  | [] => true
  | f :: r => r.all (fun g => !decide (g.name = f.name)) && distB r
/-- P3.1 -/
def mayB (fs : List FileL) : Bool := decide (fs.length ≤ 40) && fs.all okB && distB fs

theorem all_getD {p : FileL → Bool} : ∀ {fs : List FileL}, fs.all p = true ↔ ∀ i, i < fs.length → p (fs.getD i noF) = true
  | [] => by simp
  | f :: r => by
    rw [List.all_cons, Bool.and_eq_true, all_getD (fs := r)]
    constructor
    · rintro ⟨h1, h2⟩ i hi
      cases i with
      | zero => simpa using h1
      | succ i => simpa using h2 i (by simp at hi; omega)
    · intro h
      exact ⟨by simpa using h 0 (by simp), fun i hi => by simpa using h (i + 1) (by simp; omega)⟩
theorem dist_iff : ∀ {fs : List FileL}, distB fs = true ↔ ∀ i j, i < j → j < fs.length → (fs.getD i noF).name ≠ (fs.getD j noF).name
  | [] => by simp [distB]
  | f :: r => by
    rw [distB, Bool.and_eq_true, dist_iff (fs := r), all_getD]
    constructor
    · rintro ⟨h1, h2⟩ i j hij hj
      cases j with
      | zero => omega
      | succ j =>
        cases i with
        | zero =>
          have := h1 j (by simp at hj; omega)
          simp at this
          simpa using fun e => this e.symm
        | succ i => simpa using h2 i j (by omega) (by simp at hj; omega)
    · intro h
      refine ⟨fun i hi => ?_, fun i j hij hj => ?_⟩
      · have := h 0 (i + 1) (by omega) (by simp; omega)
        simp at this ⊢
        exact fun e => this e.symm
      · simpa using h (i + 1) (j + 1) (by omega) (by simp; omega)
theorem may_iff {fs : List FileL} : mayB fs = true ↔ fs.length ≤ 40 ∧ (∀ i, i < fs.length → okB (fs.getD i noF) = true) ∧ ∀ i j, i < j → j < fs.length → (fs.getD i noF).name ≠ (fs.getD j noF).name := by
  rw [mayB, Bool.and_eq_true, Bool.and_eq_true, all_getD, dist_iff, decide_eq_true_eq, and_assoc]
theorem may_long {fs : List FileL} (h : 40 < fs.length) : mayB fs = false := by
  rw [Bool.eq_false_iff]; intro e; have := (may_iff.1 e).1; omega
theorem may_bad {fs : List FileL} {k : Nat} (hk : k < fs.length) (h : okB (fs.getD k noF) = false) : mayB fs = false := by
  rw [Bool.eq_false_iff]; intro e; have := (may_iff.1 e).2.1 k hk; rw [h] at this; cases this
theorem may_twice {fs : List FileL} {k : Nat} (hk : k < fs.length) (h : atF fs (fs.getD k noF).name ≠ k) : mayB fs = false := by
  rw [Bool.eq_false_iff]; intro e
  have hd := (may_iff.1 e).2.2
  exact h (atF_at hk rfl (fun j hj => hd j k hj hk))
theorem may_good {fs : List FileL} (h1 : fs.length ≤ 40) (h2 : ∀ i, i < fs.length → okB (fs.getD i noF) = true) (h3 : ∀ i, i < fs.length → atF fs (fs.getD i noF).name = i) : mayB fs = true := by
  refine may_iff.2 ⟨h1, h2, fun i j hij hj e => ?_⟩
  have a := h3 i (by omega)
  have b := h3 j hj
  rw [e, b] at a
  omega
theorem ok_iff {f : FileL} : okB f = true ↔ nmB f.name = true ∧ f.data.length ≤ 100000 ∧ 0 ≤ f.synced ∧ f.synced ≤ f.data.length := by
  simp [okB, and_assoc]
theorem ok_name {f : FileL} (h : nmB f.name = false) : okB f = false := by simp [okB, h]
theorem ok_long {f : FileL} (h : 100000 < f.data.length) : okB f = false := by
  rw [Bool.eq_false_iff]; intro e; have := (ok_iff.1 e).2.1; omega
theorem ok_sync {f : FileL} (h : ¬ (0 ≤ f.synced ∧ f.synced ≤ f.data.length)) : okB f = false := by
  rw [Bool.eq_false_iff]; intro e; exact h (ok_iff.1 e).2.2
theorem ok_good {f : FileL} (h0 : nmB f.name = true) (h1 : f.data.length ≤ 100000) (h2 : 0 ≤ f.synced) (h3 : f.synced ≤ f.data.length) : okB f = true := ok_iff.2 ⟨h0, h1, h2, h3⟩

theorem getD_take {fs : List FileL} {k i : Nat} (h : i < k) : (fs.take k).getD i noF = fs.getD i noF := by
  rw [List.getD_eq_getElem?_getD, List.getD_eq_getElem?_getD, List.getElem?_take_of_lt h]
theorem take_snocF {fs : List FileL} {k : Nat} (h : k < fs.length) : fs.take (k + 1) = fs.take k ++ [fs.getD k noF] := by
  rw [List.take_succ_eq_append_getElem h, List.getD_eq_getElem?_getD, List.getElem?_eq_getElem h]; rfl
end Go.Proofs.YtkgdenbabafeoaaGreatDoor

namespace Go.Proofs.YtkgdenbabafeoaaGreatDoor
set_option maxRecDepth 100000
open Go.ChangeShapes Go.WideShapes Go.ChangeAt Go.RowKit

/-- The file that is written. -/
def nxt : ByteArray := ⟨#[110, 101, 120, 116]⟩
theorem nxt_size : nxt.size ≤ maxLen := by decide
/-- A disk that is answered, and an error. -/
def DskP (w : World) (r : List FileL × Int) (e : Ending) (w' : World) : Prop := ∃ v', e = .returned (.tuple #[.agg #[v'], .int .i64 r.2]) ∧ DiskR w' v' r.1 ∧ Below w.heap.size w w'
end Go.Proofs.YtkgdenbabafeoaaGreatDoor

namespace Go.Proofs.YtkgdenbabafeoaaGreatDoor
set_option maxRecDepth 100000
open Go.ChangeShapes Go.WideShapes Go.ChangeAt Go.RowKit

/-- Is n from lo to hi? -/
def inB (n lo hi : Int) : Bool := decide (lo ≤ n ∧ n ≤ hi)
theorem inB_yes {n lo hi : Int} (h : lo ≤ n ∧ n ≤ hi) : inB n lo hi = true := by simp [inB, h]
theorem inB_no {n lo hi : Int} (h : ¬ (lo ≤ n ∧ n ≤ hi)) : inB n lo hi = false := by simp only [inB, decide_eq_false_iff_not]; exact h

theorem size_alloc_le (w : World) (o : Obj) : (w.alloc o).heap.size ≤ w.heap.size + 1 := by simp

end Go.Proofs.YtkgdenbabafeoaaGreatDoor

namespace Go.Proofs.YtkgdenbabafeoaaGreatDoor
set_option maxRecDepth 100000
open Go.ChangeShapes Go.WideShapes Go.ChangeAt Go.RowKit

set_option maxHeartbeats 400000 in
theorem clone_any (v : Value) (xs : List Int) (w : World) (h : Reads .u8 w v xs) (hl : xs.length ≤ 140737488355328) :
    Calls Tryz.prog 60 #[v] w fun e w' =>
      ∃ v', e = .returned v' ∧ w'.ownsRow w.heap.size 5 1 v' xs.length (xs.map (Value.int .u8)) ∧ Below w.heap.size w w' := by
  have q22 : ∀ (w : World) (a : Option Addr) (n c n' c' : Nat), (binOp .eql 31 (.slice a n c) (.slice none n' c')).run Tryz.prog w = .ok (.bool a.isNone) w := fun w a n c n' c' => Lib.run_eql_slice_nil w _ _ a n c n' c' Tryz.underlying31
  have HR : Hid (Reads .u8 w v xs) := h
  obtain ⟨a, cap, rfl, hc, hm, ha, _⟩ := h
  cases a with
  | none =>
    have hcap := ha rfl
    have : xs = [] := List.eq_nil_of_length_eq_zero (by omega)
    subst this
    subst hcap
    clear ha
    go_enter Tryz.func60, Tryz.ntmps60
    go_wp2_with fail
    go_ret
    exact ⟨_, rfl, World.ownsRow_nil _ _ _ _, Below.refl _ _⟩
  | some x =>
    clear ha
    go_enter Tryz.func60, Tryz.ntmps60
    go_wp2_with (at_builtin; refine wpList_append_reads rfl _ _ rfl w.heap.size _ [] rfl (own_new0 w _ (Nat.le_refl _)) _ xs rfl (HR.out.below ((Below.refl _ _).alloc (Nat.le_refl _) _) (Nat.le_refl _)) (by simp; omega) (by simp) ?_)
    intro v2 w2 hown2 hbel2 _
    have B2 : Hid (Below w.heap.size w w2) := ((Below.refl _ _).alloc (Nat.le_refl _) _).trans hbel2
    have O2 : Hid (w2.ownsRow w.heap.size 5 1 v2 xs.length (xs.map (Value.int .u8))) := by simpa [Hid] using hown2
    clear hown2 hbel2
    go_wp2
    go_ret
    exact ⟨v2, rfl, O2.out, B2.out⟩

end Go.Proofs.YtkgdenbabafeoaaGreatDoor

namespace Go.Proofs.YtkgdenbabafeoaaGreatDoor
set_option maxRecDepth 100000
open Go.ChangeShapes Go.WideShapes Go.ChangeAt Go.RowKit

theorem str_empty_size (n : ByteArray) (h : n.size = 0) : n.toList.isEmpty = true := by
  rw [ByteArray.toList_eq]
  have : n.data.toList.length = 0 := by simpa using h
  rw [List.eq_nil_of_length_eq_zero this]; rfl
theorem str_some_size (n : ByteArray) (h : 0 < n.size) : n.toList.isEmpty = false := by
  rw [ByteArray.toList_eq]
  have : 0 < n.data.toList.length := by simpa using h
  cases hh : n.data.toList with
  | nil => rw [hh] at this; simp at this
  | cons a r => rfl

set_option maxHeartbeats 400000 in
theorem nameMay_any (n : ByteArray) (w : World) (hn : n.size ≤ maxLen) : Calls Tryz.prog 71 #[.string n] w fun e w' => e = .returned (.bool (nmB n)) ∧ w' = w := by
  unfold maxLen at hn
  by_cases h1 : n.size = 0
  · have H : Hid (nmB n = false) := by simp [nmB, Hid, h1]
    have he := str_empty_size n h1
    clear h1
    go_enter Tryz.func71, Tryz.ntmps71
    go_wp2
    go_ret
    exact ⟨ret_bool H.out.symm, rfl⟩
  · have he := str_some_size n (by omega)
    by_cases h2 : n.size ≤ 20
    · have H : Hid (nmB n = true) := by simp [nmB, Hid]; omega
      have h2' : (n.size : Int) ≤ 20 := by omega
      go_enter Tryz.func71, Tryz.ntmps71
      go_wp2
      go_ret
      exact ⟨ret_bool H.out.symm, rfl⟩
    · have H : Hid (nmB n = false) := by simp [nmB, Hid]; omega
      have h2' : ¬ (n.size : Int) ≤ 20 := by omega
      go_enter Tryz.func71, Tryz.ntmps71
      go_wp2
      go_ret
      exact ⟨ret_bool H.out.symm, rfl⟩

set_option maxHeartbeats 800000 in
theorem fileMay_any (f : FileL) (a : Option Addr) (cap : Nat) (w : World) (hn : f.name.size ≤ maxLen) (hd : f.data.length ≤ maxLen) :
    Calls Tryz.prog 73 #[.agg #[.string f.name, .slice a f.data.length cap, .int .i64 f.synced]] w fun e w' => e = .returned (.bool (okB f)) ∧ Below w.heap.size w w' := by
  unfold maxLen at hd
  by_cases h1 : nmB f.name = true
  · by_cases h2 : f.data.length ≤ 100000
    · by_cases h3 : 0 ≤ f.synced
      · by_cases h4 : f.synced ≤ f.data.length
        · have H : Hid (okB f = true) := ok_good h1 h2 h3 h4
          have h2' : (f.data.length : Int) ≤ 100000 := by omega
          go_enter Tryz.func73, Tryz.ntmps73
          go_wp2_with (first | (go_at_call 71; refine (nameMay_any _ _ hn).mono ?_; rintro e w' ⟨rfl, rfl⟩))
          go_ret
          exact ⟨ret_bool H.out.symm, below_alloc _ _⟩
        · have H : Hid (okB f = false) := ok_sync (fun h => h4 h.2)
          have h2' : (f.data.length : Int) ≤ 100000 := by omega
          go_enter Tryz.func73, Tryz.ntmps73
          go_wp2_with (first | (go_at_call 71; refine (nameMay_any _ _ hn).mono ?_; rintro e w' ⟨rfl, rfl⟩))
          go_ret
          exact ⟨ret_bool (by rw [H.out]; simpa using h4), below_alloc _ _⟩
      · have H : Hid (okB f = false) := ok_sync (fun h => h3 h.1)
        have h2' : (f.data.length : Int) ≤ 100000 := by omega
        go_enter Tryz.func73, Tryz.ntmps73
        go_wp2_with (first | (go_at_call 71; refine (nameMay_any _ _ hn).mono ?_; rintro e w' ⟨rfl, rfl⟩))
        go_ret
        exact ⟨ret_bool H.out.symm, below_alloc _ _⟩
    · have H : Hid (okB f = false) := ok_long (by omega)
      have h2' : ¬ (f.data.length : Int) ≤ 100000 := by omega
      go_enter Tryz.func73, Tryz.ntmps73
      go_wp2_with (first | (go_at_call 71; refine (nameMay_any _ _ hn).mono ?_; rintro e w' ⟨rfl, rfl⟩))
      go_ret
      exact ⟨ret_bool H.out.symm, below_alloc _ _⟩
  · have h1' : nmB f.name = false := by simpa using h1
    have H : Hid (okB f = false) := ok_name h1'
    clear h1
    go_enter Tryz.func73, Tryz.ntmps73
    go_wp2_with (first | (go_at_call 71; refine (nameMay_any _ _ hn).mono ?_; rintro e w' ⟨rfl, rfl⟩))
    go_ret
    exact ⟨ret_bool H.out.symm, below_alloc _ _⟩

end Go.Proofs.YtkgdenbabafeoaaGreatDoor

namespace Go.Proofs.YtkgdenbabafeoaaGreatDoor
set_option maxRecDepth 100000
open Go.ChangeShapes Go.WideShapes Go.ChangeAt Go.RowKit Go.Maps

def keyF (f : FileL) : Lit := .string f.name.data.toList
def keyL (fs : List FileL) : List Lit := fs.map keyF
theorem keyF_key (f : FileL) : WideAt.IsKeyLit (keyF f) := trivial
theorem keyL_key (fs : List FileL) : ∀ x ∈ keyL fs, WideAt.IsKeyLit x := by
  intro x hx
  obtain ⟨f, _, rfl⟩ := List.mem_map.1 hx
  exact keyF_key f
theorem keyF_inj {f g : FileL} : keyF f = keyF g ↔ f.name = g.name := by
  rw [← name_eq, ByteArray.toList_eq, ByteArray.toList_eq]
  constructor
  · intro h; injection h
  · intro h; unfold keyF; rw [h]
theorem any_same {acc : List Lit} {f : FileL} : acc.any (fun y => y.sameKey (keyF f)) = true ↔ keyF f ∈ acc := by
  rw [List.any_eq_true]
  constructor
  · rintro ⟨y, hy, h⟩
    rw [(WideAt.sameKey_iff (keyF_key f)).1 h] at hy
    exact hy
  · intro h; exact ⟨_, h, WideAt.sameKey_self (keyF_key f)⟩
theorem addKey_in {acc : List Lit} {f : FileL} (h : keyF f ∈ acc) : addKey acc (keyF f) = acc := by rw [addKey, if_pos (any_same.2 h)]
theorem addKey_out {acc : List Lit} {f : FileL} (h : keyF f ∉ acc) : addKey acc (keyF f) = acc ++ [keyF f] := by rw [addKey, if_neg (fun e => h (any_same.1 e))]
theorem fold_le : ∀ (fs : List FileL) (acc : List Lit), ((keyL fs).foldl addKey acc).length ≤ acc.length + fs.length
  | [], acc => by simp [keyL]
  | f :: r, acc => by
    have ih := fold_le r (addKey acc (keyF f))
    have : (addKey acc (keyF f)).length ≤ acc.length + 1 := by
      by_cases h : keyF f ∈ acc
      · rw [addKey_in h]; omega
      · rw [addKey_out h]; simp
    simp only [keyL, List.map_cons, List.foldl_cons, List.length_cons] at *
    omega
theorem fold_eq : ∀ (fs : List FileL) (acc : List Lit), ((keyL fs).foldl addKey acc).length = acc.length + fs.length ↔ distB fs = true ∧ ∀ f ∈ fs, keyF f ∉ acc
  | [], acc => by simp [keyL, distB]
  | f :: r, acc => by
    have e : ((keyL (f :: r)).foldl addKey acc).length = ((keyL r).foldl addKey (addKey acc (keyF f))).length := rfl
    rw [e]
    by_cases h : keyF f ∈ acc
    · rw [addKey_in h]
      have := fold_le r acc
      constructor
      · intro h2; simp only [List.length_cons] at h2; omega
      · rintro ⟨_, h2⟩; exact absurd h (h2 f (by simp))
    · rw [addKey_out h]
      have ih := fold_eq r (acc ++ [keyF f])
      have e2 : (acc ++ [keyF f]).length + r.length = acc.length + (f :: r).length := by simp; omega
      rw [← e2, ih, distB, Bool.and_eq_true, List.all_eq_true]
      constructor
      · rintro ⟨h1, h2⟩
        refine ⟨⟨fun g hg => ?_, h1⟩, fun g hg => ?_⟩
        · have := h2 g hg
          simp only [List.mem_append, List.mem_singleton, not_or] at this
          simpa using fun e => this.2 (keyF_inj.2 e)
        · rcases List.mem_cons.1 hg with rfl | hg
          · exact h
          · have := h2 g hg
            simp only [List.mem_append, List.mem_singleton, not_or] at this
            exact this.1
      · rintro ⟨⟨h1, h2⟩, h3⟩
        refine ⟨h2, fun g hg => ?_⟩
        simp only [List.mem_append, List.mem_singleton, not_or]
        refine ⟨h3 g (by simp [hg]), fun e => ?_⟩
        have := h1 g hg
        simp at this
        exact this (keyF_inj.1 e)
/-- How many names there are. -/
theorem size_names (fs : List FileL) : size (setOf (.agg [] : DataW Unit) (keyL fs)) = fs.length ↔ distB fs = true := by
  rw [size_setOf _ _ (keyL_key fs)]
  have := fold_eq fs []
  simpa using this
theorem keyL_snoc {fs : List FileL} {k : Nat} (h : k < fs.length) : keyL (fs.take (k + 1)) = keyL (fs.take k) ++ [keyF (fs.getD k noF)] := by
  rw [take_snocF h]; simp [keyL]

theorem ownsMap_below {w w' : World} {B b n : Nat} {k : TypeId} {D : DataW Unit} (h : w.ownsMap Tryz.prog k unitElem b n D) (hb : Below B w w') (hB : b < B) : w'.ownsMap Tryz.prog k unitElem b n D := by
  obtain ⟨es, cl, h1, h2⟩ := h
  exact ⟨es, cl, (hb.block b hB).trans h1, h2⟩
theorem law9 : Keyed Tryz.prog 9 := string_keyed Tryz.underlying9

set_option maxHeartbeats 1000000 in
set_option maxRecDepth 100000 in
theorem mayBe_any (pb : Nat) (v : Value) (fs : List FileL) (w : World) (hp : w.cell? ⟨pb, 0, none⟩ = some v) (h : DiskR w v fs) (hg : Good fs) :
    Calls Tryz.prog 57 #[.pointer (some ⟨pb, 0, none⟩)] w fun e w' => e = .returned (.bool (mayB fs)) ∧ Below w.heap.size w w' := by
  have hmm := @run_makeMap Tryz.prog
  have lp : pb < w.heap.size := World.block_lt_of_cell? w _ hp
  have HG : Hid (Good fs) := hg
  obtain ⟨a, cap, rfl, hc, hm, ha, hel⟩ := h
  have HEL : Hid (0 < fs.length → ∃ b off, a = some ⟨b, off, none⟩ ∧ b < w.heap.size ∧ ∃ vs : Nat → Value, ∀ i, i < fs.length → FileC w b (off + i * 3) (vs i) (fs.getD i noF)) := hel
  clear ha hel hg
  unfold maxLen at hm
  by_cases hlong : 40 < fs.length
  · have HM : Hid (mayB fs = false) := may_long hlong
    have hl : (40 : Int) < (fs.length : Int) := by omega
    go_enter Tryz.func57, Tryz.ntmps57
    go_wp2_with fail
    go_ret
    exact ⟨ret_bool HM.out.symm, Below.refl _ _⟩
  · have hl : ¬ (40 : Int) < (fs.length : Int) := by omega
    have hpm : ∀ X, (w.alloc X).cell? ⟨pb, 0, none⟩ = some (.slice a fs.length cap) := fun X => ((below_alloc w X).cell (p := ⟨pb, 0, none⟩) lp).trans hp
    go_enter Tryz.func57, Tryz.ntmps57
    go_wp2_with fail
    go_loopw [20] (fun i wr => ∃ k : Nat, k ≤ fs.length ∧ i = .int .i64 k ∧ (∀ j, j < k → okB (fs.getD j noF) = true) ∧ wr.ownsMap Tryz.prog 9 unitElem w.heap.size k (setOf (.agg [] : DataW Unit) (keyL (fs.take k))) ∧ Below w.heap.size w wr) (fun i _ => fs.length - (intOf i).toNat)
    case atStart => exact ⟨0, by omega, rfl, fun j hj => by omega, World.ownsMap_made _ _ _ _, below_alloc _ _⟩
    case round =>
      obtain ⟨k, hk, rfl, hok, hown, hbel⟩ := hrel
      have HOK : Hid (∀ j, j < k → okB (fs.getD j noF) = true) := hok
      have HO : Hid (wr.ownsMap Tryz.prog 9 unitElem w.heap.size k (setOf (.agg [] : DataW Unit) (keyL (fs.take k)))) := hown
      have HB : Hid (Below w.heap.size w wr) := hbel
      have hpr : wr.cell? ⟨pb, 0, none⟩ = some (.slice a fs.length cap) := (hbel.cell (p := ⟨pb, 0, none⟩) lp).trans hp
      have hsz := hown.lt
      clear hok hown hbel
      by_cases hlt : k < fs.length
      · obtain ⟨b, off, rfl, lt, vs, hv⟩ := HEL.out (by omega)
        obtain ⟨c1, c2, c3, c4⟩ := ((hv k hlt).below HB.out (Nat.le_refl _))
        obtain ⟨da, dc, hdv, hd1, hd2, _, _⟩ := c4
        rw [hdv] at c2
        have hgd := HG.out k hlt
        have hnm : (fs.getD k noF).name.size ≤ maxLen := hgd.2.2.2.1
        have hdl : (fs.getD k noF).data.length ≤ maxLen := by omega
        have HNX : Hid (okB (fs.getD k noF) = true → ∀ j, j < k + 1 → okB (fs.getD j noF) = true) := fun h1 j hj => by
          rcases Nat.lt_succ_iff_lt_or_eq.1 hj with h | h
          · exact HOK.out j h
          · rw [h]; exact h1
        have HBAD : Hid (okB (fs.getD k noF) = false → mayB fs = false) := may_bad hlt
        have HKS : Hid (setOf (.agg [] : DataW Unit) (keyL (fs.take (k + 1))) = (setOf (.agg [] : DataW Unit) (keyL (fs.take k))).put (keyF (fs.getD k noF)) (.agg [])) := by
          show _ = _
          rw [keyL_snoc hlt, setOf_snoc]
        clear hv HEL hdv hd1 hd2 hgd
        generalize fs.getD k noF = f at *
        go_wp2_with fail
        refine (fileMay_any f da dc _ hnm hdl).mono ?_
        rintro e w2 ⟨rfl, hb2⟩
        have B2 : Hid (Below wr.heap.size wr w2) := (below_alloc wr _).trans (hb2.mono (by simp))
        have hb3 : Below (wr.heap.size + 1) (wr.alloc (.cells #[.string f.name, .slice da f.data.length dc, .int .i64 f.synced] 102)) w2 := by simpa using hb2
        have n1 : w2.cell? ⟨wr.heap.size, 0, none⟩ = some (.string f.name) := (hb3.cell (p := ⟨wr.heap.size, 0, none⟩) (Nat.lt_succ_self _)).trans (by simp)
        have O2 : Hid (w2.ownsMap Tryz.prog 9 unitElem w.heap.size k (setOf (.agg [] : DataW Unit) (keyL (fs.take k)))) := ownsMap_below HO.out B2.out hsz
        have hs2 : w.heap.size ≤ w2.heap.size := by have := B2.out.size; omega
        clear hb2 hb3
        by_cases h1 : okB f = true
        · go_wp2_with (at_mapUpdate; go_must (refine wpList_mapUpdate_own _ rfl _ _ _ 126 rfl 9 128 law9 Tryz.underlying126 (unitElem (H := Unit)) w.heap.size k _ rfl O2.out (by unfold maxLen; omega) _ _ _ rfl rfl (WideMaps.keyOf_string_mk Tryz.underlying9 hnm) _ [] unitElem_mk ?_))
          intro w3 hown3 hgrow3
          have O3 : Hid (w3.ownsMap Tryz.prog 9 unitElem w.heap.size (k + 1) (setOf (.agg [] : DataW Unit) (keyL (fs.take (k + 1))))) := by show World.ownsMap _ _ _ _ _ _ _; rw [HKS.out]; exact hown3
          have B3 : Hid (Below w.heap.size w w3) := (HB.out.trans (B2.out.mono (by omega))).grown hgrow3 hs2 (fun j hj => by cases hj; exact Nat.le_refl _)
          clear hown3 hgrow3
          go_wp2_with fail
          go_roundw
          case rel => exact ⟨k + 1, by omega, by go_num, HNX.out h1, O3.out, B3.out⟩
          case measure => simp [intOf]; omega
        · have h1' : okB f = false := by simpa using h1
          have HM : Hid (mayB fs = false) := HBAD.out h1'
          clear h1
          go_wp2_with fail
          go_ret
          exact ⟨ret_bool HM.out.symm, HB.out.trans (B2.out.mono (by omega))⟩
      · have ek : fs.take k = fs := List.take_of_length_le (by omega)
        have O2 := HO.out
        rw [ek] at O2
        have hlen1 := O2.len Tryz.underlying126 3
        have hlen2 := O2.drew.len Tryz.underlying126 3
        have HD : Hid (size (setOf (.agg [] : DataW Unit) (keyL fs)) = fs.length ↔ distB fs = true) := size_names fs
        have HM : Hid (mayB fs = distB fs) := by
          have h1 : fs.all okB = true := all_getD.2 (fun i hi => HOK.out i (by omega))
          have h2 : decide (fs.length ≤ 40) = true := by simp; omega
          simp [Hid, mayB, h1, h2]
        clear ek O2
        generalize size (setOf (.agg [] : DataW Unit) (keyL fs)) = q at *
        go_wp2_with fail
        go_region
        all_goals
          go_wp2_with fail
          go_ret
          refine ⟨ret_bool ?_, HB.out.drew⟩
          rw [HM.out]
          by_cases hd : distB fs = true
          · rw [hd]
            have := HD.out.2 hd
            simp [this]
          · have : ¬ q = fs.length := fun e => hd (HD.out.1 e)
            have hd' : distB fs = false := by simpa using hd
            rw [hd']
            simp
            omega
end Go.Proofs.YtkgdenbabafeoaaGreatDoor

namespace Go.Proofs.YtkgdenbabafeoaaGreatDoor
set_option maxRecDepth 100000
open Go.ChangeShapes Go.WideShapes Go.ChangeAt Go.RowKit

set_option maxHeartbeats 400000 in
theorem find1_any (m n : ByteArray) (dv : Value) (s : Int) (a : Option Addr) (l c q : Nat) (hdv : dv = .slice a l c) (w : World) (hq : w.cell? ⟨q, 0, none⟩ = some (.string n)) :
    Calls Tryz.prog 75 #[.agg #[.string m, dv, .int .i64 s], .pointer (some ⟨q, 0, none⟩)] w fun e w' => e = .returned (.bool (m.toList == n.toList)) ∧ Below w.heap.size w w' := by
  subst hdv
  have lq : q < w.heap.size := World.block_lt_of_cell? w _ hq
  have hq2 : ∀ X, (w.alloc X).cell? ⟨q, 0, none⟩ = some (.string n) := fun X => ((below_alloc w X).cell (p := ⟨q, 0, none⟩) lq).trans hq
  go_enter Tryz.func75, Tryz.ntmps75
  go_wp2_with fail
  go_ret
  exact ⟨rfl, below_alloc _ _⟩

set_option maxHeartbeats 800000 in
theorem indexFunc_any (v : Value) (fs : List FileL) (n : ByteArray) (q : Nat) (w : World) (h : DiskR w v fs) (hq : w.cell? ⟨q, 0, none⟩ = some (.string n)) :
    Calls Tryz.prog 74 #[v, .func (.func 75) #[] #[.pointer (some ⟨q, 0, none⟩)]] w fun e w' => e = .returned (.int .i64 (atF fs n)) ∧ Below w.heap.size w w' := by
  have lq : q < w.heap.size := World.block_lt_of_cell? w _ hq
  obtain ⟨a, cap, rfl, hc, hm, ha, hel⟩ := h
  have HEL : Hid (0 < fs.length → ∃ b off, a = some ⟨b, off, none⟩ ∧ b < w.heap.size ∧ ∃ vs : Nat → Value, ∀ i, i < fs.length → FileC w b (off + i * 3) (vs i) (fs.getD i noF)) := hel
  clear ha hel
  unfold maxLen at hm
  go_enter Tryz.func74, Tryz.ntmps74
  go_wp2_with fail
  go_loopw [8] (fun i wr => ∃ k : Nat, k ≤ fs.length ∧ i = .int .i64 k ∧ (∀ j, j < k → (fs.getD j noF).name ≠ n) ∧ Below w.heap.size w wr) (fun i _ => fs.length - (intOf i).toNat)
  case atStart => exact ⟨0, by omega, rfl, fun j hj => by omega, Below.refl _ _⟩
  case round =>
    obtain ⟨k, hk, rfl, hno, hbel⟩ := hrel
    have HNO : Hid (∀ j, j < k → (fs.getD j noF).name ≠ n) := hno
    have HB : Hid (Below w.heap.size w wr) := hbel
    have hqr : wr.cell? ⟨q, 0, none⟩ = some (.string n) := (hbel.cell (p := ⟨q, 0, none⟩) lq).trans hq
    have hsr := hbel.size
    clear hno hbel
    by_cases hlt : k < fs.length
    · obtain ⟨b, off, rfl, lt, vs, hv⟩ := HEL.out (by omega)
      obtain ⟨c1, c2, c3, c4⟩ := (hv k hlt).below HB.out (Nat.le_refl _)
      obtain ⟨da, dc, hdv, _, _, _, _⟩ := c4
      rw [hdv] at c2
      clear hv HEL hdv
      by_cases hn : (fs.getD k noF).name = n
      · have HA : Hid (atF fs n = k) := atF_at hlt hn HNO.out
        have hne := name_yes hn
        clear hn
        generalize fs.getD k noF = f at *
        go_wp2_with fail
        refine (find1_any f.name n _ f.synced da f.data.length dc q rfl _ hqr).mono ?_
        rintro e w2 ⟨rfl, hb2⟩
        rw [hne]
        go_wp2_with fail
        go_ret
        exact ⟨ret_i64 HA.out.symm, HB.out.trans (hb2.mono hsr)⟩
      · have HN2 : Hid (∀ j, j < k + 1 → (fs.getD j noF).name ≠ n) := fun j hj => by
          rcases Nat.lt_succ_iff_lt_or_eq.1 hj with h | h
          · exact HNO.out j h
          · rw [h]; exact hn
        have hne := name_no hn
        clear hn
        generalize fs.getD k noF = f at c1 c2 c3 hne
        go_wp2_with fail
        refine (find1_any f.name n _ f.synced da _ dc q rfl _ hqr).mono ?_
        rintro e w2 ⟨rfl, hb2⟩
        rw [hne]
        go_wp2_with fail
        go_roundw
        case rel => exact ⟨k + 1, by omega, by go_num, HN2.out, HB.out.trans (hb2.mono hsr)⟩
        case measure => simp [intOf]; omega
    · have HA : Hid (atF fs n = -1) := atF_none (fun j hj => HNO.out j (by omega))
      go_wp2_with fail
      go_ret
      exact ⟨ret_i64 HA.out.symm, HB.out⟩

set_option maxHeartbeats 400000 in
theorem find_any (pb : Nat) (v : Value) (fs : List FileL) (n : ByteArray) (w : World) (hp : w.cell? ⟨pb, 0, none⟩ = some v) (h : DiskR w v fs) :
    Calls Tryz.prog 59 #[.pointer (some ⟨pb, 0, none⟩), .string n] w fun e w' => e = .returned (.int .i64 (atF fs n)) ∧ Below w.heap.size w w' := by
  have lp : pb < w.heap.size := World.block_lt_of_cell? w _ hp
  have HD : Hid (DiskR w v fs) := h
  obtain ⟨a, cap, rfl, _, _, _, _⟩ := h
  have hmf : ∀ (fn : Fn) (first cap : Array Value) (w : World), (Instr.makeFunc fn first cap).run Tryz.prog w = .ok (.func fn first cap) w := fun _ _ _ _ => rfl
  have hp2 : ∀ X, (w.alloc X).cell? ⟨pb, 0, none⟩ = some (.slice a fs.length cap) := fun X => ((below_alloc w X).cell (p := ⟨pb, 0, none⟩) lp).trans hp
  go_enter Tryz.func59, Tryz.ntmps59
  go_wp2_with fail
  refine (indexFunc_any _ fs n w.heap.size _ ?_ ?_).mono ?_
  · exact HD.out.below (below_alloc _ _) (Nat.le_refl _)
  · exact cell_new0 _ _ _
  rintro e w2 ⟨rfl, hb2⟩
  have B2 : Hid (Below w.heap.size w w2) := (below_alloc w _).trans (hb2.mono (by simp))
  clear hb2
  go_wp2_with fail
  go_ret
  exact ⟨rfl, B2.out⟩
end Go.Proofs.YtkgdenbabafeoaaGreatDoor

namespace Go.Proofs.YtkgdenbabafeoaaGreatDoor
set_option maxRecDepth 100000
open Go.ChangeShapes Go.WideShapes Go.ChangeAt Go.RowKit

theorem Tryz.infoF : (Tryz.prog.info? 102).map (fun i => (i.zero, i.size, i.bytes)) = some (some (.agg #[.string ByteArray.empty, .slice none 0 0, .int .i64 0]), 3, 48) := by kernel_rfl

/-- The cells of files. -/
def rows : List FileL → List Value → List Value
  | f :: r, v :: vs => .string f.name :: v :: .int .i64 f.synced :: rows r vs
  | _, _ => []
theorem rows_len : ∀ {fs : List FileL} {vs : List Value}, vs.length = fs.length → (rows fs vs).length = fs.length * 3
  | [], [], _ => rfl
  | f :: r, v :: vs, h => by
    have := rows_len (fs := r) (vs := vs) (by simpa using h)
    simp only [rows, List.length_cons, this]; omega
theorem rows_snoc : ∀ {fs : List FileL} {vs : List Value} (f : FileL) (v : Value), vs.length = fs.length → rows (fs ++ [f]) (vs ++ [v]) = rows fs vs ++ [.string f.name, v, .int .i64 f.synced]
  | [], [], f, v, _ => rfl
  | g :: r, u :: vs, f, v, h => by
    have := rows_snoc (fs := r) (vs := vs) f v (by simpa using h)
    simp only [List.cons_append, rows, this]
theorem rows_at : ∀ {fs : List FileL} {vs : List Value} (i : Nat), vs.length = fs.length → i < fs.length →
    (rows fs vs)[i * 3]? = some (.string (fs.getD i noF).name) ∧ (rows fs vs)[i * 3 + 1]? = some (vs.getD i undef) ∧ (rows fs vs)[i * 3 + 2]? = some (.int .i64 (fs.getD i noF).synced)
  | [], _, i, _, h => by simp at h
  | f :: r, [], i, h, _ => by simp at h
  | f :: r, v :: vs, 0, _, _ => by simp [rows]
  | f :: r, v :: vs, i + 1, h, hi => by
    have := rows_at (fs := r) (vs := vs) i (by simpa using h) (by simpa using hi)
    have e1 : (i + 1) * 3 = i * 3 + 3 := by omega
    rw [e1]
    simpa [rows] using this

/-- A disk of the call's own. -/
structure OwnD (w : World) (base : Nat) (v : Value) (fs : List FileL) (vs : List Value) : Prop where
  len : vs.length = fs.length
  row : w.ownsRow base 102 3 v fs.length (rows fs vs)
  data : ∀ i, i < fs.length → w.ownsRow base 5 1 (vs.getD i undef) (fs.getD i noF).data.length ((fs.getD i noF).data.map (Value.int .u8))
  apart : ∀ i j, i < j → j < fs.length → (vs.getD j undef).ownBlock = none ∨ (vs.getD j undef).ownBlock ≠ (vs.getD i undef).ownBlock

theorem OwnD.nil (w : World) (base : Nat) : OwnD w base (.slice none 0 0) [] [] := ⟨rfl, World.ownsRow_nil _ _ _ _, fun i hi => by simp at hi, fun i j _ hj => by simp at hj⟩
theorem OwnD.below {w w' : World} {base B : Nat} {v : Value} {fs : List FileL} {vs : List Value} (h : OwnD w base v fs vs) (hb : Below B w w') (hB : w.heap.size ≤ B) : OwnD w' base v fs vs :=
  ⟨h.len, own_below h.row hb hB, fun i hi => own_below (h.data i hi) hb hB, h.apart⟩
theorem OwnD.lower {w : World} {base B : Nat} {v : Value} {fs : List FileL} {vs : List Value} (h : OwnD w B v fs vs) (hB : base ≤ B) : OwnD w base v fs vs :=
  ⟨h.len, own_lower h.row hB, fun i hi => own_lower (h.data i hi) hB, h.apart⟩
theorem OwnD.files {w : World} {base : Nat} {v : Value} {fs : List FileL} {vs : List Value} (h : OwnD w base v fs vs) {g n cap : Nat} (hv : v = .slice (some ⟨g, 0, none⟩) n cap) :
    ∀ i, i < fs.length → FileC w g (i * 3) (vs.getD i undef) (fs.getD i noF) := fun i hi => by
  subst hv
  obtain ⟨r1, r2, r3⟩ := rows_at i h.len hi
  have c1 := h.row.cells rfl _ _ r1
  have c2 := h.row.cells rfl _ _ r2
  have c3 := h.row.cells rfl _ _ r3
  rw [addr_add] at c1 c2 c3
  exact ⟨c1, c2, c3, reads_own (h.data i hi)⟩
theorem OwnD.shape {w : World} {base : Nat} {v : Value} {fs : List FileL} {vs : List Value} (h : OwnD w base v fs vs) :
    (v = .slice none 0 0 ∧ fs = []) ∨ ∃ g cap, v = .slice (some ⟨g, 0, none⟩) fs.length cap ∧ base ≤ g ∧ g < w.heap.size ∧ fs.length ≤ cap ∧ cap ≤ maxLen := by
  rcases h.row.2 with ⟨hv, h0⟩ | ⟨g, cap, cur, hv, hg, hgg, hc, hm, _⟩
  · exact .inl ⟨hv, List.eq_nil_of_length_eq_zero h0⟩
  · exact .inr ⟨g, cap, hv, hg, (Array.getElem?_eq_some_iff.1 hgg).1, hc, hm⟩
theorem OwnD.reads {w : World} {base : Nat} {v : Value} {fs : List FileL} {vs : List Value} (h : OwnD w base v fs vs) : DiskR w v fs := by
  rcases h.shape with ⟨rfl, rfl⟩ | ⟨g, cap, hv, hg, lt, hc, hm⟩
  · exact ⟨none, 0, rfl, by simp, by simp [maxLen], fun _ => rfl, fun hn => by simp at hn⟩
  · have hf := h.files hv
    subst hv
    refine ⟨_, cap, rfl, hc, hm, fun e => (by cases e), fun _ => ⟨g, 0, rfl, lt, fun i => vs.getD i undef, fun i hi => ?_⟩⟩
    have := hf i hi
    simpa using this
theorem OwnD.frozen {w : World} {base : Nat} {fs : List FileL} {vs : List Value} {g n cap : Nat} (h : OwnD w base (.slice (some ⟨g, 0, none⟩) n cap) fs vs) (j : Nat) : w.frozen? ⟨g, j, none⟩ = false := by
  rcases h.row.2 with ⟨hv, _⟩ | ⟨g', cap', cur, hv, _, hgg, _⟩
  · cases hv
  · injection hv with h1 _ _
    injection h1 with h1
    injection h1 with h1
    subst h1
    simp only [World.frozen?, hgg]
    simp
/-- One file more, behind the others: its data lies apart from theirs. -/
theorem OwnD.snoc {w w' : World} {base B : Nat} {v v' dv : Value} {fs : List FileL} {vs : List Value} {f : FileL} (h : OwnD w base v fs vs)
    (hrow : w'.ownsRow base 102 3 v' (fs.length + 1) (rows fs vs ++ [.string f.name, dv, .int .i64 f.synced])) (hg : w.grownBy w' v.ownBlock)
    (hd : w.ownsRow B 5 1 dv f.data.length (f.data.map (Value.int .u8))) (hB : base ≤ B) (hnew : ∀ i, i < fs.length → ∀ k, (vs.getD i undef).ownBlock = some k → k < B) : OwnD w' base v' (fs ++ [f]) (vs ++ [dv]) := by
  refine ⟨by simp [h.len], by rw [rows_snoc _ _ h.len]; simpa using hrow, ?_, ?_⟩
  · intro i hi
    by_cases hlt : i < fs.length
    · rw [getD_app_left (by rw [h.len]; exact hlt), getD_app_left hlt]
      exact (h.data i hlt).kept hg (own_apart (h.data i hlt) h.row (by decide))
    · have e : i = fs.length := by simp at hi; omega
      subst e
      rw [getD_app_last]
      have e2 : (vs ++ [dv]).getD fs.length undef = dv := by rw [← h.len]; exact getD_app_last
      rw [e2]
      exact (own_lower hd hB).kept hg (own_apart hd h.row (by decide))
  · intro i j hij hj
    by_cases hlt : j < fs.length
    · rw [getD_app_left (by rw [h.len]; exact hlt), getD_app_left (by rw [h.len]; omega)]
      exact h.apart i j hij hlt
    · have e : j = fs.length := by simp at hj; omega
      subst e
      have e2 : (vs ++ [dv]).getD fs.length undef = dv := by rw [← h.len]; exact getD_app_last
      rw [e2, getD_app_left (by rw [h.len]; omega)]
      rcases hd.2 with ⟨hv, _⟩ | ⟨g, cap, cur, hv, hgB, _⟩
      · subst hv; exact .inl rfl
      · subst hv
        refine .inr fun e => ?_
        have := hnew i (by omega) g e.symm
        omega
theorem OwnD.lt {w : World} {base : Nat} {v : Value} {fs : List FileL} {vs : List Value} (h : OwnD w base v fs vs) : ∀ i, i < fs.length → ∀ k, (vs.getD i undef).ownBlock = some k → k < w.heap.size := fun i hi k hk => ((h.data i hi).lt k hk).2

theorem OwnD.drew {w : World} {base : Nat} {v : Value} {fs : List FileL} {vs : List Value} (h : OwnD w base v fs vs) : OwnD w.drew base v fs vs := ⟨h.len, h.row.drew, fun i hi => (h.data i hi).drew, h.apart⟩
theorem OwnD.alloc {w : World} {base : Nat} {v : Value} {fs : List FileL} {vs : List Value} (h : OwnD w base v fs vs) (o : Obj) : OwnD (w.alloc o) base v fs vs := h.below (below_alloc w o) (Nat.le_refl _)
/-- A cell below the base is written. -/
theorem OwnD.setBelow {w : World} {base : Nat} {v : Value} {fs : List FileL} {vs : List Value} (h : OwnD w base v fs vs) {p : Addr} (hp : p.block < base) (x : Value) : OwnD (w.setCell p x) base v fs vs :=
  ⟨h.len, ownsRow_setCell_below h.row hp x, fun i hi => ownsRow_setCell_below (h.data i hi) hp x, h.apart⟩
theorem OwnD.not {w : World} {base k : Nat} {v : Value} {fs : List FileL} {vs : List Value} (h : OwnD w base v fs vs) (hk : k < base) : some k ≠ v.ownBlock := fun e => by have := (h.row.lt k e.symm).1; omega
theorem file_oneCell (f : FileL) {v : Value} (h : v.oneCell' = true) : ∀ u ∈ [Value.string f.name, v, .int .i64 f.synced], u.oneCell' = true := by
  intro u hu
  simp at hu
  rcases hu with rfl | rfl | rfl
  · rfl
  · exact h
  · rfl
end Go.Proofs.YtkgdenbabafeoaaGreatDoor

namespace Go.Proofs.YtkgdenbabafeoaaGreatDoor
set_option maxRecDepth 100000
open Go.ChangeShapes Go.WideShapes Go.ChangeAt Go.RowKit
end Go.Proofs.YtkgdenbabafeoaaGreatDoor

namespace Go.Proofs.YtkgdenbabafeoaaGreatDoor
set_option maxRecDepth 100000
open Go.ChangeShapes Go.WideShapes Go.ChangeAt Go.RowKit

/-- Files whose row is the call's own, and whose data reads; the first k of them have data of their own, apart from one another. -/
structure PartD (w : World) (base : Nat) (v : Value) (fs : List FileL) (vs : List Value) (k : Nat) : Prop where
  len : vs.length = fs.length
  row : w.ownsRow base 102 3 v fs.length (rows fs vs)
  read : ∀ i, i < fs.length → Reads .u8 w (vs.getD i undef) (fs.getD i noF).data
  data : ∀ i, i < k → w.ownsRow base 5 1 (vs.getD i undef) (fs.getD i noF).data.length ((fs.getD i noF).data.map (Value.int .u8))
  apart : ∀ i j, i < j → j < k → (vs.getD j undef).ownBlock = none ∨ (vs.getD j undef).ownBlock ≠ (vs.getD i undef).ownBlock

theorem PartD.own {w : World} {base : Nat} {v : Value} {fs : List FileL} {vs : List Value} (h : PartD w base v fs vs fs.length) : OwnD w base v fs vs := ⟨h.len, h.row, h.data, h.apart⟩
theorem PartD.below {w w' : World} {base B k : Nat} {v : Value} {fs : List FileL} {vs : List Value} (h : PartD w base v fs vs k) (hb : Below B w w') (hB : w.heap.size ≤ B) : PartD w' base v fs vs k :=
  ⟨h.len, own_below h.row hb hB, fun i hi => (h.read i hi).below hb hB, fun i hi => own_below (h.data i hi) hb hB, h.apart⟩

theorem rows_set : ∀ {fs : List FileL} {vs : List Value} (k : Nat) (x : Value), vs.length = fs.length → k < fs.length → rows fs (vs.set k x) = (rows fs vs).set (k * 3 + 1) x
  | [], _, k, x, _, h => by simp at h
  | f :: r, [], k, x, h, _ => by simp at h
  | f :: r, v :: vs, 0, x, _, _ => by simp [rows]
  | f :: r, v :: vs, k + 1, x, h, hk => by
    have := rows_set (fs := r) (vs := vs) k x (by simpa using h) (by simpa using hk)
    have e1 : (k + 1) * 3 + 1 = k * 3 + 1 + 3 := by omega
    rw [e1]
    simp only [List.set_cons_succ, rows, this]
/-- Bytes that read, behind a store into a cell that held no byte. -/
theorem Reads.set {w : World} {v : Value} {xs : List Int} {p : Addr} {u x : Value} (h : Reads .u8 w v xs) (hp : w.cell? p = some u) (hu : ∀ n, u ≠ .int .u8 n) : Reads .u8 (w.setCell p x) v xs := by
  obtain ⟨a, cap, rfl, hc, hm, ha, hcell⟩ := h
  refine ⟨a, cap, rfl, hc, hm, ha, fun y hy i hi => ?_⟩
  have h1 := hcell y hy i hi
  rw [World.cell?_setCell_other _ _ _ _ (fun e => by rw [← e] at h1; rw [hp] at h1; injection h1 with h1; exact hu _ h1), h1]
theorem PartD.store {w : World} {base k g n cap : Nat} {fs : List FileL} {vs : List Value} {x : Value} (h : PartD w base (.slice (some ⟨g, 0, none⟩) n cap) fs vs k) (hk : k < fs.length) {B : Nat} (hB : base ≤ B)
    (hx : w.ownsRow B 5 1 x (fs.getD k noF).data.length ((fs.getD k noF).data.map (Value.int .u8))) (hnew : ∀ i, i < k → ∀ b, (vs.getD i undef).ownBlock = some b → b < B) : PartD (w.setCell ⟨g, k * 3 + 1, none⟩ x) base (.slice (some ⟨g, 0, none⟩) n cap) fs (vs.set k x) (k + 1) := by
  have hn : n = fs.length := by
    rcases h.row.2 with ⟨hv, _⟩ | ⟨g', cap', cur, hv, _⟩
    · cases hv
    · injection hv
  subst hn
  obtain ⟨_, r2, _⟩ := rows_at k h.len hk
  have c2 := h.row.cells rfl _ _ r2
  rw [addr_add] at c2
  have hread : ∀ {v : Value} {ys : List Int}, Reads .u8 w v ys → Reads .u8 (w.setCell ⟨g, k * 3 + 1, none⟩ x) v ys := fun hr => hr.set c2 (fun m => by
    obtain ⟨a, c, e, _⟩ := h.read k hk
    rw [e]; intro hh; cases hh)
  have hap : ∀ {b' n' : Nat} {v' : Value} {ys : List Value}, w.ownsRow b' 5 1 v' n' ys → (w.setCell ⟨g, k * 3 + 1, none⟩ x).ownsRow b' 5 1 v' n' ys := fun ho => own_other ho (own_apart ho h.row (by decide))
  have es : ∀ i, i < fs.length → i ≠ k → (vs.set k x).getD i undef = vs.getD i undef := fun i hi hne => by
    rw [List.getD_eq_getElem?_getD, List.getD_eq_getElem?_getD, List.getElem?_set_ne (fun e => hne e.symm)]
  have ek : (vs.set k x).getD k undef = x := by rw [List.getD_eq_getElem?_getD, List.getElem?_set_self (by rw [h.len]; exact hk)]; rfl
  refine ⟨by rw [List.length_set]; exact h.len, by rw [rows_set k x h.len hk]; exact own_setRow h.row, ?_, ?_, ?_⟩
  · intro i hi
    by_cases e : i = k
    · subst e; rw [ek]; exact hread (reads_own hx)
    · rw [es i hi e]; exact hread (h.read i hi)
  · intro i hi
    by_cases e : i = k
    · subst e; rw [ek]; exact own_lower (hap hx) hB
    · rw [es i (by omega) e]; exact hap (h.data i (by omega))
  · intro i j hij hj
    by_cases e : j = k
    · subst e
      rw [ek, es i (by omega) (by omega)]
      rcases hx.2 with ⟨hv, _⟩ | ⟨g', cap', cur, hv, hgB, _⟩
      · subst hv; exact .inl rfl
      · subst hv
        refine .inr fun e => ?_
        have := hnew i hij g' e.symm
        omega
    · rw [es j (by omega) e, es i (by omega) (by omega)]
      exact h.apart i j hij (by omega)

theorem rows_get : ∀ {fs : List FileL} {vs : List Value} {j : Nat} {u : Value}, vs.length = fs.length → (rows fs vs)[j]? = some u →
    ∃ i, i < fs.length ∧ ((j = i * 3 ∧ u = .string (fs.getD i noF).name) ∨ (j = i * 3 + 1 ∧ u = vs.getD i undef) ∨ (j = i * 3 + 2 ∧ u = .int .i64 (fs.getD i noF).synced))
  | [], _, j, u, _, h => by simp [rows] at h
  | f :: r, [], j, u, h, _ => by simp at h
  | f :: r, v :: vs, 0, u, _, h => ⟨0, by simp, .inl ⟨rfl, by simpa [rows] using h.symm⟩⟩
  | f :: r, v :: vs, 1, u, _, h => ⟨0, by simp, .inr (.inl ⟨rfl, by simpa [rows] using h.symm⟩)⟩
  | f :: r, v :: vs, 2, u, _, h => ⟨0, by simp, .inr (.inr ⟨rfl, by simpa [rows] using h.symm⟩)⟩
  | f :: r, v :: vs, j + 3, u, hl, h => by
    obtain ⟨i, hi, hh⟩ := rows_get (fs := r) (vs := vs) (j := j) (u := u) (by simpa using hl) (by simpa [rows] using h)
    refine ⟨i + 1, by simp; omega, ?_⟩
    rcases hh with ⟨e, eu⟩ | ⟨e, eu⟩ | ⟨e, eu⟩
    · exact .inl ⟨by omega, by simpa using eu⟩
    · exact .inr (.inl ⟨by omega, by simpa using eu⟩)
    · exact .inr (.inr ⟨by omega, by simpa using eu⟩)
theorem rows_one {fs : List FileL} {vs : List Value} (hl : vs.length = fs.length) (h : ∀ i, i < fs.length → (vs.getD i undef).oneCell' = true) : ∀ u ∈ rows fs vs, u.oneCell' = true := by
  intro u hu
  obtain ⟨j, hj⟩ := List.getElem?_of_mem hu
  obtain ⟨i, hi, hh⟩ := rows_get hl hj
  rcases hh with ⟨_, rfl⟩ | ⟨_, rfl⟩ | ⟨_, rfl⟩
  · rfl
  · exact h i hi
  · rfl

/-- 'append([]File(nil), x...)' where x reads as files. -/
theorem wpList_append_files {w : World} {ops : Array Oper} {rest : List Oper} {o : Oper} {a : Act} {Q : Exit → Act → World → Prop} (hgd : o.guard = none) (s x : Operand)
    (ho : o.op = .call { callee := .builtin .append, args := #[s, x], argTypes := #[37, 37] })
    (v2 : Value) (fs : List FileL) (hs : a.eval s = .slice none 0 0) (hx : a.eval x = v2) (hr : DiskR w v2 fs) (hlen : fs.length * 48 ≤ 140737488355328)
    (h : ∀ v' vs w', PartD w' w.heap.size v' fs vs 0 → Below w.heap.size w w' → wpList Tryz.prog ops Q rest (a.put o.dst v') w') :
    wpList Tryz.prog ops Q (o :: rest) a w := by
  obtain ⟨i0, hi, hz0, hz1, hz2⟩ := info_parts Tryz.infoF
  obtain ⟨ad, cap, rfl, hc, hm, ha, hel⟩ := hr
  cases ad with
  | none =>
    have hcap := ha rfl
    have : fs = [] := List.eq_nil_of_length_eq_zero (by omega)
    subst this
    subst hcap
    refine wpList_append_own_none hgd s x 37 ho w.heap.size 102 i0 3 Tryz.underlying37 hi (.slice none 0 0) 0 [] hs (World.ownsRow_nil _ _ _ _) hx ?_
    exact h _ [] w ⟨rfl, World.ownsRow_nil _ _ _ _, fun i hi => by simp at hi, fun i hi => by omega, fun i j _ hj => by omega⟩ (Below.refl _ _)
  | some p =>
    by_cases hn : 0 < fs.length
    · obtain ⟨b, off, e, lt, dv, hv⟩ := hel hn
      injection e with e
      subst e
      have hvl : ((List.range fs.length).map dv).length = fs.length := by simp
      have hvg : ∀ i, i < fs.length → ((List.range fs.length).map dv).getD i undef = dv i := fun i hi => by rw [List.getD_eq_getElem?_getD, List.getElem?_map, List.getElem?_range hi]; rfl
      have hone : ∀ i, i < fs.length → (((List.range fs.length).map dv).getD i undef).oneCell' = true := fun i hi => by
        rw [hvg i hi]
        obtain ⟨_, _, _, c, d, e, _⟩ := hv i hi
        rw [e]; rfl
      have hadd : ∀ t, (⟨b, off, none⟩ : Addr).add t = ⟨b, off + t, none⟩ := fun t => by unfold Addr.add; split <;> simp_all
      refine wpList_append_own w hgd s x 37 ho w.heap.size 102 i0 _ 3 48 Tryz.underlying37 hi hz0 hz1 hz2 rfl (by decide) (.slice none 0 0) 0 [] hs (World.ownsRow_nil _ _ _ _) ⟨b, off, none⟩ fs.length cap (rows fs ((List.range fs.length).map dv)) hx (rows_len hvl) ?_ (rows_one hvl hone) (by unfold maxLen; omega) (by omega) (Nat.le_refl _) ?_
      · intro j u hu
        obtain ⟨i, hi, hh⟩ := rows_get hvl hu
        obtain ⟨c1, c2, c3, _⟩ := hv i hi
        rw [hadd]
        rcases hh with ⟨rfl, rfl⟩ | ⟨rfl, rfl⟩ | ⟨rfl, rfl⟩
        · exact c1
        · rw [hvg i hi]; rw [Nat.add_assoc] at c2; exact c2
        · rw [Nat.add_assoc] at c3; exact c3
      · intro v' w' h2 h3 _
        have hb : Below w.heap.size w w' := (Below.refl _ _).grown h3 (Nat.le_refl _) (fun k hk => by simp [Value.ownBlock] at hk)
        refine h v' _ w' ⟨hvl, by simpa using h2, fun i hi => ?_, fun i hi => by omega, fun i j _ hj => by omega⟩ hb
        rw [hvg i hi]
        exact (hv i hi).2.2.2.below hb (Nat.le_refl _)
    · have : fs = [] := List.eq_nil_of_length_eq_zero (by omega)
      subst this
      refine wpList_append_own w hgd s x 37 ho w.heap.size 102 i0 _ 3 48 Tryz.underlying37 hi hz0 hz1 hz2 rfl (by decide) (.slice none 0 0) 0 [] hs (World.ownsRow_nil _ _ _ _) p 0 cap [] hx rfl (fun j u hu => by simp at hu) (fun u hu => by simp at hu) (by simp [maxLen]) (by simp) (Nat.le_refl _) ?_
      intro v' w' h2 h3 h4
      have hb : Below w.heap.size w w' := (Below.refl _ _).grown h3 (Nat.le_refl _) (fun k hk => by simp [Value.ownBlock] at hk)
      exact h v' [] w' ⟨rfl, h2, fun i hi => by simp at hi, fun i hi => by omega, fun i j _ hj => by omega⟩ hb

theorem PartD.setBelow {w : World} {base k : Nat} {v : Value} {fs : List FileL} {vs : List Value} (h : PartD w base v fs vs k) {p : Addr} (hp : p.block < base) {u x : Value} (hpc : w.cell? p = some u) (hu : ∀ n, u ≠ .int .u8 n) : PartD (w.setCell p x) base v fs vs k :=
  ⟨h.len, ownsRow_setCell_below h.row hp x, fun i hi => (h.read i hi).set hpc hu, fun i hi => ownsRow_setCell_below (h.data i hi) hp x, h.apart⟩
theorem PartD.shape {w : World} {base k : Nat} {v : Value} {fs : List FileL} {vs : List Value} (h : PartD w base v fs vs k) :
    ∃ a cap, v = .slice a fs.length cap ∧ cap ≤ maxLen ∧ (0 < fs.length → ∃ g, a = some ⟨g, 0, none⟩ ∧ base ≤ g ∧ g < w.heap.size ∧ (∀ j, w.frozen? ⟨g, j, none⟩ = false) ∧ ∀ i, i < fs.length → w.cell? ⟨g, i * 3 + 1, none⟩ = some (vs.getD i undef)) := by
  rcases h.row.2 with ⟨hv, h0⟩ | ⟨g, cap, cur, hv, hg, hgg, hc, hm, _⟩
  · exact ⟨none, 0, by rw [h0]; exact hv, by simp [maxLen], fun h => by omega⟩
  · refine ⟨_, cap, hv, hm, fun _ => ⟨g, rfl, hg, (Array.getElem?_eq_some_iff.1 hgg).1, fun j => by simp only [World.frozen?, hgg]; simp, fun i hi => ?_⟩⟩
    subst hv
    obtain ⟨_, r2, _⟩ := rows_at i h.len hi
    have c2 := h.row.cells rfl _ _ r2
    rwa [addr_add] at c2

set_option maxHeartbeats 2000000 in
set_option maxRecDepth 100000 in
theorem copyFiles_any (pb : Nat) (v : Value) (fs : List FileL) (w : World) (hp : w.cell? ⟨pb, 0, none⟩ = some v) (hpf : w.frozen? ⟨pb, 0, none⟩ = false) (h : DiskR w v fs) (hg : Good fs) (hl : fs.length ≤ 40) :
    Calls Tryz.prog 58 #[.pointer (some ⟨pb, 0, none⟩)] w fun e w' => ∃ v' vs, e = .returned (.tuple #[]) ∧ w'.cell? ⟨pb, 0, none⟩ = some v' ∧ w'.frozen? ⟨pb, 0, none⟩ = false ∧ OwnD w' w.heap.size v' fs vs ∧ Below pb w w' := by
  have lp : pb < w.heap.size := World.block_lt_of_cell? w _ hp
  have HD : Hid (DiskR w v fs) := h
  have HG : Hid (Good fs) := hg
  obtain ⟨a, cap, rfl, _, _, _, _⟩ := h
  clear hg
  go_enter Tryz.func58, Tryz.ntmps58
  go_wp2_with (at_builtin; refine wpList_append_files rfl _ _ rfl _ fs rfl rfl HD.out (by omega) ?_)
  intro v1 vs1 w1 hpart hb1
  obtain ⟨a1, c1, rfl, hm1, hsh⟩ := hpart.shape
  have k0 : w1.cell? ⟨pb, 0, none⟩ = some (.slice a fs.length cap) := (hb1.cell (p := ⟨pb, 0, none⟩) lp).trans hp
  have k1 : w1.frozen? ⟨pb, 0, none⟩ = false := (hb1.frozen (p := ⟨pb, 0, none⟩) lp).trans hpf
  have P1 : Hid (PartD (w1.setCell ⟨pb, 0, none⟩ (.slice a1 fs.length c1)) w.heap.size (.slice a1 fs.length c1) fs vs1 0) := hpart.setBelow (show pb < w.heap.size from lp) k0 (fun n hh => by cases hh)
  have B1 : Hid (Below pb w (w1.setCell ⟨pb, 0, none⟩ (.slice a1 fs.length c1))) := (hb1.mono (Nat.le_of_lt lp)).setCell (p := ⟨pb, 0, none⟩) (show pb ≤ pb from Nat.le_refl _) _
  have k2 : (w1.setCell ⟨pb, 0, none⟩ (.slice a1 fs.length c1)).cell? ⟨pb, 0, none⟩ = some (.slice a1 fs.length c1) := World.cell?_setCell_same _ _ _ k0
  have hs1 : w.heap.size ≤ (w1.setCell ⟨pb, 0, none⟩ (.slice a1 fs.length c1)).heap.size := by rw [size_setCell]; exact hb1.size
  have k3 : (w1.setCell ⟨pb, 0, none⟩ (.slice a1 fs.length c1)).frozen? ⟨pb, 0, none⟩ = false := (World.frozen?_setCell _ _ _ _).trans k1
  unfold maxLen at hm1
  clear hpart hb1 hsh
  go_wp2_with fail
  generalize w1.setCell ⟨pb, 0, none⟩ (.slice a1 fs.length c1) = w2 at *
  go_loopw [19] (fun i wr => ∃ (k : Nat) (vs : List Value), k ≤ fs.length ∧ i = .int .i64 k ∧ PartD wr w.heap.size (.slice a1 fs.length c1) fs vs k ∧ wr.cell? ⟨pb, 0, none⟩ = some (.slice a1 fs.length c1) ∧ wr.frozen? ⟨pb, 0, none⟩ = false ∧ w.heap.size ≤ wr.heap.size ∧ Below pb w wr) (fun i _ => fs.length - (intOf i).toNat)
  case atStart => exact ⟨0, vs1, by omega, rfl, P1.out, k2, k3, hs1, B1.out⟩
  case round =>
    obtain ⟨k, vs, hk, rfl, hpart, hcp, hfp, hsz, hbel⟩ := hrel
    have HP : Hid (PartD wr w.heap.size (.slice a1 fs.length c1) fs vs k) := hpart
    have HB : Hid (Below pb w wr) := hbel
    by_cases hlt : k < fs.length
    · obtain ⟨a2, c2, e2, _, hsh⟩ := hpart.shape
      injection e2 with e2 _ e3
      subst e2 e3
      obtain ⟨g, rfl, hg1, hg2, hfz, hcells⟩ := hsh (by omega)
      have hck := hcells k hlt
      have hfk := hfz (k * 3 + 1)
      have RD : Hid (Reads .u8 wr (vs.getD k undef) (fs.getD k noF).data) := hpart.read k hlt
      have hdl : (fs.getD k noF).data.length ≤ 140737488355328 := by have := (HG.out k hlt).2.2.2.2; omega
      have HST : Hid (∀ w6 v6, Below wr.heap.size wr w6 → w6.ownsRow wr.heap.size 5 1 v6 (fs.getD k noF).data.length ((fs.getD k noF).data.map (Value.int .u8)) → PartD (w6.setCell ⟨g, k * 3 + 1, none⟩ v6) w.heap.size (.slice (some ⟨g, 0, none⟩) fs.length c1) fs (vs.set k v6) (k + 1)) := fun w6 v6 hb6 ho6 =>
        (HP.out.below hb6 (Nat.le_refl _)).store hlt hsz ho6 (fun i hi b hbk => ((HP.out.data i hi).lt b hbk).2)
      clear hpart hbel hcells hfz hsh
      generalize vs.getD k undef = dv at *
      generalize fs.getD k noF = f at *
      obtain ⟨da, dn, dc, rfl⟩ : ∃ a n c, dv = .slice a n c := by obtain ⟨a, c, h, _⟩ := RD.out; exact ⟨_, _, _, h⟩
      have q0 : (0 : Int) ≤ (k : Int) := by omega
      have q1 : (k : Int) < (fs.length : Int) := by omega
      have lpr : pb < wr.heap.size := by omega
      go_wp2_with fail
      go_region_with (first
        | (go_at_call 60; refine (clone_any _ f.data _ ?_ hdl).mono ?_; exact RD.out; rintro e w6 ⟨v6, rfl, hown6, hbel6⟩; have hb6 : Below wr.heap.size wr w6 := ⟨hbel6.os, hbel6.tape, hbel6.output, hbel6.size, hbel6.block⟩; have ho6 : w6.ownsRow wr.heap.size 5 1 v6 f.data.length (f.data.map (Value.int .u8)) := hown6; have j0 := (hb6.cell (p := ⟨pb, 0, none⟩) lpr).trans hcp; have j1 := (hb6.cell (p := ⟨g, k * 3 + 1, none⟩) hg2).trans hck; have j2 := (hb6.frozen (p := ⟨g, k * 3 + 1, none⟩) hg2).trans hfk; have j3 := (hb6.frozen (p := ⟨pb, 0, none⟩) lpr).trans hfp; clear hown6 hbel6; obtain ⟨xa, xn, xc, rfl⟩ : ∃ a n c, v6 = .slice a n c := by obtain ⟨a, c, h, _⟩ := reads_own ho6; exact ⟨_, _, _, h⟩))
      all_goals
        have P7 := HST.out _ _ hb6 ho6
        have hpg : pb ≠ g := by omega
        go_wp2_with fail
        go_roundw
        case rel => exact ⟨k + 1, _, by omega, by go_num, P7, by rw [World.cell?_setCell_other _ _ _ _ (fun e => hpg (congrArg Addr.block e).symm)]; exact j0, (World.frozen?_setCell _ _ _ _).trans j3, by rw [size_setCell]; have := hb6.size; omega, (HB.out.trans (hb6.mono (by omega))).setCell (show pb ≤ g by omega) _⟩
        case measure => simp [intOf]; omega
    · have ek : k = fs.length := by omega
      subst ek
      go_wp2_with fail
      go_end0
      exact ⟨_, vs, rfl, hcp, hfp, HP.out.own, HB.out⟩
end Go.Proofs.YtkgdenbabafeoaaGreatDoor

namespace Go.Proofs.YtkgdenbabafeoaaGreatDoor
set_option maxRecDepth 100000
open Go.ChangeShapes Go.WideShapes Go.ChangeAt Go.RowKit

/-- P3.1 ahead of all else. -/
def chF (fs : List FileL) (g : List FileL × Int) : List FileL × Int := if mayB fs = true then g else ([], 9)

/-- What a change does with a disk at work, in the block p: it answers an error, or leaves the files g. -/
def Change (fs : List FileL) (g : List FileL × Int) (k : Nat) (caps : List Value) (w : World) : Prop :=
  ∀ (p B : Nat) (w3 : World) (v3 : Value) (vs : List Value), w.heap.size ≤ p → p < B → B ≤ w3.heap.size → w3.cell? ⟨p, 0, none⟩ = some v3 → w3.frozen? ⟨p, 0, none⟩ = false → OwnD w3 B v3 fs vs → Below w.heap.size w w3 → mayB fs = true →
    Calls Tryz.prog k (.pointer (some ⟨p, 0, none⟩) :: caps).toArray w3 fun e w4 => ∃ v4, e = .returned (.int .i64 g.2) ∧ w4.cell? ⟨p, 0, none⟩ = some v4 ∧ (g.2 = 0 → DiskR w4 v4 g.1) ∧ Below p w3 w4

theorem diskR_nil (w : World) : DiskR w (.slice none 0 0) [] := ⟨none, 0, rfl, by simp, by simp [maxLen], fun _ => rfl, fun hn => by simp at hn⟩
/-- A disk behind a store into a cell that held a slice. -/
theorem DiskR.setSlice {w : World} {v : Value} {fs : List FileL} {p : Addr} {a : Option Addr} {n c : Nat} {x : Value} (h : DiskR w v fs) (hp : w.cell? p = some (.slice a n c)) (hne : 0 < fs.length → ∀ b off cap, v = .slice (some ⟨b, off, none⟩) fs.length cap → p.block ≠ b) : DiskR (w.setCell p x) v fs := by
  obtain ⟨a', cap, rfl, hc, hm, ha, hel⟩ := h
  refine ⟨a', cap, rfl, hc, hm, ha, fun hn => ?_⟩
  obtain ⟨b, off, rfl, lt, vs, hv⟩ := hel hn
  have hb := hne hn b off cap rfl
  refine ⟨b, off, rfl, by rw [size_setCell]; exact lt, vs, fun i hi => ?_⟩
  obtain ⟨c1, c2, c3, c4⟩ := hv i hi
  have far : ∀ o u, w.cell? ⟨b, o, none⟩ = some u → (w.setCell p x).cell? ⟨b, o, none⟩ = some u := fun o u hu => by
    rw [World.cell?_setCell_other _ _ _ _ (fun e => hb (congrArg Addr.block e))]; exact hu
  exact ⟨far _ _ c1, far _ _ c2, far _ _ c3, c4.set hp (fun m hh => by cases hh)⟩

set_option maxHeartbeats 1000000 in
set_option maxRecDepth 100000 in
theorem changed_one (v : Value) (fs : List FileL) (g : List FileL × Int) (k : Nat) (c1 : Value) (w : World) (h : DiskR w v fs) (hg : Good fs) (hge : g.2 ≠ 0 → g.1 = []) (hent : ∀ args w, (callFunc k args).run Tryz.prog w = .ok (.enter k args) w) (hch : Change fs g k [c1] w) :
    Calls Tryz.prog 31 #[.agg #[v], .func (.func k) #[] #[c1]] w fun e w' => ∃ v', e = .returned (.tuple #[.agg #[v'], .int .i64 (chF fs g).2]) ∧ DiskR w' v' (chF fs g).1 ∧ Below w.heap.size w w' := by
  have HG : Hid (Good fs) := hg
  have HD : Hid (DiskR w v fs) := h
  have HC : Hid (Change fs g k [c1] w) := hch
  have HGE : Hid (g.2 ≠ 0 → g.1 = []) := hge
  obtain ⟨a, cap, rfl, hc, hm, _, _⟩ := h
  clear hg hch hge
  unfold maxLen at hm
  go_enter Tryz.func31, Tryz.ntmps31
  go_wp2_with fail
  refine (mayBe_any (w.heap.size + 2) (.slice a fs.length cap) fs _ ?_ ?_ HG.out).mono ?_
  · exact cell_third _ _ _ _ _
  · exact ((HD.out.below (below_alloc _ _) (Nat.le_refl _)).below (below_alloc _ _) (Nat.le_refl _)).below (below_alloc _ _) (Nat.le_refl _)
  rintro e w1 ⟨rfl, hb1⟩
  have hb1' : Below (w.heap.size + 3) (((w.alloc (.cells #[.slice a fs.length cap] 39)).alloc (.cells #[.slice none 0 0] 39)).alloc (.cells #[.slice a fs.length cap] 98)) w1 := by simpa using hb1
  have r1 : w1.cell? ⟨w.heap.size + 2, 0, none⟩ = some (.slice a fs.length cap) := (hb1'.cell (p := ⟨w.heap.size + 2, 0, none⟩) (Nat.lt_succ_self _)).trans (cell_third _ _ _ _ _)
  have r2 : w1.frozen? ⟨w.heap.size + 2, 0, none⟩ = false := (hb1'.frozen (p := ⟨w.heap.size + 2, 0, none⟩) (Nat.lt_succ_self _)).trans (frozen_third _ _ _ _ _)
  have B0 : Hid (Below (w.heap.size + 2) ((w.alloc (.cells #[.slice a fs.length cap] 39)).alloc (.cells #[.slice none 0 0] 39)) w1) := ((Below.refl _ _).alloc (by simp) _).trans (hb1'.mono (by omega))
  have hs1 : w.heap.size + 3 ≤ w1.heap.size := by have := hb1'.size; simp at this; omega
  have B1 : Hid (Below w.heap.size w w1) := below_two B0.out
  have D1 : Hid (DiskR w1 (.slice a fs.length cap) fs) := HD.out.below B1.out (Nat.le_refl _)
  clear hb1 hb1'
  cases hmay : mayB fs with
  | false =>
    have HF : Hid (chF fs g = ([], 9)) := by simp [chF, Hid, hmay]
    have t1 : w1.cell? ⟨w.heap.size + 1, 0, none⟩ = some (.slice none 0 0) := (B0.out.cell (p := ⟨w.heap.size + 1, 0, none⟩) (Nat.lt_succ_self _)).trans (cell_second _ _ _ _)
    have t2 : w1.frozen? ⟨w.heap.size + 1, 0, none⟩ = false := (B0.out.frozen (p := ⟨w.heap.size + 1, 0, none⟩) (Nat.lt_succ_self _)).trans (frozen_second _ _ _ _)
    clear hmay
    go_wp2_with fail
    refine bodyPost_ret (v := .tuple #[.agg #[.slice none 0 0], .int .i64 9]) (by simp [results, Tryz.results31, go_sem, t1]) rfl ⟨.slice none 0 0, by rw [HF.out], by rw [HF.out]; exact diskR_nil _, B1.out.setCell (show w.heap.size ≤ w.heap.size + 1 by omega) _⟩
  | true =>
    have HMAY : Hid (mayB fs = true) := hmay
    have HF : Hid (chF fs g = g) := by simp [chF, Hid, hmay]
    clear hmay
    have h40 := (may_iff.1 HMAY.out).1
    go_wp2_with fail
    refine (copyFiles_any (w.heap.size + 2) (.slice a fs.length cap) fs _ r1 r2 D1.out HG.out h40).mono ?_
    rintro e w2 ⟨v2, vs2, rfl, hc2, hf2, ho2, hb2⟩
    have B2 : Hid (Below (w.heap.size + 2) ((w.alloc (.cells #[.slice a fs.length cap] 39)).alloc (.cells #[.slice none 0 0] 39)) w2) := B0.out.trans hb2
    have hs2 := hb2.size
    have O2 : Hid (OwnD w2 w1.heap.size v2 fs vs2) := ho2
    clear hb2 ho2
    go_wp2_with fail
    refine (HC.out (w.heap.size + 2) w1.heap.size _ v2 vs2 (by omega) (by omega) hs2 hc2 hf2 O2.out (below_two B2.out) HMAY.out).mono ?_
    rintro e w4 ⟨v4, rfl, hc4, hd4, hb4⟩
    have B4 : Hid (Below (w.heap.size + 2) ((w.alloc (.cells #[.slice a fs.length cap] 39)).alloc (.cells #[.slice none 0 0] 39)) w4) := B2.out.trans hb4
    have t1 : w4.cell? ⟨w.heap.size + 1, 0, none⟩ = some (.slice none 0 0) := (B4.out.cell (p := ⟨w.heap.size + 1, 0, none⟩) (Nat.lt_succ_self _)).trans (cell_second _ _ _ _)
    have t2 : w4.frozen? ⟨w.heap.size + 1, 0, none⟩ = false := (B4.out.frozen (p := ⟨w.heap.size + 1, 0, none⟩) (Nat.lt_succ_self _)).trans (frozen_second _ _ _ _)
    clear hb4
    by_cases he : g.2 = 0
    · have HD4 : Hid (DiskR w4 v4 g.1) := hd4 he
      have HE : Hid (g.2 = 0) := he
      have he' : (g.2 != 0) = false := by simp [he]
      clear hd4 he
      obtain ⟨a4, c4, rfl, _, _, _, hel4⟩ := HD4.out
      have hblk : w4.heap[w.heap.size + 1]? = some (.cells #[.slice none 0 0] 39 (0, 0)) := by
        rw [B4.out.block (w.heap.size + 1) (Nat.lt_succ_self _)]
        have := heap_alloc_new (w.alloc (.cells #[.slice a fs.length cap] 39)) (.cells #[.slice none 0 0] 39)
        simpa using this
      have D5 : Hid (DiskR (w4.setCell ⟨w.heap.size + 1, 0, none⟩ (.slice a4 g.1.length c4)) (.slice a4 g.1.length c4) g.1) := by
        refine HD4.out.setSlice t1 (fun hn b off cap' e hb => ?_)
        injection e with e1 _ _
        subst e1
        have hb' : w.heap.size + 1 = b := hb
        subst hb'
        obtain ⟨b', off', e', _, vs', hv'⟩ := hel4 hn
        injection e' with e'
        injection e' with e1 e2
        subst e1 e2
        have c2 := (hv' 0 hn).2.1
        rw [cell_of_row w4 _ _ _ _ _ hblk] at c2
        simp at c2
      have HR : Hid (g = (g.1, 0)) := Prod.ext rfl HE.out
      clear hel4 hblk
      generalize g.2 = q at *
      go_wp2_with fail
      refine bodyPost_ret (v := .tuple #[.agg #[.slice a4 g.1.length c4], .int .i64 0]) (by simp [results, Tryz.results31, go_sem, t1]) rfl ⟨_, by rw [HF.out, HR.out], by rw [HF.out]; exact D5.out, (below_two B4.out).setCell (show w.heap.size ≤ w.heap.size + 1 by omega) _⟩
    · have HR : Hid (g = ([], g.2)) := Prod.ext (HGE.out he) rfl
      have he' : (g.2 != 0) = true := by simp [he]
      clear hd4 he
      generalize g.2 = q at *
      go_wp2_with fail
      refine bodyPost_ret (v := .tuple #[.agg #[.slice none 0 0], .int .i64 q]) (by simp [results, Tryz.results31, go_sem, t1]) rfl ⟨.slice none 0 0, by rw [HF.out, HR.out], by rw [HF.out, HR.out]; exact diskR_nil _, (below_two B4.out).setCell (show w.heap.size ≤ w.heap.size + 1 by omega) _⟩
set_option maxHeartbeats 1000000 in
set_option maxRecDepth 100000 in
theorem changed_two (v : Value) (fs : List FileL) (g : List FileL × Int) (k : Nat) (c1 c2 : Value) (w : World) (h : DiskR w v fs) (hg : Good fs) (hge : g.2 ≠ 0 → g.1 = []) (hent : ∀ args w, (callFunc k args).run Tryz.prog w = .ok (.enter k args) w) (hch : Change fs g k [c1, c2] w) :
    Calls Tryz.prog 31 #[.agg #[v], .func (.func k) #[] #[c1, c2]] w fun e w' => ∃ v', e = .returned (.tuple #[.agg #[v'], .int .i64 (chF fs g).2]) ∧ DiskR w' v' (chF fs g).1 ∧ Below w.heap.size w w' := by
  have HG : Hid (Good fs) := hg
  have HD : Hid (DiskR w v fs) := h
  have HC : Hid (Change fs g k [c1, c2] w) := hch
  have HGE : Hid (g.2 ≠ 0 → g.1 = []) := hge
  obtain ⟨a, cap, rfl, hc, hm, _, _⟩ := h
  clear hg hch hge
  unfold maxLen at hm
  go_enter Tryz.func31, Tryz.ntmps31
  go_wp2_with fail
  refine (mayBe_any (w.heap.size + 2) (.slice a fs.length cap) fs _ ?_ ?_ HG.out).mono ?_
  · exact cell_third _ _ _ _ _
  · exact ((HD.out.below (below_alloc _ _) (Nat.le_refl _)).below (below_alloc _ _) (Nat.le_refl _)).below (below_alloc _ _) (Nat.le_refl _)
  rintro e w1 ⟨rfl, hb1⟩
  have hb1' : Below (w.heap.size + 3) (((w.alloc (.cells #[.slice a fs.length cap] 39)).alloc (.cells #[.slice none 0 0] 39)).alloc (.cells #[.slice a fs.length cap] 98)) w1 := by simpa using hb1
  have r1 : w1.cell? ⟨w.heap.size + 2, 0, none⟩ = some (.slice a fs.length cap) := (hb1'.cell (p := ⟨w.heap.size + 2, 0, none⟩) (Nat.lt_succ_self _)).trans (cell_third _ _ _ _ _)
  have r2 : w1.frozen? ⟨w.heap.size + 2, 0, none⟩ = false := (hb1'.frozen (p := ⟨w.heap.size + 2, 0, none⟩) (Nat.lt_succ_self _)).trans (frozen_third _ _ _ _ _)
  have B0 : Hid (Below (w.heap.size + 2) ((w.alloc (.cells #[.slice a fs.length cap] 39)).alloc (.cells #[.slice none 0 0] 39)) w1) := ((Below.refl _ _).alloc (by simp) _).trans (hb1'.mono (by omega))
  have hs1 : w.heap.size + 3 ≤ w1.heap.size := by have := hb1'.size; simp at this; omega
  have B1 : Hid (Below w.heap.size w w1) := below_two B0.out
  have D1 : Hid (DiskR w1 (.slice a fs.length cap) fs) := HD.out.below B1.out (Nat.le_refl _)
  clear hb1 hb1'
  cases hmay : mayB fs with
  | false =>
    have HF : Hid (chF fs g = ([], 9)) := by simp [chF, Hid, hmay]
    have t1 : w1.cell? ⟨w.heap.size + 1, 0, none⟩ = some (.slice none 0 0) := (B0.out.cell (p := ⟨w.heap.size + 1, 0, none⟩) (Nat.lt_succ_self _)).trans (cell_second _ _ _ _)
    have t2 : w1.frozen? ⟨w.heap.size + 1, 0, none⟩ = false := (B0.out.frozen (p := ⟨w.heap.size + 1, 0, none⟩) (Nat.lt_succ_self _)).trans (frozen_second _ _ _ _)
    clear hmay
    go_wp2_with fail
    refine bodyPost_ret (v := .tuple #[.agg #[.slice none 0 0], .int .i64 9]) (by simp [results, Tryz.results31, go_sem, t1]) rfl ⟨.slice none 0 0, by rw [HF.out], by rw [HF.out]; exact diskR_nil _, B1.out.setCell (show w.heap.size ≤ w.heap.size + 1 by omega) _⟩
  | true =>
    have HMAY : Hid (mayB fs = true) := hmay
    have HF : Hid (chF fs g = g) := by simp [chF, Hid, hmay]
    clear hmay
    have h40 := (may_iff.1 HMAY.out).1
    go_wp2_with fail
    refine (copyFiles_any (w.heap.size + 2) (.slice a fs.length cap) fs _ r1 r2 D1.out HG.out h40).mono ?_
    rintro e w2 ⟨v2, vs2, rfl, hc2, hf2, ho2, hb2⟩
    have B2 : Hid (Below (w.heap.size + 2) ((w.alloc (.cells #[.slice a fs.length cap] 39)).alloc (.cells #[.slice none 0 0] 39)) w2) := B0.out.trans hb2
    have hs2 := hb2.size
    have O2 : Hid (OwnD w2 w1.heap.size v2 fs vs2) := ho2
    clear hb2 ho2
    go_wp2_with fail
    refine (HC.out (w.heap.size + 2) w1.heap.size _ v2 vs2 (by omega) (by omega) hs2 hc2 hf2 O2.out (below_two B2.out) HMAY.out).mono ?_
    rintro e w4 ⟨v4, rfl, hc4, hd4, hb4⟩
    have B4 : Hid (Below (w.heap.size + 2) ((w.alloc (.cells #[.slice a fs.length cap] 39)).alloc (.cells #[.slice none 0 0] 39)) w4) := B2.out.trans hb4
    have t1 : w4.cell? ⟨w.heap.size + 1, 0, none⟩ = some (.slice none 0 0) := (B4.out.cell (p := ⟨w.heap.size + 1, 0, none⟩) (Nat.lt_succ_self _)).trans (cell_second _ _ _ _)
    have t2 : w4.frozen? ⟨w.heap.size + 1, 0, none⟩ = false := (B4.out.frozen (p := ⟨w.heap.size + 1, 0, none⟩) (Nat.lt_succ_self _)).trans (frozen_second _ _ _ _)
    clear hb4
    by_cases he : g.2 = 0
    · have HD4 : Hid (DiskR w4 v4 g.1) := hd4 he
      have HE : Hid (g.2 = 0) := he
      have he' : (g.2 != 0) = false := by simp [he]
      clear hd4 he
      obtain ⟨a4, c4, rfl, _, _, _, hel4⟩ := HD4.out
      have hblk : w4.heap[w.heap.size + 1]? = some (.cells #[.slice none 0 0] 39 (0, 0)) := by
        rw [B4.out.block (w.heap.size + 1) (Nat.lt_succ_self _)]
        have := heap_alloc_new (w.alloc (.cells #[.slice a fs.length cap] 39)) (.cells #[.slice none 0 0] 39)
        simpa using this
      have D5 : Hid (DiskR (w4.setCell ⟨w.heap.size + 1, 0, none⟩ (.slice a4 g.1.length c4)) (.slice a4 g.1.length c4) g.1) := by
        refine HD4.out.setSlice t1 (fun hn b off cap' e hb => ?_)
        injection e with e1 _ _
        subst e1
        have hb' : w.heap.size + 1 = b := hb
        subst hb'
        obtain ⟨b', off', e', _, vs', hv'⟩ := hel4 hn
        injection e' with e'
        injection e' with e1 e2
        subst e1 e2
        have y2 := (hv' 0 hn).2.1
        rw [cell_of_row w4 _ _ _ _ _ hblk] at y2
        simp at y2
      have HR : Hid (g = (g.1, 0)) := Prod.ext rfl HE.out
      clear hel4 hblk
      generalize g.2 = q at *
      go_wp2_with fail
      refine bodyPost_ret (v := .tuple #[.agg #[.slice a4 g.1.length c4], .int .i64 0]) (by simp [results, Tryz.results31, go_sem, t1]) rfl ⟨_, by rw [HF.out, HR.out], by rw [HF.out]; exact D5.out, (below_two B4.out).setCell (show w.heap.size ≤ w.heap.size + 1 by omega) _⟩
    · have HR : Hid (g = ([], g.2)) := Prod.ext (HGE.out he) rfl
      have he' : (g.2 != 0) = true := by simp [he]
      clear hd4 he
      generalize g.2 = q at *
      go_wp2_with fail
      refine bodyPost_ret (v := .tuple #[.agg #[.slice none 0 0], .int .i64 q]) (by simp [results, Tryz.results31, go_sem, t1]) rfl ⟨.slice none 0 0, by rw [HF.out, HR.out], by rw [HF.out, HR.out]; exact diskR_nil _, (below_two B4.out).setCell (show w.heap.size ≤ w.heap.size + 1 by omega) _⟩
end Go.Proofs.YtkgdenbabafeoaaGreatDoor

namespace Go.Proofs.YtkgdenbabafeoaaGreatDoor
set_option maxRecDepth 100000
open Go.ChangeShapes Go.WideShapes Go.ChangeAt Go.RowKit

theorem getD_set_eq {fs : List FileL} {k : Nat} {f : FileL} (h : k < fs.length) : (fs.set k f).getD k noF = f := by
  rw [List.getD_eq_getElem?_getD, List.getElem?_set_self h]; rfl
theorem getD_set_ne {fs : List FileL} {k i : Nat} {f : FileL} (h : i ≠ k) : (fs.set k f).getD i noF = fs.getD i noF := by
  rw [List.getD_eq_getElem?_getD, List.getD_eq_getElem?_getD, List.getElem?_set_ne (fun e => h e.symm)]

theorem addr_ne {g o o' : Nat} (h : o ≠ o') : (⟨g, o, none⟩ : Addr) ≠ ⟨g, o', none⟩ := fun e => h (congrArg Addr.off e)

theorem fileC_other {w : World} {g i k r : Nat} {v x u : Value} {f : FileL} (h : FileC w g (i * 3) v f) (hp : w.cell? ⟨g, k * 3 + r, none⟩ = some u) (hu : ∀ n, u ≠ .int .u8 n) (hr : r < 3) (hne : i ≠ k) : FileC (w.setCell ⟨g, k * 3 + r, none⟩ x) g (i * 3) v f := by
  obtain ⟨c1, c2, c3, c4⟩ := h
  refine ⟨?_, ?_, ?_, c4.set hp hu⟩
  · rw [World.cell?_setCell_other _ _ _ _ (addr_ne (by omega))]; exact c1
  · rw [World.cell?_setCell_other _ _ _ _ (addr_ne (by omega))]; exact c2
  · rw [World.cell?_setCell_other _ _ _ _ (addr_ne (by omega))]; exact c3
theorem fileC_synced {w : World} {g o : Nat} {v : Value} {f : FileL} {s : Int} (h : FileC w g o v f) : FileC (w.setCell ⟨g, o + 2, none⟩ (.int .i64 s)) g o v { f with synced := s } := by
  obtain ⟨c1, c2, c3, c4⟩ := h
  refine ⟨?_, ?_, ?_, c4.set c3 (fun n hh => by cases hh)⟩
  · rw [World.cell?_setCell_other _ _ _ _ (addr_ne (by omega))]; exact c1
  · rw [World.cell?_setCell_other _ _ _ _ (addr_ne (by omega))]; exact c2
  · exact World.cell?_setCell_same _ _ _ c3
theorem fileC_name {w : World} {g o : Nat} {v : Value} {f : FileL} {n : ByteArray} (h : FileC w g o v f) : FileC (w.setCell ⟨g, o, none⟩ (.string n)) g o v { f with name := n } := by
  obtain ⟨c1, c2, c3, c4⟩ := h
  refine ⟨?_, ?_, ?_, c4.set c1 (fun n hh => by cases hh)⟩
  · exact World.cell?_setCell_same _ _ _ c1
  · rw [World.cell?_setCell_other _ _ _ _ (addr_ne (by omega))]; exact c2
  · rw [World.cell?_setCell_other _ _ _ _ (addr_ne (by omega))]; exact c3
theorem fileC_data {w : World} {g o : Nat} {v v' : Value} {f : FileL} {l : List Int} (h : FileC w g o v f) (hr : Reads .u8 w v' l) : FileC (w.setCell ⟨g, o + 1, none⟩ v') g o v' { f with data := l } := by
  obtain ⟨c1, c2, c3, c4⟩ := h
  refine ⟨?_, ?_, ?_, hr.set c2 (fun n hh => ?_)⟩
  · rw [World.cell?_setCell_other _ _ _ _ (addr_ne (by omega))]; exact c1
  · exact World.cell?_setCell_same _ _ _ c2
  · rw [World.cell?_setCell_other _ _ _ _ (addr_ne (by omega))]; exact c3
  · obtain ⟨a, c, e, _⟩ := c4
    rw [e] at hh; cases hh

/-- Files that stand in a row from a block's head on. -/
structure RowF (w : World) (g cap : Nat) (fs : List FileL) (vs : Nat → Value) : Prop where
  le : fs.length ≤ cap
  max : cap ≤ maxLen
  lt : g < w.heap.size
  file : ∀ i, i < fs.length → FileC w g (i * 3) (vs i) (fs.getD i noF)
  free : ∀ j, w.frozen? ⟨g, j, none⟩ = false

theorem RowF.reads {w : World} {g cap : Nat} {fs : List FileL} {vs : Nat → Value} (h : RowF w g cap fs vs) : DiskR w (.slice (some ⟨g, 0, none⟩) fs.length cap) fs :=
  ⟨_, cap, rfl, h.le, h.max, fun e => (by cases e), fun _ => ⟨g, 0, rfl, h.lt, vs, fun i hi => by simpa using h.file i hi⟩⟩
theorem RowF.below {w w' : World} {g cap B : Nat} {fs : List FileL} {vs : Nat → Value} (h : RowF w g cap fs vs) (hb : Below B w w') (hB : w.heap.size ≤ B) : RowF w' g cap fs vs :=
  ⟨h.le, h.max, Nat.lt_of_lt_of_le h.lt hb.size, fun i hi => (h.file i hi).below hb hB, fun j => (hb.frozen (p := ⟨g, j, none⟩) (Nat.lt_of_lt_of_le h.lt hB)).trans (h.free j)⟩
theorem OwnD.rowF {w : World} {base g n cap : Nat} {fs : List FileL} {vs : List Value} (h : OwnD w base (.slice (some ⟨g, 0, none⟩) n cap) fs vs) : RowF w g cap fs (fun i => vs.getD i undef) ∧ n = fs.length := by
  rcases h.shape with ⟨e, _⟩ | ⟨g', cap', e, _, hlt, hc, hm⟩
  · cases e
  · injection e with e1 e2 e3
    injection e1 with e1
    injection e1 with e1
    subst e1 e2 e3
    exact ⟨⟨hc, hm, hlt, h.files rfl, h.frozen⟩, rfl⟩
theorem RowF.set {w : World} {g cap k r : Nat} {fs : List FileL} {vs : Nat → Value} {f : FileL} {v x : Value} {u : Value} (h : RowF w g cap fs vs) (hk : k < fs.length) (hp : w.cell? ⟨g, k * 3 + r, none⟩ = some u) (hu : ∀ n, u ≠ .int .u8 n) (hr : r < 3)
    (hf : FileC (w.setCell ⟨g, k * 3 + r, none⟩ x) g (k * 3) v f) : RowF (w.setCell ⟨g, k * 3 + r, none⟩ x) g cap (fs.set k f) (fun i => if i = k then v else vs i) := by
  refine ⟨by rw [List.length_set]; exact h.le, h.max, by rw [size_setCell]; exact h.lt, fun i hi => ?_, fun j => (World.frozen?_setCell _ _ _ _).trans (h.free j)⟩
  rw [List.length_set] at hi
  by_cases e : i = k
  · subst e
    rw [getD_set_eq hk, if_pos rfl]
    exact hf
  · rw [getD_set_ne e, if_neg e]
    exact fileC_other (h.file i hi) hp hu hr e
theorem RowF.setSynced {w : World} {g cap k : Nat} {fs : List FileL} {vs : Nat → Value} (h : RowF w g cap fs vs) (hk : k < fs.length) (s : Int) :
    RowF (w.setCell ⟨g, k * 3 + 2, none⟩ (.int .i64 s)) g cap (fs.set k { fs.getD k noF with synced := s }) vs := by
  have := h.set hk (h.file k hk).2.2.1 (fun n hh => by cases hh) (by omega) (fileC_synced (s := s) (h.file k hk))
  refine ⟨this.le, this.max, this.lt, fun i hi => ?_, this.free⟩
  have h2 := this.file i hi
  by_cases e : i = k
  · subst e; simpa using h2
  · simpa [e] using h2
theorem RowF.setName {w : World} {g cap k : Nat} {fs : List FileL} {vs : Nat → Value} (h : RowF w g cap fs vs) (hk : k < fs.length) (n : ByteArray) :
    RowF (w.setCell ⟨g, k * 3, none⟩ (.string n)) g cap (fs.set k { fs.getD k noF with name := n }) vs := by
  have := h.set (r := 0) hk (h.file k hk).1 (fun n hh => by cases hh) (by omega) (fileC_name (n := n) (h.file k hk))
  refine ⟨this.le, this.max, this.lt, fun i hi => ?_, this.free⟩
  have h2 := this.file i hi
  by_cases e : i = k
  · subst e; simpa using h2
  · simpa [e] using h2
theorem RowF.setData {w : World} {g cap k : Nat} {fs : List FileL} {vs : Nat → Value} {v' : Value} {l : List Int} (h : RowF w g cap fs vs) (hk : k < fs.length) (hr : Reads .u8 w v' l) :
    RowF (w.setCell ⟨g, k * 3 + 1, none⟩ v') g cap (fs.set k { fs.getD k noF with data := l }) (fun i => if i = k then v' else vs i) :=
  h.set hk (h.file k hk).2.1 (fun n hh => by obtain ⟨a, c, e, _⟩ := (h.file k hk).2.2.2; rw [e] at hh; cases hh) (by omega) (fileC_data (h.file k hk) hr)
/-- A disk of the call's own: none, or a row. -/
theorem OwnD.row_or {w : World} {base : Nat} {v : Value} {fs : List FileL} {vs : List Value} (h : OwnD w base v fs vs) :
    (v = .slice none 0 0 ∧ fs = []) ∨ ∃ g cap, v = .slice (some ⟨g, 0, none⟩) fs.length cap ∧ base ≤ g ∧ RowF w g cap fs (fun i => vs.getD i undef) := by
  rcases h.shape with h1 | ⟨g, cap, e, hg, _⟩
  · exact .inl h1
  · subst e
    exact .inr ⟨g, cap, rfl, hg, h.rowF.1⟩
end Go.Proofs.YtkgdenbabafeoaaGreatDoor

namespace Go.Proofs.YtkgdenbabafeoaaGreatDoor
set_option maxRecDepth 100000
open Go.ChangeShapes Go.WideShapes Go.ChangeAt Go.RowKit

/-- A disk behind a store into a block of one cell that held a slice. -/
theorem DiskR.setBox {w : World} {v y : Value} {fs : List FileL} {q n c : Nat} {a : Option Addr} {t : TypeId} (h : DiskR w v fs) (hb : w.heap[q]? = some (.cells #[.slice a n c] t (0, 0))) : DiskR (w.setCell ⟨q, 0, none⟩ y) v fs := by
  have hc : w.cell? ⟨q, 0, none⟩ = some (.slice a n c) := by rw [cell_of_row w _ _ _ _ _ hb]; rfl
  refine h.setSlice hc (fun hn b off cap e hq => ?_)
  have hq' : q = b := hq
  subst hq'
  obtain ⟨a', cap', rfl, _, _, _, hel⟩ := h
  injection e with e1 _ _
  subst e1
  obtain ⟨b', off', e', _, vs', hv'⟩ := hel hn
  injection e' with e'
  injection e' with e1 e2
  subst e1 e2
  have c2 := (hv' 0 hn).2.1
  rw [cell_of_row w _ _ _ _ _ hb] at c2
  simp at c2
theorem DiskR.drew {w : World} {v : Value} {fs : List FileL} (h : DiskR w v fs) : DiskR w.drew v fs := h.below (Below.refl w.heap.size w).drew (Nat.le_refl _)
/-- The block of a result's cell, behind all that a call has done since. -/
theorem two_block1 {w w' : World} {v : Value} {t : TypeId} {o : Obj} (h : Below (w.heap.size + 2) ((w.alloc o).alloc (.cells #[v] t)) w') : w'.heap[w.heap.size + 1]? = some (.cells #[v] t (0, 0)) := by
  rw [h.block (w.heap.size + 1) (Nat.lt_succ_self _)]
  have := heap_alloc_new (w.alloc o) (.cells #[v] t)
  simpa using this
theorem two_frozen1 {w w' : World} {v : Value} {t : TypeId} {o : Obj} (h : Below (w.heap.size + 2) ((w.alloc o).alloc (.cells #[v] t)) w') : w'.frozen? ⟨w.heap.size + 1, 0, none⟩ = false :=
  (h.frozen (p := ⟨w.heap.size + 1, 0, none⟩) (Nat.lt_succ_self _)).trans (frozen_second _ _ _ _)
theorem heap_third (w : World) (o1 o2 : Obj) (v : Value) (t : TypeId) : (((w.alloc o1).alloc o2).alloc (.cells #[v] t)).heap[w.heap.size + 2]? = some (.cells #[v] t (0, 0)) := by
  have := heap_alloc_new ((w.alloc o1).alloc o2) (.cells #[v] t)
  simpa using this
theorem below_three {w w' : World} {o1 o2 o3 : Obj} (h : Below (w.heap.size + 3) (((w.alloc o1).alloc o2).alloc o3) w') : Below w.heap.size w w' :=
  (((below_alloc w o1).alloc (by simp) o2).alloc (by simp; omega) o3).trans (h.mono (by omega))
theorem below_four {w w' : World} {o1 o2 o3 o4 : Obj} (h : Below (w.heap.size + 4) ((((w.alloc o1).alloc o2).alloc o3).alloc o4) w') : Below w.heap.size w w' :=
  ((((below_alloc w o1).alloc (by simp) o2).alloc (by simp; omega) o3).alloc (by simp; omega) o4).trans (h.mono (by omega))
theorem cell_mid (w : World) (o1 o3 : Obj) (v : Value) (t : TypeId) : (((w.alloc o1).alloc (.cells #[v] t)).alloc o3).cell? ⟨w.heap.size + 1, 0, none⟩ = some v :=
  ((below_alloc ((w.alloc o1).alloc (.cells #[v] t)) o3).cell (p := ⟨w.heap.size + 1, 0, none⟩) (by simp)).trans (cell_second w o1 v t)
theorem cell_mid2 (w : World) (o1 o3 o4 : Obj) (v : Value) (t : TypeId) : ((((w.alloc o1).alloc (.cells #[v] t)).alloc o3).alloc o4).cell? ⟨w.heap.size + 1, 0, none⟩ = some v :=
  ((below_alloc (((w.alloc o1).alloc (.cells #[v] t)).alloc o3) o4).cell (p := ⟨w.heap.size + 1, 0, none⟩) (by simp)).trans (cell_mid w o1 o3 v t)
theorem cell_mid3 (w : World) (o1 o2 o4 : Obj) (v : Value) (t : TypeId) : ((((w.alloc o1).alloc o2).alloc (.cells #[v] t)).alloc o4).cell? ⟨w.heap.size + 2, 0, none⟩ = some v :=
  ((below_alloc (((w.alloc o1).alloc o2).alloc (.cells #[v] t)) o4).cell (p := ⟨w.heap.size + 2, 0, none⟩) (by simp)).trans (cell_third w o1 o2 v t)
theorem below_up (w : World) (o1 o2 o3 o4 : Obj) : Below w.heap.size w ((((w.alloc o1).alloc o2).alloc o3).alloc o4) :=
  (((below_alloc w o1).alloc (by simp) o2).alloc (by simp; omega) o3).alloc (by simp; omega) o4
theorem diskR_three {w : World} {v : Value} {fs : List FileL} (h : DiskR w v fs) (o1 o2 o3 : Obj) : DiskR (((w.alloc o1).alloc o2).alloc o3) v fs :=
  ((h.below (below_alloc _ o1) (Nat.le_refl _)).below (below_alloc _ o2) (Nat.le_refl _)).below (below_alloc _ o3) (Nat.le_refl _)
theorem diskR_four {w : World} {v : Value} {fs : List FileL} (h : DiskR w v fs) (o1 o2 o3 o4 : Obj) : DiskR ((((w.alloc o1).alloc o2).alloc o3).alloc o4) v fs := (diskR_three h o1 o2 o3).below (below_alloc _ o4) (Nat.le_refl _)
theorem heap_fourth (w : World) (o1 o2 o3 : Obj) (v : Value) (t : TypeId) : ((((w.alloc o1).alloc o2).alloc o3).alloc (.cells #[v] t)).heap[w.heap.size + 3]? = some (.cells #[v] t (0, 0)) := by
  have := heap_alloc_new (((w.alloc o1).alloc o2).alloc o3) (.cells #[v] t)
  simpa using this

/-- What a file's numbers must be. -/
def GoodF (f : FileL) : Prop := (∀ x ∈ f.data, 0 ≤ x ∧ x ≤ 255) ∧ -9223372036854775808 ≤ f.synced ∧ f.synced ≤ 9223372036854775807 ∧ f.name.size ≤ maxLen ∧ f.data.length ≤ 140737488351232
theorem good_nil : Good [] := fun i hi => by simp at hi
theorem good_ch {fs : List FileL} {g : List FileL × Int} (_hg : Good fs) (h : Good g.1) : Good (chF fs g).1 := by
  unfold chF
  split
  · exact h
  · exact good_nil
theorem good_set {fs : List FileL} {k : Nat} {f : FileL} (hg : Good fs) (hf : k < fs.length → GoodF f) : Good (fs.set k f) := fun i hi => by
  rw [List.length_set] at hi
  by_cases e : i = k
  · subst e; rw [getD_set_eq hi]; exact hf hi
  · rw [getD_set_ne e]; exact hg i hi
end Go.Proofs.YtkgdenbabafeoaaGreatDoor

namespace Go.Proofs.YtkgdenbabafeoaaGreatDoor
set_option maxRecDepth 100000
open Go.ChangeShapes Go.WideShapes Go.ChangeAt Go.RowKit
attribute [local go_sem ↓] exec_append

theorem Reads.setCells {w : World} {v : Value} {xs : List Int} {b o : Nat} {vs : List Value} (h : Reads .u8 w v xs) (hc : ∀ j, j < vs.length → ∃ u, w.cell? ⟨b, o + j, none⟩ = some u ∧ ∀ n, u ≠ .int .u8 n) : Reads .u8 (w.setCells b o vs) v xs := by
  obtain ⟨a, cap, rfl, h1, h2, h3, hcell⟩ := h
  refine ⟨a, cap, rfl, h1, h2, h3, fun x hx i hi => ?_⟩
  have h4 := hcell x hx i hi
  rw [World.cell?_setCells_out b vs o w (x.add i) (fun e1 e2 => ?_), h4]
  rcases Nat.lt_or_ge (x.add i).off o with hlt | hge
  · exact .inl hlt
  · rcases Nat.lt_or_ge (x.add i).off (o + vs.length) with hlt2 | hge2
    · obtain ⟨u, hu, hne⟩ := hc ((x.add i).off - o) (by omega)
      have ea : (⟨b, o + ((x.add i).off - o), none⟩ : Addr) = x.add i := by
        rw [show o + ((x.add i).off - o) = (x.add i).off by omega, ← e1, ← e2]
      rw [ea, h4] at hu
      injection hu with hu
      exact absurd hu.symm (hne _)
    · exact .inr hge2
theorem below_setCells (b : Nat) {B : Nat} (hB : B ≤ b) : ∀ (vs : List Value) (o : Nat) (a w : World), Below B a w → Below B a (w.setCells b o vs)
  | [], _, _, _, h => h
  | v :: r, o, a, _, h => below_setCells b hB r (o + 1) a _ (h.setCell (p := ⟨b, o, none⟩) hB v)
theorem size_setCells (b : Nat) : ∀ (vs : List Value) (o : Nat) (w : World), (w.setCells b o vs).heap.size = w.heap.size
  | [], _, _ => rfl
  | v :: r, o, w => by rw [World.setCells, size_setCells b r, size_setCell]

theorem getD_erase {fs : List FileL} {k i : Nat} : (fs.eraseIdx k).getD i noF = if i < k then fs.getD i noF else fs.getD (i + 1) noF := by
  rw [List.getD_eq_getElem?_getD, List.getElem?_eraseIdx]
  split <;> rw [List.getD_eq_getElem?_getD]

/-- A cell of a row of files. -/
theorem RowF.cell {w : World} {g cap : Nat} {fs : List FileL} {vs : Nat → Value} (h : RowF w g cap fs vs) {j : Nat} (hj : j < fs.length * 3) : ∃ u, w.cell? ⟨g, j, none⟩ = some u ∧ (∀ n, u ≠ .int .u8 n) ∧ u.oneCell' = true := by
  obtain ⟨i, r, hr, rfl⟩ : ∃ i r, r < 3 ∧ j = i * 3 + r := ⟨j / 3, j % 3, by omega, by omega⟩
  obtain ⟨c1, c2, c3, a, c, e, _⟩ := h.file i (by omega)
  rcases (show r = 0 ∨ r = 1 ∨ r = 2 by omega) with rfl | rfl | rfl
  · exact ⟨_, c1, fun n hh => (by cases hh), rfl⟩
  · exact ⟨_, c2, fun n hh => (by rw [e] at hh; cases hh), by rw [e]; rfl⟩
  · exact ⟨_, c3, fun n hh => (by cases hh), rfl⟩

/-- The cells of the files from place u on. -/
def tailCells (w : World) (g u n : Nat) : List Value := (List.range (n - u)).map fun j => (w.cell? ⟨g, u + j, none⟩).getD undef
theorem tail_len (w : World) (g u n : Nat) : (tailCells w g u n).length = n - u := by simp [tailCells]
theorem tail_get {w : World} {g u n j : Nat} {x : Value} (h : (tailCells w g u n)[j]? = some x) : j < n - u ∧ x = (w.cell? ⟨g, u + j, none⟩).getD undef := by
  have hj : j < n - u := by
    have := (List.getElem?_eq_some_iff.1 h).1
    rwa [tail_len] at this
  refine ⟨hj, ?_⟩
  rw [tailCells, List.getElem?_map, List.getElem?_range hj] at h
  simpa using h.symm
def zeroF : List Value := [.string ByteArray.empty, .slice none 0 0, .int .i64 0]

/-- The row without one file: its cells moved, the last ones cleared. -/
theorem RowF.erase {w : World} {g cap k : Nat} {fs : List FileL} {vs : Nat → Value} (h : RowF w g cap fs vs) (hk : k < fs.length) :
    RowF ((w.setCells g (k * 3) (tailCells w g ((k + 1) * 3) (fs.length * 3))).setCells g ((fs.length - 1) * 3) zeroF) g cap (fs.eraseIdx k) (fun i => if i < k then vs i else vs (i + 1)) := by
  have hl : (fs.eraseIdx k).length = fs.length - 1 := List.length_eraseIdx_of_lt hk
  have hc1 : ∀ j, j < (tailCells w g ((k + 1) * 3) (fs.length * 3)).length → ∃ u, w.cell? ⟨g, k * 3 + j, none⟩ = some u ∧ ∀ n, u ≠ .int .u8 n := fun j hj => by
    rw [tail_len] at hj
    obtain ⟨u, h1, h2, _⟩ := h.cell (j := k * 3 + j) (by omega)
    exact ⟨u, h1, h2⟩
  -- the cells behind the move
  have hin : ∀ j, (k + 1) * 3 + j < fs.length * 3 → (w.setCells g (k * 3) (tailCells w g ((k + 1) * 3) (fs.length * 3))).cell? ⟨g, k * 3 + j, none⟩ = w.cell? ⟨g, (k + 1) * 3 + j, none⟩ := fun j hj => by
    have hjl : j < (tailCells w g ((k + 1) * 3) (fs.length * 3)).length := by rw [tail_len]; omega
    rw [World.cell?_setCells_in g _ (k * 3) w (fun i hi => by obtain ⟨u, hu, _⟩ := hc1 i hi; rw [hu]; rfl) j hjl]
    obtain ⟨_, e⟩ := tail_get (List.getElem?_eq_getElem hjl)
    obtain ⟨u, hu, _⟩ := h.cell (j := (k + 1) * 3 + j) hj
    rw [e, hu]; rfl
  have hout : ∀ j, (j < k * 3 ∨ (fs.length - 1) * 3 ≤ j) → (w.setCells g (k * 3) (tailCells w g ((k + 1) * 3) (fs.length * 3))).cell? ⟨g, j, none⟩ = w.cell? ⟨g, j, none⟩ := fun j hj =>
    World.cell?_setCells_out g _ _ w ⟨g, j, none⟩ (fun _ _ => by rw [tail_len]; show j < k * 3 ∨ k * 3 + (fs.length * 3 - (k + 1) * 3) ≤ j; omega)
  have hc2 : ∀ j, j < zeroF.length → ∃ u, (w.setCells g (k * 3) (tailCells w g ((k + 1) * 3) (fs.length * 3))).cell? ⟨g, (fs.length - 1) * 3 + j, none⟩ = some u ∧ ∀ n, u ≠ .int .u8 n := fun j hj => by
    have hj3 : j < 3 := hj
    rw [hout _ (.inr (by omega))]
    obtain ⟨u, h1, h2, _⟩ := h.cell (j := (fs.length - 1) * 3 + j) (by omega)
    exact ⟨u, h1, h2⟩
  have hfar : ∀ j, j < (fs.length - 1) * 3 → ((w.setCells g (k * 3) (tailCells w g ((k + 1) * 3) (fs.length * 3))).setCells g ((fs.length - 1) * 3) zeroF).cell? ⟨g, j, none⟩ = (w.setCells g (k * 3) (tailCells w g ((k + 1) * 3) (fs.length * 3))).cell? ⟨g, j, none⟩ := fun j hj =>
    World.cell?_setCells_out g _ _ _ ⟨g, j, none⟩ (fun _ _ => .inl hj)
  refine ⟨by rw [hl]; have := h.le; omega, h.max, by rw [size_setCells, size_setCells]; exact h.lt, fun i hi => ?_, fun j => by rw [World.frozen?_setCells, World.frozen?_setCells]; exact h.free j⟩
  rw [hl] at hi
  rw [getD_erase]
  by_cases hlt : i < k
  · rw [if_pos hlt, if_pos hlt]
    obtain ⟨c1, c2, c3, c4⟩ := h.file i (by omega)
    exact ⟨by rw [hfar _ (by omega), hout _ (.inl (by omega))]; exact c1, by rw [hfar _ (by omega), hout _ (.inl (by omega))]; exact c2, by rw [hfar _ (by omega), hout _ (.inl (by omega))]; exact c3, (c4.setCells hc1).setCells hc2⟩
  · rw [if_neg hlt, if_neg hlt]
    obtain ⟨c1, c2, c3, c4⟩ := h.file (i + 1) (by omega)
    refine ⟨?_, ?_, ?_, (c4.setCells hc1).setCells hc2⟩
    · rw [hfar _ (by omega), show i * 3 = k * 3 + (i - k) * 3 by omega, hin _ (by omega), show (k + 1) * 3 + (i - k) * 3 = (i + 1) * 3 by omega]; exact c1
    · rw [hfar _ (by omega), show i * 3 + 1 = k * 3 + ((i - k) * 3 + 1) by omega, hin _ (by omega), show (k + 1) * 3 + ((i - k) * 3 + 1) = (i + 1) * 3 + 1 by omega]; exact c2
    · rw [hfar _ (by omega), show i * 3 + 2 = k * 3 + ((i - k) * 3 + 2) by omega, hin _ (by omega), show (k + 1) * 3 + ((i - k) * 3 + 2) = (i + 1) * 3 + 2 by omega]; exact c3

theorem run_clearF {w : World} {g o c : Nat} (hc : ∀ j, j < 3 → (w.cell? ⟨g, o + j, none⟩).isSome = true) (hf : ∀ j, w.frozen? ⟨g, j, none⟩ = false) (ty : TypeId) :
    (Builtin.clear_ #[37] ty #[.slice (some ⟨g, o, none⟩) 1 c]).run Tryz.prog w = .ok (.tuple #[]) (w.setCells g o zeroF) := by
  have hst := run_storeCells_cells (P := Tryz.prog) g o zeroF 0 w (fun j hj => by rw [Nat.add_zero]; exact hc j hj) (fun j _ => hf _) (fun v hv => by
      simp [zeroF] at hv
      rcases hv with rfl | rfl | rfl <;> rfl)
  simp only [Nat.add_zero] at hst
  have hzc : (Builtin.zeroCells (Value.agg #[.string ⟨#[]⟩, .slice none 0 0, .int .i64 0]).cells 1).toList = zeroF := by kernel_rfl
  simp [Builtin.clear_, run_underlying Tryz.underlying37, hzc, hst]

set_option maxHeartbeats 1000000 in
set_option maxRecDepth 100000 in
theorem delete_m (g cap k m : Nat) (fs : List FileL) (vs : Nat → Value) (w : World) (h : RowF w g cap fs vs) (hlen : fs.length = m + 1) (hk : k < m + 1) :
    Calls Tryz.prog 83 #[.slice (some ⟨g, 0, none⟩) (m + 1) cap, .int .i64 k, .int .i64 ((k : Int) + 1)] w fun e w' => ∃ vs', e = .returned (.slice (some ⟨g, 0, none⟩) m cap) ∧ RowF w' g cap (fs.eraseIdx k) vs' ∧ Below g w w' := by
  obtain ⟨i0, hi, hz0, hz1, hz2⟩ := info_parts Tryz.infoF
  have hD : RowF w.drew g cap fs vs := h.below (Below.refl w.heap.size w).drew (Nat.le_refl _)
  have HR : Hid (RowF w.drew g cap fs vs) := hD
  have HE : Hid (RowF ((w.drew.setCells g (k * 3) (tailCells w.drew g ((k + 1) * 3) (fs.length * 3))).setCells g ((fs.length - 1) * 3) zeroF) g cap (fs.eraseIdx k) (fun i => if i < k then vs i else vs (i + 1))) := hD.erase (by omega)
  have hle : m + 1 ≤ cap := by rw [← hlen]; exact h.le
  have hm := h.max
  unfold maxLen at hm
  have HLEN : Hid (fs.length = m + 1) := hlen
  rw [HLEN.out] at HE
  have hrun : ∀ ad l c, l = m + 1 - (k + 1) → c = cap - (k + 1) → (∀ j, j < (m + 1) * 3 - (k + 1) * 3 → ad.add j = (⟨g, (k + 1) * 3 + j, none⟩ : Addr)) → (Builtin.append_ #[37, 37] 37 #[.slice (some ⟨g, 0, none⟩) k cap, .slice (some ad) l c]).run Tryz.prog w.drew = .ok (.slice (some ⟨g, 0, none⟩) m cap) (w.drew.setCells g (k * 3) (tailCells w.drew g ((k + 1) * 3) ((m + 1) * 3))) := fun ad l c hl hc had => by
    subst hl hc
    have hap := run_append_room_cells (P := Tryz.prog) w.drew 37 37 102 i0 Tryz.underlying37 hi g 0 k cap ad (m + 1 - (k + 1)) (cap - (k + 1)) (tailCells w.drew g ((k + 1) * 3) ((m + 1) * 3)) (by rw [tail_len, hz1]; omega) (fun j u hu => by
        obtain ⟨hj, rfl⟩ := tail_get hu
        obtain ⟨u, hu2, _⟩ := HR.out.cell (j := (k + 1) * 3 + j) (by rw [HLEN.out]; omega)
        rw [had j hj, hu2]; rfl) (fun u hu => by
        obtain ⟨j, hj⟩ := List.getElem?_of_mem hu
        obtain ⟨hj2, rfl⟩ := tail_get hj
        obtain ⟨u, hu2, _, h1⟩ := HR.out.cell (j := (k + 1) * 3 + j) (by rw [HLEN.out]; omega)
        rw [hu2]; exact h1) (by omega) (fun j hj => by
        rw [tail_len] at hj
        obtain ⟨u, hu2, _⟩ := HR.out.cell (j := 0 + k * i0.size + j) (by rw [hz1, HLEN.out]; omega)
        rw [hu2]; rfl) (fun j _ => HR.out.free _)
    rw [hz1, Nat.zero_add, show k + (m + 1 - (k + 1)) = m by omega] at hap
    exact hap
  have hB : Hid (Below g w ((w.drew.setCells g (k * 3) (tailCells w.drew g ((k + 1) * 3) ((m + 1) * 3))).setCells g (m * 3) zeroF)) :=
    below_setCells g (Nat.le_refl _) _ _ _ _ (below_setCells g (Nat.le_refl _) _ _ _ _ (Below.refl g w).drew)
  have hclr : ∀ (c : Nat) (ty : TypeId), (Builtin.clear_ #[37] ty #[.slice (some ⟨g, m * 3, none⟩) 1 c]).run Tryz.prog (w.drew.setCells g (k * 3) (tailCells w.drew g ((k + 1) * 3) ((m + 1) * 3))) = .ok (.tuple #[]) ((w.drew.setCells g (k * 3) (tailCells w.drew g ((k + 1) * 3) ((m + 1) * 3))).setCells g (m * 3) zeroF) := fun c ty =>
    run_clearF (fun j hj => by
      rw [World.cell?_setCells_out g _ _ w.drew ⟨g, m * 3 + j, none⟩ (fun _ _ => by rw [tail_len]; show m * 3 + j < k * 3 ∨ k * 3 + ((m + 1) * 3 - (k + 1) * 3) ≤ m * 3 + j; omega)]
      obtain ⟨u, hu, _⟩ := HR.out.cell (j := m * 3 + j) (by rw [HLEN.out]; omega)
      rw [hu]; rfl) (fun j => by rw [World.frozen?_setCells]; exact HR.out.free j) ty
  clear h hlen hD
  generalize tailCells w.drew g ((k + 1) * 3) ((m + 1) * 3) = news at *
  have hne : ((k : Int) == (k : Int) + 1) = false := by rw [beq_eq_false_iff_ne]; omega
  have q0 : (0 : Int) ≤ (k : Int) := by omega
  have q1 : (k : Int) + 1 ≤ (m : Int) + 1 := by omega
  have q2 : (m : Int) + 1 ≤ (cap : Int) := by omega
  have q3 : (0 : Int) ≤ (m : Int) := by omega
  have q4 : (m : Int) < (cap : Int) := by omega
  by_cases hcap : k + 1 = cap
  · have hkm : k = m := by omega
    subst hkm
    obtain ⟨a1, a2, a3⟩ := appOk_of (hrun ⟨g, 0, none⟩ 0 0 (by omega) (by omega) (fun j hj => by omega))
    clear hrun
    subst hcap
    go_enter Tryz.func83, Tryz.ntmps83
    go_wp2_with fail
    go_region
    go_wp2_with fail
    go_ret
    exact ⟨_, rfl, by have := HE.out; simpa using this, hB.out⟩
  · have hcap' : ((k : Int) + 1) < (cap : Int) := by omega
    obtain ⟨a1, a2, a3⟩ := appOk_of (hrun ⟨g, (k + 1) * 3, none⟩ (m - k) (cap - (k + 1)) (by omega) rfl (fun j hj => by unfold Addr.add; split <;> simp_all))
    clear hrun
    go_enter Tryz.func83, Tryz.ntmps83
    go_wp2_with fail
    go_region
    go_wp2_with fail
    go_ret
    exact ⟨_, rfl, by have := HE.out; simpa using this, hB.out⟩

theorem delete_any (g cap k : Nat) (fs : List FileL) (vs : Nat → Value) (w : World) (h : RowF w g cap fs vs) (hk : k < fs.length) :
    Calls Tryz.prog 83 #[.slice (some ⟨g, 0, none⟩) fs.length cap, .int .i64 k, .int .i64 ((k : Int) + 1)] w fun e w' => ∃ vs', e = .returned (.slice (some ⟨g, 0, none⟩) (fs.eraseIdx k).length cap) ∧ RowF w' g cap (fs.eraseIdx k) vs' ∧ Below g w w' := by
  obtain ⟨m, hm⟩ : ∃ m, fs.length = m + 1 := ⟨fs.length - 1, by omega⟩
  have e : (fs.eraseIdx k).length = m := by rw [List.length_eraseIdx_of_lt hk]; omega
  rw [e, hm]
  exact delete_m g cap k m fs vs w h hm (by omega)

set_option maxHeartbeats 400000 in
theorem drop_any (p g cap k : Nat) (fs : List FileL) (vs : Nat → Value) (w : World) (hc : w.cell? ⟨p, 0, none⟩ = some (.slice (some ⟨g, 0, none⟩) fs.length cap)) (hf : w.frozen? ⟨p, 0, none⟩ = false) (hpg : p < g) (h : RowF w g cap fs vs) (hk : k < fs.length) :
    Calls Tryz.prog 70 #[.pointer (some ⟨p, 0, none⟩), .int .i64 k] w fun e w' => ∃ v', e = .returned (.tuple #[]) ∧ w'.cell? ⟨p, 0, none⟩ = some v' ∧ DiskR w' v' (fs.eraseIdx k) ∧ Below p w w' := by
  have HR : Hid (RowF w g cap fs vs) := h
  have hle := h.le
  have hm := h.max
  unfold maxLen at hm
  clear h
  go_enter Tryz.func70, Tryz.ntmps70
  go_wp2_with fail
  refine (delete_any g cap k fs vs _ HR.out hk).mono ?_
  rintro e w1 ⟨vs', rfl, hr1, hb1⟩
  have c1 : w1.cell? ⟨p, 0, none⟩ = some (.slice (some ⟨g, 0, none⟩) fs.length cap) := (hb1.cell (p := ⟨p, 0, none⟩) hpg).trans hc
  have f1 : w1.frozen? ⟨p, 0, none⟩ = false := (hb1.frozen (p := ⟨p, 0, none⟩) hpg).trans hf
  have D1 : Hid (DiskR (w1.setCell ⟨p, 0, none⟩ (.slice (some ⟨g, 0, none⟩) (fs.eraseIdx k).length cap)) (.slice (some ⟨g, 0, none⟩) (fs.eraseIdx k).length cap) (fs.eraseIdx k)) := by
    refine hr1.reads.setSlice c1 (fun _ b off cap' e hb => ?_)
    injection e with e1 _ _
    injection e1 with e1
    injection e1 with e1 _
    have hb' : p = b := hb
    omega
  have B1 : Hid (Below p w w1) := hb1.mono (Nat.le_of_lt hpg)
  clear hb1 hr1
  generalize hE : (fs.eraseIdx k) = fs' at *
  have HE : Hid (fs.eraseIdx k = fs') := hE
  clear hE
  go_wp2_with fail
  go_end0
  exact ⟨_, rfl, World.cell?_setCell_same _ _ _ c1, by rw [HE.out]; exact D1.out, B1.out.setCell (p := ⟨p, 0, none⟩) (show p ≤ p from Nat.le_refl _) _⟩
theorem good_erase {fs : List FileL} {k : Nat} (hg : Good fs) (hk : k < fs.length) : Good (fs.eraseIdx k) := fun i hi => by
  rw [List.length_eraseIdx_of_lt hk] at hi
  rw [getD_erase]
  split
  · exact hg i (by omega)
  · exact hg (i + 1) (by omega)
end Go.Proofs.YtkgdenbabafeoaaGreatDoor

namespace Go.Proofs.YtkgdenbabafeoaaGreatDoor
set_option maxRecDepth 100000
open Go.ChangeShapes Go.WideShapes Go.ChangeAt Go.RowKit

/-- P3.7, of a disk that may be. -/
def removeF (fs : List FileL) (n : ByteArray) : List FileL × Int :=
  if atF fs n < 0 then ([], 7) else (fs.eraseIdx (atF fs n).toNat, 0)
theorem removeF_none {fs : List FileL} {n : ByteArray} (h : atF fs n = -1) : removeF fs n = ([], 7) := by simp [removeF, h]
theorem removeF_some {fs : List FileL} {n : ByteArray} {k : Nat} (h : atF fs n = k) : removeF fs n = (fs.eraseIdx k, 0) := by
  simp only [removeF, h]
  rw [if_neg (by omega)]; simp
theorem removeF_err {fs : List FileL} {n : ByteArray} : (removeF fs n).2 ≠ 0 → (removeF fs n).1 = [] := by
  rcases atF_cases fs n with ⟨k, hk, e, _, _⟩ | ⟨e, _⟩
  · rw [removeF_some e]; simp
  · rw [removeF_none e]; simp
theorem good_remove {fs : List FileL} {n : ByteArray} (hg : Good fs) : Good (removeF fs n).1 := by
  rcases atF_cases fs n with ⟨k, hk, e, _, _⟩ | ⟨e, _⟩
  · rw [removeF_some e]; exact good_erase hg hk
  · rw [removeF_none e]; exact good_nil

set_option maxHeartbeats 1000000 in
set_option maxRecDepth 100000 in
theorem remove_any (p B : Nat) (v3 : Value) (fs : List FileL) (vs : List Value) (n : ByteArray) (w : World) (hpB : p < B) (_hB : B ≤ w.heap.size) (hc : w.cell? ⟨p, 0, none⟩ = some v3) (hf : w.frozen? ⟨p, 0, none⟩ = false) (ho : OwnD w B v3 fs vs) (_hmay : mayB fs = true) (_hn : n.size ≤ maxLen) :
    Calls Tryz.prog 49 #[.pointer (some ⟨p, 0, none⟩), .string n] w fun e w4 => ∃ v4, e = .returned (.int .i64 (removeF fs n).2) ∧ w4.cell? ⟨p, 0, none⟩ = some v4 ∧ ((removeF fs n).2 = 0 → DiskR w4 v4 (removeF fs n).1) ∧ Below p w w4 := by
  have lp : p < w.heap.size := World.block_lt_of_cell? w _ hc
  have HO : Hid (OwnD w B v3 fs vs) := ho
  clear ho
  go_enter Tryz.func49, Tryz.ntmps49
  go_wp2_with fail
  refine (find_any p v3 fs n _ hc HO.out.reads).mono ?_
  rintro e w1 ⟨rfl, hb1⟩
  have O1 : Hid (OwnD w1 B v3 fs vs) := HO.out.below hb1 (Nat.le_refl _)
  have c1 : w1.cell? ⟨p, 0, none⟩ = some v3 := (hb1.cell (p := ⟨p, 0, none⟩) lp).trans hc
  have f1 : w1.frozen? ⟨p, 0, none⟩ = false := (hb1.frozen (p := ⟨p, 0, none⟩) lp).trans hf
  have B1 : Hid (Below p w w1) := hb1.mono (Nat.le_of_lt lp)
  clear hb1
  rcases atF_cases fs n with ⟨k, hk, e, _, _⟩ | ⟨e, _⟩
  · have HF : Hid (removeF fs n = (fs.eraseIdx k, 0)) := removeF_some e
    rw [e]
    clear e
    rcases O1.out.row_or with ⟨_, rfl⟩ | ⟨g, cap, rfl, hg, hrow⟩
    · simp at hk
    have HR : Hid (RowF w1 g cap fs (fun i => vs.getD i undef)) := hrow
    clear hrow
    go_wp2_with fail
    refine (drop_any p g cap k fs _ _ c1 f1 (by omega) HR.out hk).mono ?_
    rintro e w2 ⟨v2, rfl, hc2, hd2, hb2⟩
    have D2 : Hid (DiskR w2 v2 (fs.eraseIdx k)) := hd2
    clear hd2
    go_wp2_with fail
    go_ret
    exact ⟨v2, by rw [HF.out]; rfl, hc2, fun _ => by rw [HF.out]; exact D2.out, B1.out.trans hb2⟩
  · have HF : Hid (removeF fs n = ([], 7)) := removeF_none e
    rw [e]
    clear e
    go_wp2_with fail
    go_ret
    exact ⟨v3, by rw [HF.out]; rfl, c1, fun h => by rw [HF.out] at h; simp at h, B1.out⟩

set_option maxHeartbeats 400000 in
theorem remove1_any (p B q1 : Nat) (v3 : Value) (fs : List FileL) (vs : List Value) (n1 : ByteArray) (w : World) (hpB : p < B) (hB : B ≤ w.heap.size) (hq1 : w.cell? ⟨q1, 0, none⟩ = some (.string n1)) (hc : w.cell? ⟨p, 0, none⟩ = some v3) (hf : w.frozen? ⟨p, 0, none⟩ = false) (ho : OwnD w B v3 fs vs) (hmay : mayB fs = true) (hn1 : n1.size ≤ maxLen) :
    Calls Tryz.prog 48 #[.pointer (some ⟨p, 0, none⟩), .pointer (some ⟨q1, 0, none⟩)] w fun e w4 => ∃ v4, e = .returned (.int .i64 (removeF fs n1).2) ∧ w4.cell? ⟨p, 0, none⟩ = some v4 ∧ ((removeF fs n1).2 = 0 → DiskR w4 v4 (removeF fs n1).1) ∧ Below p w w4 := by
  have HO : Hid (OwnD w B v3 fs vs) := ho
  have HMAY : Hid (mayB fs = true) := hmay
  clear ho hmay
  go_enter Tryz.func48, Tryz.ntmps48
  go_wp2_with fail
  refine (remove_any p B v3 fs vs n1 _ hpB hB hc hf HO.out HMAY.out hn1).mono ?_
  rintro e w1 ⟨v4, rfl, h1, h2, h3⟩
  have H2 : Hid ((removeF fs n1).2 = 0 → DiskR w1 v4 (removeF fs n1).1) := h2
  clear h2
  go_wp2_with fail
  go_ret
  exact ⟨v4, rfl, h1, H2.out, h3⟩

theorem enter_remove (args : Array Value) (w : World) : (callFunc 48 args).run Tryz.prog w = .ok (.enter 48 args) w := by go_simp

set_option maxHeartbeats 400000 in
theorem diskRemove_any (v : Value) (fs : List FileL) (n1 : ByteArray) (w : World) (h : DiskR w v fs) (hg : Good fs) (hn1 : n1.size ≤ maxLen) :
    Calls Tryz.prog 26 #[.agg #[v], .string n1] w fun e w' => ∃ v', e = .returned (.tuple #[.agg #[v'], .int .i64 (chF fs (removeF fs n1)).2]) ∧ DiskR w' v' (chF fs (removeF fs n1)).1 ∧ Below w.heap.size w w' := by
  have hmf : ∀ (fn : Fn) (first cap : Array Value) (w : World), (Instr.makeFunc fn first cap).run Tryz.prog w = .ok (.func fn first cap) w := fun _ _ _ _ => rfl
  have HG : Hid (Good fs) := hg
  have HD : Hid (DiskR w v fs) := h
  obtain ⟨a, cap, rfl, _, _, _, _⟩ := h
  clear hg
  go_enter Tryz.func26, Tryz.ntmps26
  go_wp2_with fail
  refine (changed_one _ fs (removeF fs n1) 48 (.pointer (some ⟨w.heap.size + 1, 0, none⟩)) _ ?_ HG.out removeF_err enter_remove ?_).mono ?_
  · exact diskR_three HD.out _ _ _
  · intro p B w3 v3 vs h1 h2 h3 h4 h5 h6 h7 h8
    refine remove1_any p B (w.heap.size + 1) v3 fs vs n1 w3 h2 h3 ?_ h4 h5 h6 h8 hn1
    exact (h7.cell (p := ⟨w.heap.size + 1, 0, none⟩) (by simp)).trans (cell_mid _ _ _ _ _)
  rintro e w1 ⟨v1, rfl, hd1, hb1⟩
  have hb1' : Below (w.heap.size + 3) (((w.alloc (.cells #[.slice a fs.length cap] 39)).alloc (.cells #[.string n1] 9)).alloc (.cells #[.slice none 0 0] 39)) w1 := by simpa using hb1
  have hblk : w1.heap[w.heap.size + 2]? = some (.cells #[.slice none 0 0] 39 (0, 0)) := (hb1'.block _ (Nat.lt_succ_self _)).trans (heap_third _ _ _ _ _)
  have t1 : w1.cell? ⟨w.heap.size + 2, 0, none⟩ = some (.slice none 0 0) := by rw [cell_of_row w1 _ _ _ _ _ hblk]; rfl
  have t2 : w1.frozen? ⟨w.heap.size + 2, 0, none⟩ = false := by simp only [World.frozen?, hblk]; simp
  have B1 : Hid (Below w.heap.size w w1) := below_three hb1'
  have D2 : Hid (∀ y, DiskR (w1.setCell ⟨w.heap.size + 2, 0, none⟩ y) v1 (chF fs (removeF fs n1)).1) := fun y => hd1.setBox hblk
  obtain ⟨a1, c1, rfl, _, _, _, _⟩ := hd1
  clear hb1 hb1' hblk
  generalize hq : chF fs (removeF fs n1) = q at *
  have HQ : Hid (chF fs (removeF fs n1) = q) := hq
  clear hq
  go_wp2_with fail
  exact bodyPost_ret (v := .tuple #[.agg #[.slice a1 q.1.length c1], .int .i64 q.2]) (by simp [results, Tryz.results26, go_sem, t1]) rfl ⟨_, by rw [HQ.out], by rw [HQ.out]; exact D2.out _, B1.out.setCell (show w.heap.size ≤ w.heap.size + 2 by omega) _⟩
end Go.Proofs.YtkgdenbabafeoaaGreatDoor

namespace Go.Proofs.YtkgdenbabafeoaaGreatDoor
set_option maxRecDepth 100000
open Go.ChangeShapes Go.WideShapes Go.ChangeAt Go.RowKit

/-- The files with these bytes behind the data of file k, if there is room. -/
def putF (fs : List FileL) (k : Nat) (l : List Int) : List FileL × Int :=
  if 100000 < (fs.getD k noF).data.length + l.length then ([], 10) else (fs.set k { fs.getD k noF with data := (fs.getD k noF).data ++ l }, 0)
/-- P3.2, of a disk that may be. -/
def appendF (fs : List FileL) (n : ByteArray) (l : List Int) : List FileL × Int :=
  if nmB n = true then if atF fs n < 0 then (if fs.length = 40 then ([], 10) else putF (fs ++ [⟨n, [], 0⟩]) fs.length l) else putF fs (atF fs n).toNat l else ([], 1)
theorem appendF_size {fs : List FileL} {n : ByteArray} {l : List Int} (h : nmB n = false) : appendF fs n l = ([], 1) := by simp [appendF, h]
theorem appendF_full {fs : List FileL} {n : ByteArray} {l : List Int} (h : nmB n = true) (h1 : atF fs n = -1) (h2 : fs.length = 40) : appendF fs n l = ([], 10) := by simp [appendF, h, h1, h2]
theorem appendF_new {fs : List FileL} {n : ByteArray} {l : List Int} (h : nmB n = true) (h1 : atF fs n = -1) (h2 : fs.length ≠ 40) : appendF fs n l = putF (fs ++ [⟨n, [], 0⟩]) fs.length l := by simp [appendF, h, h1, h2]
theorem appendF_some {fs : List FileL} {n : ByteArray} {l : List Int} {k : Nat} (h : nmB n = true) (h1 : atF fs n = k) : appendF fs n l = putF fs k l := by
  simp only [appendF, h, h1, if_true]
  rw [if_neg (by omega)]; simp
theorem putF_over {fs : List FileL} {k : Nat} {l : List Int} (h : 100000 < (fs.getD k noF).data.length + l.length) : putF fs k l = ([], 10) := by simp only [putF, if_pos h]
theorem putF_ok {fs : List FileL} {k : Nat} {l : List Int} (h : ¬ 100000 < (fs.getD k noF).data.length + l.length) : putF fs k l = (fs.set k { fs.getD k noF with data := (fs.getD k noF).data ++ l }, 0) := by simp only [putF, if_neg h]
theorem putF_err {fs : List FileL} {k : Nat} {l : List Int} : (putF fs k l).2 ≠ 0 → (putF fs k l).1 = [] := by
  unfold putF; split <;> simp
theorem appendF_err {fs : List FileL} {n : ByteArray} {l : List Int} : (appendF fs n l).2 ≠ 0 → (appendF fs n l).1 = [] := by
  cases h0 : nmB n with
  | false => rw [appendF_size h0]; simp
  | true =>
    rcases atF_cases fs n with ⟨k, hk, e, _, _⟩ | ⟨e, _⟩
    · rw [appendF_some h0 e]; exact putF_err
    · by_cases h2 : fs.length = 40
      · rw [appendF_full h0 e h2]; simp
      · rw [appendF_new h0 e h2]; exact putF_err
theorem good_put {fs : List FileL} {k : Nat} {l : List Int} (hg : Good fs) (hl : ∀ x ∈ l, 0 ≤ x ∧ x ≤ 255) : Good (putF fs k l).1 := by
  by_cases h : 100000 < (fs.getD k noF).data.length + l.length
  · rw [putF_over h]; exact good_nil
  · rw [putF_ok h]
    refine good_set hg (fun hk => ?_)
    obtain ⟨h1, h2, h3, h4, h5⟩ := hg k hk
    refine ⟨fun x hx => ?_, h2, h3, h4, ?_⟩
    · rcases List.mem_append.1 hx with h9 | h9
      · exact h1 x h9
      · exact hl x h9
    · show ((fs.getD k noF).data ++ l).length ≤ _
      rw [List.length_append]; omega
theorem good_snoc {fs : List FileL} {f : FileL} (hg : Good fs) (hf : GoodF f) : Good (fs ++ [f]) := fun i hi => by
  by_cases hlt : i < fs.length
  · rw [getD_app_left hlt]; exact hg i hlt
  · have e : i = fs.length := by simp at hi; omega
    subst e
    rw [getD_app_last]; exact hf
theorem good_append {fs : List FileL} {n : ByteArray} {l : List Int} (hg : Good fs) (hn : n.size ≤ maxLen) (hl : ∀ x ∈ l, 0 ≤ x ∧ x ≤ 255) : Good (appendF fs n l).1 := by
  cases h0 : nmB n with
  | false => rw [appendF_size h0]; exact good_nil
  | true =>
    rcases atF_cases fs n with ⟨k, hk, e, _, _⟩ | ⟨e, _⟩
    · rw [appendF_some h0 e]; exact good_put hg hl
    · by_cases h2 : fs.length = 40
      · rw [appendF_full h0 e h2]; exact good_nil
      · rw [appendF_new h0 e h2]; exact good_put (good_snoc hg ⟨by simp, (show (-9223372036854775808 : Int) ≤ 0 by decide), (show (0 : Int) ≤ 9223372036854775807 by decide), hn, by simp⟩) hl

/-- The data of one file was appended to: the disk behind that. -/
theorem OwnD.put {w w' : World} {B g cap k : Nat} {fs : List FileL} {vs : List Value} {v' : Value} {l : List Int} (h : OwnD w B (.slice (some ⟨g, 0, none⟩) fs.length cap) fs vs) (hk : k < fs.length) (hg : w.grownBy w' (vs.getD k undef).ownBlock) (hr : Reads .u8 w' v' l) :
    DiskR (w'.setCell ⟨g, k * 3 + 1, none⟩ v') (.slice (some ⟨g, 0, none⟩) fs.length cap) (fs.set k { fs.getD k noF with data := l }) ∧ g < w.heap.size ∧ w'.cell? ⟨g, k * 3 + 1, none⟩ = some (vs.getD k undef) ∧ w'.frozen? ⟨g, k * 3 + 1, none⟩ = false := by
  obtain ⟨hrow, _⟩ := h.rowF
  have hgk : some g ≠ (vs.getD k undef).ownBlock := by
    rcases own_apart h.row (h.data k hk) (by decide) with e | e
    · cases e
    · exact e
  have cell : ∀ o, w'.cell? ⟨g, o, none⟩ = w.cell? ⟨g, o, none⟩ := fun o => hg.cell_far ⟨g, o, none⟩ hrow.lt hgk
  have frz : ∀ o, w'.frozen? ⟨g, o, none⟩ = w.frozen? ⟨g, o, none⟩ := fun o => hg.frozen_far ⟨g, o, none⟩ hrow.lt hgk
  obtain ⟨c1, c2, c3, c4⟩ := hrow.file k hk
  have hne : ∀ n, vs.getD k undef ≠ .int .u8 n := fun n hh => by obtain ⟨a, c, e, _⟩ := c4; rw [e] at hh; cases hh
  have c2' := (cell (k * 3 + 1)).trans c2
  refine ⟨?_, hrow.lt, c2', (frz _).trans (hrow.free _)⟩
  refine ⟨_, cap, by rw [List.length_set], by rw [List.length_set]; exact hrow.le, hrow.max, fun e => (by cases e), fun _ => ⟨g, 0, rfl, by rw [size_setCell]; exact Nat.lt_of_lt_of_le hrow.lt hg.size, fun i => if i = k then v' else vs.getD i undef, fun i hi => ?_⟩⟩
  rw [List.length_set] at hi
  rw [Nat.zero_add]
  by_cases e : i = k
  · subst e
    rw [getD_set_eq hi]
    show FileC _ _ _ (if i = i then v' else _) _
    rw [if_pos rfl]
    refine ⟨?_, World.cell?_setCell_same _ _ _ c2', ?_, hr.set c2' hne⟩
    · rw [World.cell?_setCell_other _ _ _ _ (addr_ne (by omega)), cell]; exact c1
    · rw [World.cell?_setCell_other _ _ _ _ (addr_ne (by omega)), cell]; exact c3
  · rw [getD_set_ne e]
    show FileC _ _ _ (if i = k then v' else vs.getD i undef) _
    rw [if_neg e]
    obtain ⟨d1, d2, d3, _⟩ := hrow.file i hi
    have d4 : w'.ownsRow B 5 1 (vs.getD i undef) (fs.getD i noF).data.length ((fs.getD i noF).data.map (Value.int .u8)) := (h.data i hi).kept hg (by
      rcases Nat.lt_or_gt_of_ne e with hlt | hgt
      · rcases h.apart i k hlt hk with e1 | e1
        · rcases (h.data i hi).2 with ⟨hv, _⟩ | ⟨g', _, _, hv, _⟩
          · rw [hv]; exact .inl rfl
          · exact .inr (by rw [e1, hv]; intro hh; cases hh)
        · exact .inr (fun e2 => e1 e2.symm)
      · exact h.apart k i hgt hi)
    refine fileC_other ⟨(cell _).trans d1, (cell _).trans d2, (cell _).trans d3, reads_own d4⟩ c2' hne (by omega) e

set_option maxHeartbeats 1000000 in
set_option maxRecDepth 100000 in
/-- What stands behind the finding of the file: by its place k. -/
theorem appendTo_any (p B : Nat) (v3 : Value) (fs : List FileL) (vs : List Value) (n : ByteArray) (b : Value) (x : List Int) (w : World) (hpB : p < B) (hB : B ≤ w.heap.size) (hc : w.cell? ⟨p, 0, none⟩ = some v3) (hf : w.frozen? ⟨p, 0, none⟩ = false) (ho : OwnD w B v3 fs vs) (hmay : mayB fs = true) (hn : n.size ≤ maxLen) (hr : ∀ w5, Below p w w5 → Reads .u8 w5 b x) (_hx : ∀ y ∈ x, 0 ≤ y ∧ y ≤ 255) :
    Calls Tryz.prog 51 #[.pointer (some ⟨p, 0, none⟩), .string n, b] w fun e w4 => ∃ v4, e = .returned (.int .i64 (appendF fs n x).2) ∧ w4.cell? ⟨p, 0, none⟩ = some v4 ∧ ((appendF fs n x).2 = 0 → DiskR w4 v4 (appendF fs n x).1) ∧ Below p w w4 := by
  obtain ⟨i0, hi, hz0, hz1, hz2⟩ := info_parts Tryz.infoF
  have lp : p < w.heap.size := World.block_lt_of_cell? w _ hc
  have h40 := (may_iff.1 hmay).1
  have HO : Hid (OwnD w B v3 fs vs) := ho
  have HRB : Hid (∀ w5, Below p w w5 → Reads .u8 w5 b x) := hr
  have HMAY : Hid (mayB fs = true) := hmay
  obtain ⟨ba, bc, hbe, hbc, hbm, _, _⟩ := hr w (Below.refl _ _)
  subst hbe
  clear ho hmay hr
  unfold maxLen at hbm
  go_enter Tryz.func51, Tryz.ntmps51
  go_wp2_with fail
  refine (nameMay_any n _ hn).mono ?_
  rintro e w0 ⟨rfl, rfl⟩
  cases h0 : nmB n with
  | false =>
    have HF : Hid (appendF fs n x = ([], 1)) := appendF_size h0
    clear h0
    go_wp2_with fail
    go_ret
    exact ⟨v3, by rw [HF.out]; rfl, hc, fun h => by rw [HF.out] at h; simp at h, Below.refl _ _⟩
  | true =>
    go_wp2_with fail
    refine (find_any p v3 fs n _ hc HO.out.reads).mono ?_
    rintro e w1 ⟨rfl, hb1⟩
    have O1 : Hid (OwnD w1 B v3 fs vs) := HO.out.below hb1 (Nat.le_refl _)
    have c1 : w1.cell? ⟨p, 0, none⟩ = some v3 := (hb1.cell (p := ⟨p, 0, none⟩) lp).trans hc
    have f1 : w1.frozen? ⟨p, 0, none⟩ = false := (hb1.frozen (p := ⟨p, 0, none⟩) lp).trans hf
    have B1 : Hid (Below p w0 w1) := hb1.mono (Nat.le_of_lt lp)
    have R1 : Hid (Reads .u8 w1 (.slice ba x.length bc) x) := HRB.out _ (hb1.mono (Nat.le_of_lt lp))
    have hs1 := hb1.size
    clear hb1
    rcases atF_cases fs n with ⟨k, hk, e, _, _⟩ | ⟨e, _⟩
    · have HF : Hid (appendF fs n x = putF fs k x) := appendF_some h0 e
      rw [e]
      clear e h0
      rcases O1.out.row_or with ⟨_, hnil⟩ | ⟨g, cap, hv, hg, hrow⟩
      · subst hnil; simp at hk
      subst hv
      obtain ⟨y1, y2, y3, da, dc, hdv, hd1, hd2, _, _⟩ := hrow.file k hk
      have hle := hrow.le
      have hmx := hrow.max
      have hglt := hrow.lt
      have hpg : p ≠ g := by omega
      unfold maxLen at hmx hd2
      have OD : Hid (w1.ownsRow B 5 1 (vs.getD k undef) (fs.getD k noF).data.length ((fs.getD k noF).data.map (Value.int .u8))) := O1.out.data k hk
      have PUT : Hid (∀ w' v', w1.grownBy w' (vs.getD k undef).ownBlock → Reads .u8 w' v' ((fs.getD k noF).data ++ x) → _) := fun w' v' h1 h2 => O1.out.put (w' := w') (v' := v') hk h1 h2
      have hgk : some g ≠ (vs.getD k undef).ownBlock := by
        rcases own_apart O1.out.row (O1.out.data k hk) (by decide) with e | e
        · cases e
        · exact e
      have q0 : (0 : Int) ≤ (k : Int) := by omega
      have q1 : (k : Int) < (fs.length : Int) := by omega
      have hdv' : vs.getD k undef = .slice da (fs.getD k noF).data.length dc := hdv
      rw [hdv'] at OD PUT hgk
      have y2' : w1.cell? ⟨g, k * 3 + 1, none⟩ = some (.slice da (fs.getD k noF).data.length dc) := by rw [← hdv]; exact y2
      clear y1 y2 y3 hdv hdv' hrow
      have HG9 : Hid (some g ≠ (Value.slice da (fs.getD k noF).data.length dc).ownBlock) := hgk
      clear hgk
      by_cases hov : 100000 < (fs.getD k noF).data.length + x.length
      · have HF2 : Hid (putF fs k x = ([], 10)) := putF_over hov
        have hov' : (100000 : Int) - ((fs.getD k noF).data.length : Int) < (x.length : Int) := by omega
        generalize (fs.getD k noF).data = dl at *
        go_wp2_with fail
        go_ret
        exact ⟨.slice (some ⟨g, 0, none⟩) fs.length cap, by rw [HF.out, HF2.out]; rfl, c1, fun h => by rw [HF.out, HF2.out] at h; simp at h, B1.out⟩
      · have HF2 : Hid (putF fs k x = (fs.set k { fs.getD k noF with data := (fs.getD k noF).data ++ x }, 0)) := putF_ok hov
        have hov' : ¬ (100000 : Int) - ((fs.getD k noF).data.length : Int) < (x.length : Int) := by omega
        generalize hDL : (fs.getD k noF).data = dl at *
        clear hDL
        go_wp2_with (at_builtin; refine wpList_append_reads rfl _ _ rfl B _ dl rfl OD.out _ x rfl R1.out (by omega) (by omega) ?_)
        intro v2 w2 hown2 hbel2 hgrow2
        have RV := reads_own (show w2.ownsRow B 5 1 v2 (dl ++ x).length ((dl ++ x).map (Value.int .u8)) by simpa using hown2)
        obtain ⟨DD, _, z1, z2⟩ := PUT.out w2 v2 hgrow2 RV
        obtain ⟨va, vn, vc, rfl⟩ : ∃ a n c, v2 = .slice a n c := by obtain ⟨a, c, h, _⟩ := RV; exact ⟨_, _, _, h⟩
        have pk : w2.cell? ⟨p, 0, none⟩ = some (.slice (some ⟨g, 0, none⟩) fs.length cap) := (hbel2.cell (p := ⟨p, 0, none⟩) hpB).trans c1
        have HDD : Hid (DiskR (w2.setCell ⟨g, k * 3 + 1, none⟩ (.slice va vn vc)) (.slice (some ⟨g, 0, none⟩) fs.length cap) (fs.set k { fs.getD k noF with data := dl ++ x })) := DD
        have B2 : Hid (Below p w0 (w2.setCell ⟨g, k * 3 + 1, none⟩ (.slice va vn vc))) := (B1.out.trans (hbel2.mono (by omega))).setCell (p := ⟨g, k * 3 + 1, none⟩) (show p ≤ g by omega) _
        clear DD hown2 hbel2 hgrow2 RV
        go_wp2_with fail
        go_ret
        exact ⟨by rw [HF.out, HF2.out]; rfl, .slice (some ⟨g, 0, none⟩) fs.length cap, by rw [World.cell?_setCell_other _ _ _ _ (fun e => hpg (congrArg Addr.block e).symm)]; exact pk, fun _ => by rw [HF.out, HF2.out]; exact HDD.out, B2.out⟩
    · by_cases hfull : fs.length = 40
      · have HF : Hid (appendF fs n x = ([], 10)) := appendF_full h0 e hfull
        rw [e]
        clear e h0
        have hfe : ((fs.length : Int) == 40) = true := by rw [hfull]; rfl
        clear hfull
        obtain ⟨va, vc, hv, _⟩ := O1.out.reads
        subst hv
        go_wp2_with fail
        go_ret
        exact ⟨_, by rw [HF.out]; rfl, c1, fun h => by rw [HF.out] at h; simp at h, B1.out⟩
      · have HF : Hid (appendF fs n x = putF (fs ++ [⟨n, [], 0⟩]) fs.length x) := appendF_new h0 e hfull
        rw [e]
        clear e h0
        have hfe : ((fs.length : Int) == 40) = false := by rw [beq_eq_false_iff_ne]; omega
        obtain ⟨va, vc, hv, _⟩ := O1.out.reads
        subst hv
        have HFL : Hid (fs.length ≠ 40) := hfull
        clear hfull
        go_wp2_with (at_builtin; refine wpList_append_lies _ rfl _ _ _ rfl B 102 i0 _ 3 48 Tryz.underlying37 hi hz0 hz1 hz2 rfl (by omega) _ _ _ rfl (O1.out.row.alloc _) ⟨w1.heap.size, 0, none⟩ 1 1 [.string n, .slice none 0 0, .int .i64 0] rfl rfl (World.news_of_block (cs := #[.string n, .slice none 0 0, .int .i64 0]) (t := 102) (fr := (0, 0)) (heap_alloc_new w1 _)) (file_oneCell ⟨n, [], 0⟩ rfl) (by omega) (by unfold maxLen; omega) (by omega) (by simp; omega) (w1.heap.size + 1) (by simp) ?_)
        intro g cap w2 hown2 hgrow2 hat2 hlt2
        have hnp : some p ≠ (Value.slice va fs.length vc).ownBlock := O1.out.not hpB
        have lp1 : p < w1.heap.size := by omega
        have c2 : w2.cell? ⟨p, 0, none⟩ = some (.slice va fs.length vc) := (hgrow2.cell_far ⟨p, 0, none⟩ (show p < _ by simp; omega) hnp).trans (((below_alloc w1 _).cell (p := ⟨p, 0, none⟩) lp1).trans c1)
        have f2 : w2.frozen? ⟨p, 0, none⟩ = false := (hgrow2.frozen_far ⟨p, 0, none⟩ (show p < _ by simp; omega) hnp).trans (((below_alloc w1 _).frozen (p := ⟨p, 0, none⟩) lp1).trans f1)
        have O2 : OwnD w2 B (.slice (some ⟨g, 0, none⟩) (fs.length + 1) cap) (fs ++ [⟨n, [], 0⟩]) (vs ++ [.slice none 0 0]) := (O1.out.alloc _).snoc (B := w1.heap.size + 1) (f := ⟨n, [], 0⟩) hown2 hgrow2 (World.ownsRow_nil _ _ _ _) (by omega) (fun i hi k hk => by have := O1.out.lt i hi k hk; omega)
        have hB2 : B ≤ w2.heap.size := by have := hgrow2.size; simp at this; omega
        have O3 : Hid (OwnD (w2.setCell ⟨p, 0, none⟩ (.slice (some ⟨g, 0, none⟩) (fs.length + 1) cap)) B (.slice (some ⟨g, 0, none⟩) (fs.length + 1) cap) (fs ++ [⟨n, [], 0⟩]) (vs ++ [.slice none 0 0])) := O2.setBelow hpB _
        have c3 : (w2.setCell ⟨p, 0, none⟩ (.slice (some ⟨g, 0, none⟩) (fs.length + 1) cap)).cell? ⟨p, 0, none⟩ = some (.slice (some ⟨g, 0, none⟩) (fs.length + 1) cap) := World.cell?_setCell_same _ _ _ c2
        have B2 : Hid (Below p w0 (w2.setCell ⟨p, 0, none⟩ (.slice (some ⟨g, 0, none⟩) (fs.length + 1) cap))) := ((B1.out.alloc (by omega) _).grown hgrow2 (by simp; omega) (fun j hj => by have := (O1.out.row.lt j hj).1; omega)).setCell (p := ⟨p, 0, none⟩) (show p ≤ p from Nat.le_refl _) _
        have R3 : Hid (Reads .u8 (w2.setCell ⟨p, 0, none⟩ (.slice (some ⟨g, 0, none⟩) (fs.length + 1) cap)) (.slice ba x.length bc) x) := HRB.out _ B2.out
        have hB3 : B ≤ (w2.setCell ⟨p, 0, none⟩ (.slice (some ⟨g, 0, none⟩) (fs.length + 1) cap)).heap.size := by rw [size_setCell]; exact hB2
        have hlen9 : (fs ++ [(⟨n, [], 0⟩ : FileL)]).length = fs.length + 1 := by simp
        have hk9 : fs.length < (fs ++ [(⟨n, [], 0⟩ : FileL)]).length := by omega
        have hrow := O3.out.rowF.1
        have y2 := (hrow.file fs.length hk9).2.1
        have hv9 : (vs ++ [Value.slice none 0 0]).getD fs.length undef = .slice none 0 0 := by rw [← O1.out.len]; exact getD_app_last
        have hf9 : (fs ++ [(⟨n, [], 0⟩ : FileL)]).getD fs.length noF = ⟨n, [], 0⟩ := getD_app_last
        have hle := hrow.le
        have hmx := hrow.max
        have hgB : B ≤ g := (O2.row.lt g rfl).1
        have hpg : p ≠ g := by omega
        unfold maxLen at hmx
        rw [hlen9] at hle
        have y2' : (w2.setCell ⟨p, 0, none⟩ (.slice (some ⟨g, 0, none⟩) (fs.length + 1) cap)).cell? ⟨g, fs.length * 3 + 1, none⟩ = some (.slice none 0 0) := by rw [← hv9]; exact y2
        have PUT : Hid (∀ w' v', (w2.setCell ⟨p, 0, none⟩ (.slice (some ⟨g, 0, none⟩) (fs.length + 1) cap)).grownBy w' none → Reads .u8 w' v' x → DiskR (w'.setCell ⟨g, fs.length * 3 + 1, none⟩ v') (.slice (some ⟨g, 0, none⟩) (fs.length + 1) cap) ((fs ++ [(⟨n, [], 0⟩ : FileL)]).set fs.length ⟨n, x, 0⟩) ∧ w'.cell? ⟨g, fs.length * 3 + 1, none⟩ = some (.slice none 0 0) ∧ w'.frozen? ⟨g, fs.length * 3 + 1, none⟩ = false) := fun w' v' h1 h2 => by
          have h9 := O3.out
          rw [← hlen9] at h9 h1 ⊢
          have h8 := h9.put (k := fs.length) hk9 (by rw [hv9]; exact h1) h2
          rw [hf9, hv9] at h8
          exact ⟨h8.1, h8.2.2⟩
        have HF9 : Hid ((fs ++ [(⟨n, [], 0⟩ : FileL)]).getD fs.length noF = ⟨n, [], 0⟩) := hf9
        clear hrow y2 hv9 hf9 O2 hown2 hgrow2 hat2
        have q0 : (0 : Int) ≤ (fs.length : Int) := by omega
        have q1 : (fs.length : Int) < (fs.length : Int) + 1 := by omega
        by_cases hov : 100000 < x.length
        · have HF2 : Hid (putF (fs ++ [⟨n, [], 0⟩]) fs.length x = ([], 10)) := putF_over (by rw [HF9.out]; simpa using hov)
          have hov' : (100000 : Int) < (x.length : Int) := by omega
          generalize hFL : fs.length = m at *
          clear hFL
          go_wp2_with fail
          go_ret
          exact ⟨.slice (some ⟨g, 0, none⟩) (m + 1) cap, by rw [HF.out, HF2.out]; rfl, c3, fun h => by rw [HF.out, HF2.out] at h; simp at h, B2.out⟩
        · have HF2 : Hid (putF (fs ++ [⟨n, [], 0⟩]) fs.length x = ((fs ++ [(⟨n, [], 0⟩ : FileL)]).set fs.length ⟨n, x, 0⟩, 0)) := by
            show _ = _
            rw [putF_ok (by rw [HF9.out]; simpa using hov), HF9.out]
            simp
          have hov' : ¬ (100000 : Int) < (x.length : Int) := by omega
          generalize hFL : fs.length = m at *
          clear hFL
          go_wp2_with (at_builtin; refine wpList_append_reads rfl _ _ rfl B _ [] rfl (World.ownsRow_nil _ _ _ _) _ x rfl R3.out (by simp; omega) (by first | exact hB3 | simpa using hB3) ?_)
          intro v4 w4 hown4 hbel4 hgrow4
          have RV := reads_own (show w4.ownsRow B 5 1 v4 x.length (x.map (Value.int .u8)) by simpa using hown4)
          obtain ⟨DD, z1, z2⟩ := PUT.out w4 v4 hgrow4 RV
          obtain ⟨va9, vn9, vc9, rfl⟩ : ∃ a n c, v4 = .slice a n c := by obtain ⟨a, c, h, _⟩ := RV; exact ⟨_, _, _, h⟩
          have pk : w4.cell? ⟨p, 0, none⟩ = some (.slice (some ⟨g, 0, none⟩) (m + 1) cap) := (hbel4.cell (p := ⟨p, 0, none⟩) hpB).trans c3
          have HDD : Hid (DiskR (w4.setCell ⟨g, m * 3 + 1, none⟩ (.slice va9 vn9 vc9)) (.slice (some ⟨g, 0, none⟩) (m + 1) cap) ((fs ++ [(⟨n, [], 0⟩ : FileL)]).set m ⟨n, x, 0⟩)) := DD
          have B4 : Hid (Below p w0 (w4.setCell ⟨g, m * 3 + 1, none⟩ (.slice va9 vn9 vc9))) := (B2.out.trans (hbel4.mono (by omega))).setCell (p := ⟨g, m * 3 + 1, none⟩) (show p ≤ g by omega) _
          clear DD hown4 hbel4 hgrow4 RV
          go_wp2_with fail
          go_ret
          exact ⟨.slice (some ⟨g, 0, none⟩) (m + 1) cap, by rw [HF.out, HF2.out]; rfl, by rw [World.cell?_setCell_other _ _ _ _ (fun e => hpg (congrArg Addr.block e).symm)]; exact pk, fun _ => by rw [HF.out, HF2.out]; exact HDD.out, B4.out⟩

set_option maxHeartbeats 400000 in
theorem appendTo1_any (p B q1 q2 : Nat) (v3 : Value) (fs : List FileL) (vs : List Value) (n1 : ByteArray) (b2 : Value) (x2 : List Int) (w : World) (hpB : p < B) (hB : B ≤ w.heap.size) (hq1 : w.cell? ⟨q1, 0, none⟩ = some (.string n1)) (hq2 : w.cell? ⟨q2, 0, none⟩ = some (b2)) (hc : w.cell? ⟨p, 0, none⟩ = some v3) (hf : w.frozen? ⟨p, 0, none⟩ = false) (ho : OwnD w B v3 fs vs) (hmay : mayB fs = true) (hn1 : n1.size ≤ maxLen) (hr2 : ∀ w5, Below p w w5 → Reads .u8 w5 b2 x2) (hx2 : ∀ x ∈ x2, 0 ≤ x ∧ x ≤ 255) :
    Calls Tryz.prog 50 #[.pointer (some ⟨p, 0, none⟩), .pointer (some ⟨q1, 0, none⟩), .pointer (some ⟨q2, 0, none⟩)] w fun e w4 => ∃ v4, e = .returned (.int .i64 (appendF fs n1 x2).2) ∧ w4.cell? ⟨p, 0, none⟩ = some v4 ∧ ((appendF fs n1 x2).2 = 0 → DiskR w4 v4 (appendF fs n1 x2).1) ∧ Below p w w4 := by
  have HO : Hid (OwnD w B v3 fs vs) := ho
  have HMAY : Hid (mayB fs = true) := hmay
  have HR2 : Hid (∀ w5, Below p w w5 → Reads .u8 w5 b2 x2) := hr2
  have HX2 : Hid (∀ x ∈ x2, 0 ≤ x ∧ x ≤ 255) := hx2
  clear hr2 hx2
  clear ho hmay
  go_enter Tryz.func50, Tryz.ntmps50
  go_wp2_with fail
  refine (appendTo_any p B v3 fs vs n1 b2 x2 _ hpB hB hc hf HO.out HMAY.out hn1 HR2.out HX2.out).mono ?_
  rintro e w1 ⟨v4, rfl, h1, h2, h3⟩
  have H2 : Hid ((appendF fs n1 x2).2 = 0 → DiskR w1 v4 (appendF fs n1 x2).1) := h2
  clear h2
  go_wp2_with fail
  go_ret
  exact ⟨v4, rfl, h1, H2.out, h3⟩

theorem enter_appendTo (args : Array Value) (w : World) : (callFunc 50 args).run Tryz.prog w = .ok (.enter 50 args) w := by go_simp

set_option maxHeartbeats 400000 in
theorem diskAppend_any (v : Value) (fs : List FileL) (n1 : ByteArray) (b2 : Value) (x2 : List Int) (w : World) (h : DiskR w v fs) (hg : Good fs) (hn1 : n1.size ≤ maxLen) (hr2 : Reads .u8 w b2 x2) (hx2 : ∀ x ∈ x2, 0 ≤ x ∧ x ≤ 255) :
    Calls Tryz.prog 27 #[.agg #[v], .string n1, b2] w fun e w' => ∃ v', e = .returned (.tuple #[.agg #[v'], .int .i64 (chF fs (appendF fs n1 x2)).2]) ∧ DiskR w' v' (chF fs (appendF fs n1 x2)).1 ∧ Below w.heap.size w w' := by
  have hmf : ∀ (fn : Fn) (first cap : Array Value) (w : World), (Instr.makeFunc fn first cap).run Tryz.prog w = .ok (.func fn first cap) w := fun _ _ _ _ => rfl
  have HG : Hid (Good fs) := hg
  have HD : Hid (DiskR w v fs) := h
  have HR2 : Hid (Reads .u8 w b2 x2) := hr2
  have HX2 : Hid (∀ x ∈ x2, 0 ≤ x ∧ x ≤ 255) := hx2
  obtain ⟨a, cap, rfl, _, _, _, _⟩ := h
  clear hg
  obtain ⟨ba2, bc2, hbe2, _, _, _, _⟩ := hr2
  subst hbe2
  go_enter Tryz.func27, Tryz.ntmps27
  go_wp2_with fail
  refine (changed_two _ fs (appendF fs n1 x2) 50 (.pointer (some ⟨w.heap.size + 1, 0, none⟩)) (.pointer (some ⟨w.heap.size + 2, 0, none⟩)) _ ?_ HG.out appendF_err enter_appendTo ?_).mono ?_
  · exact diskR_four HD.out _ _ _ _
  · intro p B w3 v3 vs h1 h2 h3 h4 h5 h6 h7 h8
    refine appendTo1_any p B (w.heap.size + 1) (w.heap.size + 2) v3 fs vs n1 _ x2 w3 h2 h3 ?_ ?_ h4 h5 h6 h8 hn1 (fun w5 hb5 => HR2.out.below ((below_up w _ _ _ _).trans ((h7.mono (by simp; omega)).trans (hb5.mono (by simp at h1; omega)))) (Nat.le_refl _)) HX2.out
    · exact (h7.cell (p := ⟨w.heap.size + 1, 0, none⟩) (by simp)).trans (cell_mid2 _ _ _ _ _ _)
    · exact (h7.cell (p := ⟨w.heap.size + 2, 0, none⟩) (by simp)).trans (cell_mid3 _ _ _ _ _ _)
  rintro e w1 ⟨v1, rfl, hd1, hb1⟩
  have hb1' : Below (w.heap.size + 4) ((((w.alloc (.cells #[.slice a fs.length cap] 39)).alloc (.cells #[.string n1] 9)).alloc (.cells #[.slice ba2 x2.length bc2] 31)).alloc (.cells #[.slice none 0 0] 39)) w1 := by simpa using hb1
  have hblk : w1.heap[w.heap.size + 3]? = some (.cells #[.slice none 0 0] 39 (0, 0)) := (hb1'.block _ (Nat.lt_succ_self _)).trans (heap_fourth _ _ _ _ _ _)
  have t1 : w1.cell? ⟨w.heap.size + 3, 0, none⟩ = some (.slice none 0 0) := by rw [cell_of_row w1 _ _ _ _ _ hblk]; rfl
  have t2 : w1.frozen? ⟨w.heap.size + 3, 0, none⟩ = false := by simp only [World.frozen?, hblk]; simp
  have B1 : Hid (Below w.heap.size w w1) := below_four hb1'
  have D2 : Hid (∀ y, DiskR (w1.setCell ⟨w.heap.size + 3, 0, none⟩ y) v1 (chF fs (appendF fs n1 x2)).1) := fun y => hd1.setBox hblk
  obtain ⟨a1, c1, rfl, _, _, _, _⟩ := hd1
  clear hb1 hb1' hblk
  generalize hq : chF fs (appendF fs n1 x2) = q at *
  have HQ : Hid (chF fs (appendF fs n1 x2) = q) := hq
  clear hq
  go_wp2_with fail
  exact bodyPost_ret (v := .tuple #[.agg #[.slice a1 q.1.length c1], .int .i64 q.2]) (by simp [results, Tryz.results27, go_sem, t1]) rfl ⟨_, by rw [HQ.out], by rw [HQ.out]; exact D2.out _, B1.out.setCell (show w.heap.size ≤ w.heap.size + 3 by omega) _⟩
end Go.Proofs.YtkgdenbabafeoaaGreatDoor

namespace Go.Proofs.YtkgdenbabafeoaaGreatDoor
set_option maxRecDepth 100000
open Go.ChangeShapes Go.WideShapes Go.ChangeAt Go.RowKit

/-- What is left of a disk where the file that is written is taken away. -/
def lessF (fs : List FileL) : List FileL := if atF fs nxt < 0 then fs else (removeF fs nxt).1
theorem lessF_none {fs : List FileL} (h : atF fs nxt < 0) : lessF fs = fs := by unfold lessF; rw [if_pos h]
theorem lessF_some {fs : List FileL} (h : ¬ atF fs nxt < 0) : lessF fs = (removeF fs nxt).1 := by unfold lessF; rw [if_neg h]
theorem less_len (fs : List FileL) : (lessF fs).length ≤ fs.length := by
  by_cases h : atF fs nxt < 0
  · rw [lessF_none h]; exact Nat.le_refl _
  · rw [lessF_some h]; unfold removeF; rw [if_neg h]; exact List.length_eraseIdx_le _ _
theorem good_less {fs : List FileL} (h : Good fs) : Good (lessF fs) := by
  by_cases k : atF fs nxt < 0
  · rw [lessF_none k]; exact h
  · rw [lessF_some k]; exact good_remove h
/-- P14.5 -/
def putE (fs : List FileL) (r : List Int × Int) : List FileL × Int :=
  if r.2 = 0 then (if mayB fs = true then chF (lessF fs) (appendF (lessF fs) nxt r.1) else ([], 9)) else ([], r.2)
theorem putE_err {fs : List FileL} {r : List Int × Int} (h : ¬ r.2 = 0) : putE fs r = ([], r.2) := by unfold putE; rw [if_neg h]
theorem putE_no {fs : List FileL} {r : List Int × Int} (h : r.2 = 0) (hm : mayB fs = false) : putE fs r = ([], 9) := by unfold putE; rw [if_pos h, if_neg (by rw [hm]; simp)]
theorem putE_yes {fs : List FileL} {r : List Int × Int} (h : r.2 = 0) (hm : mayB fs = true) : putE fs r = chF (lessF fs) (appendF (lessF fs) nxt r.1) := by unfold putE; rw [if_pos h, if_pos hm]
theorem good_putE {fs : List FileL} {r : List Int × Int} (hg : Good fs) (hr : ∀ x ∈ r.1, 0 ≤ x ∧ x ≤ 255) : Good (putE fs r).1 := by
  by_cases h : r.2 = 0
  · cases hm : mayB fs with
    | false => rw [putE_no h hm]; exact good_nil
    | true => rw [putE_yes h hm]; exact good_ch (good_less hg) (good_append (good_less hg) nxt_size hr)
  · rw [putE_err h]; exact good_nil
theorem chF_remove (fs : List FileL) : ((chF fs (removeF fs nxt)).2 = 0 ∧ mayB fs = true ∧ (chF fs (removeF fs nxt)).1 = lessF fs) ∨ ((chF fs (removeF fs nxt)).2 = 7 ∧ mayB fs = true ∧ lessF fs = fs) ∨ ((chF fs (removeF fs nxt)).2 = 9 ∧ mayB fs = false) := by
  cases hm : mayB fs with
  | false => exact .inr (.inr ⟨by unfold chF; rw [if_neg (by rw [hm]; simp)], rfl⟩)
  | true =>
    have e : chF fs (removeF fs nxt) = removeF fs nxt := by unfold chF; rw [if_pos hm]
    rw [e]
    by_cases h : atF fs nxt < 0
    · exact .inr (.inl ⟨by unfold removeF; rw [if_pos h], rfl, lessF_none h⟩)
    · exact .inl ⟨by unfold removeF; rw [if_neg h], rfl, (lessF_some h).symm⟩

set_option maxHeartbeats 2000000 in
set_option maxRecDepth 100000 in
theorem ckPut_any (v : Value) (fs : List FileL) (s : SvS) (vv vm : Value) (w : World) (hD : DiskR w v fs) (hG : Good fs) (hv : MlR w vv s.vals) (hm : MlR w vm s.mail) (hB : ∀ x ∈ s.mail, mlB x) :
    Calls Tryz.prog 10 #[.agg #[v], .agg #[.int .i64 s.step, .int .i64 s.phase, .bool s.fresh, vv, vm]] w (DskP w (putE fs (encS s))) := by
  have HD : Hid (DiskR w v fs) := hD
  have HG : Hid (Good fs) := hG
  have HV : Hid (MlR w vv s.vals) := hv
  have HM : Hid (MlR w vm s.mail) := hm
  have HEB : Hid (∀ x ∈ (encS s).1, 0 ≤ x ∧ x ≤ 255) := encS_bd s
  obtain ⟨a, cap, rfl, _, _, _, _⟩ := hD
  obtain ⟨va, vc, rfl⟩ := hv.shape
  obtain ⟨ma, mc, rfl⟩ := hm.shape
  obtain ⟨W0, hW0⟩ : ∃ W0, W0 = ((w.alloc (.cells #[.slice a fs.length cap] 39)).alloc (.cells #[.int .i64 s.step, .int .i64 s.phase, .bool s.fresh, .slice va s.vals.length vc, .slice ma s.mail.length mc] 28)).alloc (.cells #[.slice none 0 0] 39) := ⟨_, rfl⟩
  obtain ⟨P0, Q0, Z0, B0, s1, s2⟩ := boxes3 w #[.slice a fs.length cap] #[.int .i64 s.step, .int .i64 s.phase, .bool s.fresh, .slice va s.vals.length vc, .slice ma s.mail.length mc] #[.slice none 0 0] 39 28 39 W0 hW0
  have HK : Hid (∀ X, Below W0.heap.size W0 X → (X.cell? ⟨w.heap.size, 0, none⟩ = some (.slice a fs.length cap) ∧ X.cell? ⟨w.heap.size + 2, 0, none⟩ = some (.slice none 0 0) ∧ X.frozen? ⟨w.heap.size + 2, 0, none⟩ = false) ∧ Below w.heap.size w X ∧ DiskR X (.slice a fs.length cap) fs ∧ BX 39 X (w.heap.size + 2) #[.slice none 0 0]) := fun X hX => by
    have hb := B0.trans (hX.mono (show w.heap.size ≤ W0.heap.size by omega))
    exact ⟨⟨(P0.below hX (by omega)).all1.1, (Z0.below hX (by omega)).all1⟩, hb, HD.out.below hb (Nat.le_refl _), Z0.below hX (by omega)⟩
  have BH : Hid (Below w.heap.size w W0) := B0
  have RV : Hid (MlR W0 (.slice va s.vals.length vc) s.vals) := HV.out.below B0 (Nat.le_refl _)
  have RM : Hid (MlR W0 (.slice ma s.mail.length mc) s.mail) := HM.out.below B0 (Nat.le_refl _)
  have CE : Hid (∀ X, MlR X (.slice va s.vals.length vc) s.vals → MlR X (.slice ma s.mail.length mc) s.mail → Calls Tryz.prog 8 #[.agg #[.int .i64 s.step, .int .i64 s.phase, .bool s.fresh, .slice va s.vals.length vc, .slice ma s.mail.length mc]] X (BytP2 X (encS s))) := fun X h1 h2 => sEnc_any s _ _ X h1 h2 hB
  obtain ⟨c0, c1, c2, c3, c4⟩ := Q0.all5
  clear P0 Q0 Z0 B0 hG hv hm hB HV HM HD
  generalize encS s = E at *
  obtain ⟨eb, ee⟩ := E
  go_enter Tryz.func10, Tryz.ntmps10
  go_upto_region 1 with fail
  rw [← hW0]
  clear hW0
  go_wp2_with fail
  refine (CE.out _ RV.out RM.out).mono ?_
  rintro e w1 ⟨v1, rfl, ho1, hb1⟩
  have A1 : Hid (Below W0.heap.size W0 w1) := hb1
  have hs1 := hb1.size
  obtain ⟨ea, ec, rfl⟩ := own_slice ho1
  have R1 : Hid (Reads .u8 w1 (.slice ea eb.length ec) eb) := reads_own ho1
  obtain ⟨⟨p0, z0, zf⟩, _⟩ := HK.out _ A1.out
  clear c0 c1 c2 c3 c4 hb1 ho1
  have ZX : Hid (∀ X u, Below W0.heap.size W0 X → BX 39 (X.setCell ⟨w.heap.size + 2, 0, none⟩ u) (w.heap.size + 2) #[u] ∧ Below w.heap.size w (X.setCell ⟨w.heap.size + 2, 0, none⟩ u)) := fun X u hX => ⟨(HK.out X hX).2.2.2.set 0 u, (HK.out X hX).2.1.setCell (by simp) u⟩
  by_cases hz : ee = 0
  case neg =>
    have EZ : Hid (putE fs (eb, ee) = ([], ee)) := putE_err hz
    have tz : (ee != 0) = true := by simp [hz]
    go_wp2_with fail
    obtain ⟨rx, rb⟩ := ZX.out w1 (.slice none 0 0) A1.out
    obtain ⟨r0, _⟩ := rx.all1
    refine bodyPost_ret (v := .tuple #[.agg #[.slice none 0 0], .int .i64 ee]) (by simp [results, Tryz.results10, go_sem, r0]) rfl ?_
    rw [EZ.out]
    exact ⟨_, rfl, diskR_nil _, rb⟩
  case pos =>
    subst hz
    have FQ := chF_remove fs
    go_upto_region 4 with fail
    go_wp2_with fail
    refine (diskRemove_any _ fs nxt _ (HK.out _ A1.out).2.2.1 HG.out nxt_size).mono ?_
    rintro e w2 ⟨v2, rfl, hr2, hb2⟩
    generalize chF fs (removeF fs nxt) = q at *
    obtain ⟨q1, q2⟩ := q
    have A2 : Below W0.heap.size W0 w2 := A1.out.trans (hb2.mono hs1)
    have hs2 := hb2.size
    obtain ⟨a2, k2, e2, _, _, _, _⟩ := id hr2
    subst e2
    have N3 : Hid (Below W0.heap.size W0 (w2.alloc (.cells #[.slice a2 q1.length k2] 39)) ∧ DiskR (w2.alloc (.cells #[.slice a2 q1.length k2] 39)) (.slice a2 q1.length k2) q1 ∧ BX 39 (w2.alloc (.cells #[.slice a2 q1.length k2] 39)) w2.heap.size #[.slice a2 q1.length k2] ∧ Reads .u8 (w2.alloc (.cells #[.slice a2 q1.length k2] 39)) (.slice ea eb.length ec) eb) := ⟨A2.alloc A2.size _, hr2.below (below_alloc _ _) (Nat.le_refl _), BX.new _ _ _, (R1.out.below hb2 (Nat.le_refl _)).below (below_alloc _ _) (by omega)⟩
    clear hr2 hb2 p0 z0 zf A2 hs2
    go_upto_region 5 with fail
    generalize w2.alloc (.cells #[.slice a2 q1.length k2] 39) = w3 at *
    generalize w2.heap.size = b3 at *
    obtain ⟨A3', D3', X3', R3'⟩ := N3.out
    have A3 : Hid (Below W0.heap.size W0 w3) := A3'
    have D3 : Hid (DiskR w3 (.slice a2 q1.length k2) q1) := D3'
    have R3 : Hid (Reads .u8 w3 (.slice ea eb.length ec) eb) := R3'
    have hs3 := A3'.size
    obtain ⟨x0, _⟩ := X3'.all1
    obtain ⟨⟨p0, z0, zf⟩, _⟩ := HK.out _ A3'
    clear A3' D3' X3' R3' N3 R1
    rcases FQ with ⟨rfl, hmy, rfl⟩ | ⟨rfl, hmy, hlf⟩ | ⟨rfl, hmy⟩
    · have EY : Hid (putE fs (eb, 0) = chF (lessF fs) (appendF (lessF fs) nxt eb)) := putE_yes (r := (eb, 0)) rfl hmy
      have HGL : Hid (Good (lessF fs)) := good_less HG.out
      clear hmy
      go_wp2_with fail
      refine (diskAppend_any _ (lessF fs) nxt _ eb _ D3.out HGL.out nxt_size R3.out HEB.out).mono ?_
      rintro e w4 ⟨v4, rfl, hr4, hb4⟩
      have A4 : Hid (Below W0.heap.size W0 w4) := A3.out.trans (hb4.mono hs3)
      have D4 : Hid (∀ y, DiskR (w4.setCell ⟨w.heap.size + 2, 0, none⟩ y) v4 (chF (lessF fs) (appendF (lessF fs) nxt eb)).1) := fun y => hr4.setBox (HK.out _ A4.out).2.2.2
      obtain ⟨a4, k4, rfl, _, _, _, _⟩ := hr4
      clear p0 z0 zf x0
      obtain ⟨⟨p0, z0, zf⟩, _⟩ := HK.out _ A4.out
      clear hb4
      generalize chF (lessF fs) (appendF (lessF fs) nxt eb) = q at *
      go_wp2_with fail
      obtain ⟨rx, rb⟩ := ZX.out w4 (.slice a4 q.1.length k4) A4.out
      obtain ⟨r0, _⟩ := rx.all1
      refine bodyPost_ret (v := .tuple #[.agg #[.slice a4 q.1.length k4], .int .i64 q.2]) (by simp [results, Tryz.results10, go_sem, r0]) rfl ?_
      rw [EY.out]
      exact ⟨_, rfl, D4.out _, rb⟩
    · have EY : Hid (putE fs (eb, 0) = chF fs (appendF fs nxt eb)) := by show _ = _; rw [putE_yes (r := (eb, 0)) rfl hmy, hlf]
      clear hlf
      clear hmy
      go_wp2_with fail
      refine (diskAppend_any _ fs nxt _ eb _ (HK.out _ A3.out).2.2.1 HG.out nxt_size R3.out HEB.out).mono ?_
      rintro e w4 ⟨v4, rfl, hr4, hb4⟩
      have A4 : Hid (Below W0.heap.size W0 w4) := A3.out.trans (hb4.mono hs3)
      have D4 : Hid (∀ y, DiskR (w4.setCell ⟨w.heap.size + 2, 0, none⟩ y) v4 (chF fs (appendF fs nxt eb)).1) := fun y => hr4.setBox (HK.out _ A4.out).2.2.2
      obtain ⟨a4, k4, rfl, _, _, _, _⟩ := hr4
      clear p0 z0 zf x0
      obtain ⟨⟨p0, z0, zf⟩, _⟩ := HK.out _ A4.out
      clear hb4
      generalize chF fs (appendF fs nxt eb) = q at *
      go_wp2_with fail
      obtain ⟨rx, rb⟩ := ZX.out w4 (.slice a4 q.1.length k4) A4.out
      obtain ⟨r0, _⟩ := rx.all1
      refine bodyPost_ret (v := .tuple #[.agg #[.slice a4 q.1.length k4], .int .i64 q.2]) (by simp [results, Tryz.results10, go_sem, r0]) rfl ?_
      rw [EY.out]
      exact ⟨_, rfl, D4.out _, rb⟩
    · have EN : Hid (putE fs (eb, 0) = ([], 9)) := putE_no rfl hmy
      clear hmy
      go_wp2_with fail
      obtain ⟨rx, rb⟩ := ZX.out w3 (.slice none 0 0) A3.out
      obtain ⟨r0, _⟩ := rx.all1
      refine bodyPost_ret (v := .tuple #[.agg #[.slice none 0 0], .int .i64 9]) (by simp [results, Tryz.results10, go_sem, r0]) rfl ?_
      rw [EN.out]
      exact ⟨_, rfl, diskR_nil _, rb⟩
end Go.Proofs.YtkgdenbabafeoaaGreatDoor

namespace Go.Proofs.YtkgdenbabafeoaaGreatDoor
set_option maxRecDepth 100000
open Go.ChangeShapes Go.WideShapes Go.ChangeAt Go.RowKit

/-- The slots' names. -/
def slot0 : ByteArray := ⟨#[115, 97, 118, 101, 45, 48]⟩
def slot1 : ByteArray := ⟨#[115, 97, 118, 101, 45, 49]⟩
def slotB (n : Int) : ByteArray := if n = 0 then slot0 else slot1
theorem slotB_size (n : Int) : (slotB n).size = 6 := by
  unfold slotB
  split <;> rfl

set_option maxHeartbeats 400000 in
theorem small0 (w : World) : Calls Tryz.prog 98 #[.int .i64 0] w fun e w' => e = .returned (.string ⟨#[48]⟩) ∧ w' = w := by
  go_enter Tryz.func98, Tryz.ntmps98
  go_wp2_with fail
  go_ret
  exact ⟨rfl, rfl⟩
set_option maxHeartbeats 400000 in
set_option maxRecDepth 100000 in
theorem format0 (w : World) : Calls Tryz.prog 84 #[.int .i64 0, .int .i64 10] w fun e w' => e = .returned (.string ⟨#[48]⟩) ∧ w' = w := by
  go_enter Tryz.func84, Tryz.ntmps84
  go_wp2_with fail
  refine (small0 _).mono ?_
  rintro e w1 ⟨rfl, e1⟩
  have e1' : w = w1 := e1.symm
  subst e1'
  clear e1
  go_wp2_with fail
  go_ret
  exact ⟨rfl, rfl⟩
set_option maxHeartbeats 400000 in
theorem itoaIn0 (w : World) : Calls Tryz.prog 72 #[.int .i64 0] w fun e w' => e = .returned (.string ⟨#[48]⟩) ∧ w' = w := by
  go_enter Tryz.func72, Tryz.ntmps72
  go_wp2_with fail
  refine (format0 _).mono ?_
  rintro e w1 ⟨rfl, e1⟩
  have e1' : w = w1 := e1.symm
  subst e1'
  clear e1
  go_wp2_with fail
  go_ret
  exact ⟨rfl, rfl⟩
set_option maxHeartbeats 400000 in
theorem itoa0 (w : World) : Calls Tryz.prog 52 #[.int .i64 0] w fun e w' => e = .returned (.string ⟨#[48]⟩) ∧ w' = w := by
  go_enter Tryz.func52, Tryz.ntmps52
  go_wp2_with fail
  refine (itoaIn0 _).mono ?_
  rintro e w1 ⟨rfl, e1⟩
  have e1' : w = w1 := e1.symm
  subst e1'
  clear e1
  go_wp2_with fail
  go_ret
  exact ⟨rfl, rfl⟩
set_option maxHeartbeats 400000 in
theorem slotName0 (w : World) : Calls Tryz.prog 28 #[.int .i64 0] w fun e w' => e = .returned (.tuple #[.string slot0, .int .i64 0]) ∧ w' = w := by
  go_enter Tryz.func28, Tryz.ntmps28
  go_wp2_with fail
  refine (itoa0 _).mono ?_
  rintro e w1 ⟨rfl, e1⟩
  have e1' : w = w1 := e1.symm
  subst e1'
  clear e1
  go_wp2_with fail
  refine bodyPost_ret (v := .tuple #[.string slot0, .int .i64 0]) ?_ rfl ⟨rfl, rfl⟩
  simp [results, Tryz.results28, go_sem]
  rfl

set_option maxHeartbeats 400000 in
theorem small1 (w : World) : Calls Tryz.prog 98 #[.int .i64 1] w fun e w' => e = .returned (.string ⟨#[49]⟩) ∧ w' = w := by
  go_enter Tryz.func98, Tryz.ntmps98
  go_wp2_with fail
  go_ret
  exact ⟨rfl, rfl⟩
set_option maxHeartbeats 400000 in
set_option maxRecDepth 100000 in
theorem format1 (w : World) : Calls Tryz.prog 84 #[.int .i64 1, .int .i64 10] w fun e w' => e = .returned (.string ⟨#[49]⟩) ∧ w' = w := by
  go_enter Tryz.func84, Tryz.ntmps84
  go_wp2_with fail
  refine (small1 _).mono ?_
  rintro e w1 ⟨rfl, e1⟩
  have e1' : w = w1 := e1.symm
  subst e1'
  clear e1
  go_wp2_with fail
  go_ret
  exact ⟨rfl, rfl⟩
set_option maxHeartbeats 400000 in
theorem itoaIn1 (w : World) : Calls Tryz.prog 72 #[.int .i64 1] w fun e w' => e = .returned (.string ⟨#[49]⟩) ∧ w' = w := by
  go_enter Tryz.func72, Tryz.ntmps72
  go_wp2_with fail
  refine (format1 _).mono ?_
  rintro e w1 ⟨rfl, e1⟩
  have e1' : w = w1 := e1.symm
  subst e1'
  clear e1
  go_wp2_with fail
  go_ret
  exact ⟨rfl, rfl⟩
set_option maxHeartbeats 400000 in
theorem itoa1 (w : World) : Calls Tryz.prog 52 #[.int .i64 1] w fun e w' => e = .returned (.string ⟨#[49]⟩) ∧ w' = w := by
  go_enter Tryz.func52, Tryz.ntmps52
  go_wp2_with fail
  refine (itoaIn1 _).mono ?_
  rintro e w1 ⟨rfl, e1⟩
  have e1' : w = w1 := e1.symm
  subst e1'
  clear e1
  go_wp2_with fail
  go_ret
  exact ⟨rfl, rfl⟩
set_option maxHeartbeats 400000 in
theorem slotName1 (w : World) : Calls Tryz.prog 28 #[.int .i64 1] w fun e w' => e = .returned (.tuple #[.string slot1, .int .i64 0]) ∧ w' = w := by
  go_enter Tryz.func28, Tryz.ntmps28
  go_wp2_with fail
  refine (itoa1 _).mono ?_
  rintro e w1 ⟨rfl, e1⟩
  have e1' : w = w1 := e1.symm
  subst e1'
  clear e1
  go_wp2_with fail
  refine bodyPost_ret (v := .tuple #[.string slot1, .int .i64 0]) ?_ rfl ⟨rfl, rfl⟩
  simp [results, Tryz.results28, go_sem]
  rfl

set_option maxHeartbeats 400000 in
theorem slotName_no (n : Int) (h : ¬ (0 ≤ n ∧ n ≤ 1)) (w : World) : Calls Tryz.prog 28 #[.int .i64 n] w fun e w' => e = .returned (.tuple #[.string ByteArray.empty, .int .i64 2]) ∧ w' = w := by
  by_cases h0 : n < 0
  · go_enter Tryz.func28, Tryz.ntmps28
    go_wp2_with fail
    exact bodyPost_ret (v := .tuple #[.string ByteArray.empty, .int .i64 2]) (by simp [results, Tryz.results28, go_sem]; rfl) rfl ⟨rfl, rfl⟩
  · have h1 : 2 ≤ n := by omega
    go_enter Tryz.func28, Tryz.ntmps28
    go_wp2_with fail
    exact bodyPost_ret (v := .tuple #[.string ByteArray.empty, .int .i64 2]) (by simp [results, Tryz.results28, go_sem]; rfl) rfl ⟨rfl, rfl⟩
theorem slotName_yes (n : Int) (h : 0 ≤ n ∧ n ≤ 1) (w : World) : Calls Tryz.prog 28 #[.int .i64 n] w fun e w' => e = .returned (.tuple #[.string (slotB n), .int .i64 0]) ∧ w' = w := by
  by_cases h0 : n = 0
  · subst h0
    exact slotName0 w
  · have h1 : n = 1 := by omega
    subst h1
    exact slotName1 w
end Go.Proofs.YtkgdenbabafeoaaGreatDoor

namespace Go.Proofs.YtkgdenbabafeoaaGreatDoor
set_option maxRecDepth 100000
open Go.ChangeShapes Go.WideShapes Go.ChangeAt Go.RowKit

/-- P3.3 -/
def readF (fs : List FileL) (n : ByteArray) : List Int × Int :=
  if mayB fs = true then if atF fs n < 0 then ([], 7) else ((fs.getD (atF fs n).toNat noF).data, 0) else ([], 9)
theorem readF_may {fs : List FileL} {n : ByteArray} (h : mayB fs = false) : readF fs n = ([], 9) := by simp [readF, h]
theorem readF_none {fs : List FileL} {n : ByteArray} (h : mayB fs = true) (ha : atF fs n = -1) : readF fs n = ([], 7) := by simp [readF, h, ha]
theorem readF_some {fs : List FileL} {n : ByteArray} {k : Nat} (h : mayB fs = true) (ha : atF fs n = k) : readF fs n = ((fs.getD k noF).data, 0) := by
  simp only [readF, h, ha, if_true]
  rw [if_neg (by omega)]; simp
theorem reads_nil (w : World) : Reads .u8 w (.slice none 0 0) [] := ⟨none, 0, rfl, by simp, by simp [maxLen], fun _ => rfl, fun x hx => by cases hx⟩
theorem readF_bytes {fs : List FileL} {n : ByteArray} (hg : Good fs) : ∀ x ∈ (readF fs n).1, 0 ≤ x ∧ x ≤ 255 := by
  cases hm : mayB fs with
  | false => rw [readF_may hm]; simp
  | true =>
    rcases atF_cases fs n with ⟨k, hk, e, _, _⟩ | ⟨e, _⟩
    · rw [readF_some hm e]; exact (hg k hk).1
    · rw [readF_none hm e]; simp

set_option maxHeartbeats 800000 in
set_option maxRecDepth 100000 in
theorem read_own (v : Value) (fs : List FileL) (n : ByteArray) (w : World) (h : DiskR w v fs) (hg : Good fs) :
    Calls Tryz.prog 34 #[.agg #[v], .string n] w fun e w' => ∃ v', e = .returned (.tuple #[v', .int .i64 (readF fs n).2]) ∧ w'.ownsRow w.heap.size 5 1 v' (readF fs n).1.length ((readF fs n).1.map (Value.int .u8)) ∧ Below w.heap.size w w' := by
  have HG : Hid (Good fs) := hg
  have HD : Hid (DiskR w v fs) := h
  obtain ⟨a, cap, rfl, hc, hm, ha, hel⟩ := h
  have HEL : Hid (0 < fs.length → ∃ b off, a = some ⟨b, off, none⟩ ∧ b < w.heap.size ∧ ∃ vs : Nat → Value, ∀ i, i < fs.length → FileC w b (off + i * 3) (vs i) (fs.getD i noF)) := hel
  clear ha hel hg
  unfold maxLen at hm
  have HD2 : Hid (∀ o1 o2, DiskR ((w.alloc o1).alloc o2) (.slice a fs.length cap) fs) := fun o1 o2 => (HD.out.below (below_alloc _ o1) (Nat.le_refl _)).below (below_alloc _ o2) (Nat.le_refl _)
  go_enter Tryz.func34, Tryz.ntmps34
  go_wp2_with fail
  refine (mayBe_any (w.heap.size + 1) (.slice a fs.length cap) fs _ ?_ ?_ HG.out).mono ?_
  · exact cell_second _ _ _ _
  · exact HD2.out _ _
  rintro e w1 ⟨rfl, hb1⟩
  have hb1' : Below (w.heap.size + 2) ((w.alloc (.cells #[.slice a fs.length cap] 39)).alloc (.cells #[.slice a fs.length cap] 98)) w1 := by simpa using hb1
  have r1 : w1.cell? ⟨w.heap.size + 1, 0, none⟩ = some (.slice a fs.length cap) := (hb1'.cell (p := ⟨w.heap.size + 1, 0, none⟩) (Nat.lt_succ_self _)).trans (cell_second _ _ _ _)
  have B1 : Hid (Below w.heap.size w w1) := below_two hb1'
  have D1 : Hid (DiskR w1 (.slice a fs.length cap) fs) := HD.out.below B1.out (Nat.le_refl _)
  have hs1 : w.heap.size + 2 ≤ w1.heap.size := by have := hb1'.size; simp at this; omega
  clear hb1 hb1'
  cases hmay : mayB fs with
  | false =>
    have HF : Hid (readF fs n = ([], 9)) := readF_may hmay
    clear hmay
    go_wp2_with fail
    go_ret2
    exact ⟨.slice none 0 0, by rw [HF.out]; rfl, by rw [HF.out]; exact World.ownsRow_nil _ _ _ _, B1.out⟩
  | true =>
    go_wp2_with fail
    refine (find_any (w.heap.size + 1) (.slice a fs.length cap) fs n _ r1 D1.out).mono ?_
    rintro e w2 ⟨rfl, hb2⟩
    have r2 : w2.cell? ⟨w.heap.size + 1, 0, none⟩ = some (.slice a fs.length cap) := (hb2.cell (p := ⟨w.heap.size + 1, 0, none⟩) (show w.heap.size + 1 < w1.heap.size by omega)).trans r1
    have B2 : Hid (Below w.heap.size w w2) := B1.out.trans (hb2.mono (by omega))
    clear hb2
    rcases atF_cases fs n with ⟨k, hk, e, _, _⟩ | ⟨e, _⟩
    · have HF : Hid (readF fs n = ((fs.getD k noF).data, 0)) := readF_some hmay e
      obtain ⟨b, off, rfl, lt, vs, hv⟩ := HEL.out (by omega)
      obtain ⟨c1, c2, c3, c4⟩ := (hv k hk).below B2.out (Nat.le_refl _)
      have RD : Hid (Reads .u8 w2 (vs k) (fs.getD k noF).data) := c4
      have hdl : (fs.getD k noF).data.length ≤ 140737488355328 := by have := (HG.out k hk).2.2.2.2; omega
      obtain ⟨da, dn, dc, hdv⟩ : ∃ a n c, vs k = .slice a n c := by obtain ⟨a, c, h, _⟩ := c4; exact ⟨_, _, _, h⟩
      rw [hdv] at c2
      rw [hdv] at RD
      rw [e]
      clear c1 c3 c4 hv hdv e hmay
      generalize fs.getD k noF = f at *
      go_wp2_with fail
      refine (clone_any _ f.data _ RD.out hdl).mono ?_
      rintro e w3 ⟨v3, rfl, ho3, hb3⟩
      have R3 : Hid (w3.ownsRow w.heap.size 5 1 v3 f.data.length (f.data.map (Value.int .u8))) := own_lower ho3 B2.out.size
      have B3 : Hid (Below w.heap.size w w3) := B2.out.trans (hb3.mono B2.out.size)
      clear ho3 hb3
      go_wp2_with fail
      go_ret2
      exact ⟨v3, by rw [HF.out]; rfl, by rw [HF.out]; exact R3.out, B3.out⟩
    · have HF : Hid (readF fs n = ([], 7)) := readF_none hmay e
      rw [e]
      clear e hmay
      go_wp2_with fail
      go_ret2
      exact ⟨.slice none 0 0, by rw [HF.out]; rfl, by rw [HF.out]; exact World.ownsRow_nil _ _ _ _, B2.out⟩

theorem read_any (v : Value) (fs : List FileL) (n : ByteArray) (w : World) (h : DiskR w v fs) (hg : Good fs) :
    Calls Tryz.prog 34 #[.agg #[v], .string n] w fun e w' => ∃ v', e = .returned (.tuple #[v', .int .i64 (readF fs n).2]) ∧ Reads .u8 w' v' (readF fs n).1 ∧ Below w.heap.size w w' :=
  (read_own v fs n w h hg).mono fun _ _ ⟨v', h1, h2, h3⟩ => ⟨v', h1, reads_own h2, h3⟩

end Go.Proofs.YtkgdenbabafeoaaGreatDoor

namespace Go.Proofs.YtkgdenbabafeoaaGreatDoor
set_option maxRecDepth 100000
open Go.ChangeShapes Go.WideShapes Go.ChangeAt Go.RowKit

set_option maxHeartbeats 400000 in
theorem bytesEqual_any (va vb : Value) (xs ys : List Int) (w : World) (ha : Reads .u8 w va xs) (hb : Reads .u8 w vb ys) (hx : ∀ x ∈ xs, 0 ≤ x ∧ x ≤ 255) (hy : ∀ x ∈ ys, 0 ≤ x ∧ x ≤ 255) :
    Calls Tryz.prog 25 #[va, vb] w fun e w' => e = .returned (.bool (decide (xs = ys))) ∧ w' = w := by
  have ca := ha.convert
  have cb := hb.convert
  clear ha hb
  go_enter Tryz.func25, Tryz.ntmps25
  go_wp2
  go_ret
  refine ⟨ret_bool ?_, rfl⟩
  have e := strOfNums_eq hx hy
  by_cases h : xs = ys
  · subst h; simp
  · have h2 : ¬ (strOfNums xs).toList = (strOfNums ys).toList := fun h3 => h (e.1 h3)
    simp [h, h2]

end Go.Proofs.YtkgdenbabafeoaaGreatDoor

namespace Go.Proofs.YtkgdenbabafeoaaGreatDoor
set_option maxRecDepth 100000
open Go.ChangeShapes Go.WideShapes Go.ChangeAt Go.RowKit

/-- P2.3 -/
def unwrapF (xs : List Int) : List Int × Nat × Int :=
  if (get xs).2.2 ≠ 0 then ([], 0, (get xs).2.2)
  else if 20000 < (get xs).1 then ([], 0, 1)
  else if xs.length < (get xs).2.1 + (get xs).1.toNat + 4 then ([], 0, 4)
  else if four (crc (xs.take ((get xs).2.1 + (get xs).1.toNat))) = (xs.drop ((get xs).2.1 + (get xs).1.toNat)).take 4 then
    ((xs.drop (get xs).2.1).take (get xs).1.toNat, (get xs).2.1 + (get xs).1.toNat + 4, 0)
  else ([], 0, 5)
theorem unwrapF_err {xs : List Int} {e : Int} (h : get xs = (0, 0, e)) (he : e ≠ 0) : unwrapF xs = ([], 0, e) := by simp [unwrapF, h, he]
theorem unwrapF_size {xs : List Int} {n : Int} {k : Nat} (h : get xs = (n, k, 0)) (hn : 20000 < n) : unwrapF xs = ([], 0, 1) := by simp [unwrapF, h, hn]
theorem unwrapF_short {xs : List Int} {m k : Nat} (h : get xs = ((m : Int), k, 0)) (hn : m ≤ 20000) (hl : xs.length < k + m + 4) : unwrapF xs = ([], 0, 4) := by
  have h1 : ¬ 20000 < (m : Int) := by omega
  simp [unwrapF, h, h1, hl]
theorem unwrapF_sum {xs : List Int} {m k : Nat} (h : get xs = ((m : Int), k, 0)) (hn : m ≤ 20000) (hl : k + m + 4 ≤ xs.length) (hs : ¬ four (crc (xs.take (k + m))) = (xs.drop (k + m)).take 4) : unwrapF xs = ([], 0, 5) := by
  have h1 : ¬ 20000 < (m : Int) := by omega
  have h2 : ¬ xs.length < k + m + 4 := by omega
  simp only [unwrapF, h, ne_eq, not_true_eq_false, if_false, if_neg h1, Int.toNat_natCast, if_neg h2, if_neg hs]
theorem unwrapF_ok {xs : List Int} {m k : Nat} (h : get xs = ((m : Int), k, 0)) (hn : m ≤ 20000) (hl : k + m + 4 ≤ xs.length) (hs : four (crc (xs.take (k + m))) = (xs.drop (k + m)).take 4) : unwrapF xs = ((xs.drop k).take m, k + m + 4, 0) := by
  have h1 : ¬ 20000 < (m : Int) := by omega
  have h2 : ¬ xs.length < k + m + 4 := by omega
  simp only [unwrapF, h, ne_eq, not_true_eq_false, if_false, if_neg h1, Int.toNat_natCast, if_neg h2, if_pos hs]

theorem unwrapF_bytes {xs : List Int} (hx : ∀ x ∈ xs, 0 ≤ x ∧ x ≤ 255) : ∀ x ∈ (unwrapF xs).1, 0 ≤ x ∧ x ≤ 255 := by
  intro x h
  unfold unwrapF at h
  repeat' split at h
  all_goals first | (simp at h; done) | exact hx x (List.mem_of_mem_drop (List.mem_of_mem_take h))
set_option maxHeartbeats 800000 in
set_option maxRecDepth 100000 in
theorem unwrap_tab (g : Nat) (v : Value) (xs : List Int) (w : World) (hT : Tab w g) (h : Reads .u8 w v xs) (hx : ∀ x ∈ xs, 0 ≤ x ∧ x ≤ 255) :
    Calls Tryz.prog 45 #[.pointer (some ⟨g, 0, none⟩), v] w fun e w' =>
      ∃ v', e = .returned (.tuple #[v', .int .i64 (unwrapF xs).2.1, .int .i64 (unwrapF xs).2.2]) ∧ w'.ownsRow w.heap.size 5 1 v' (unwrapF xs).1.length ((unwrapF xs).1.map (Value.int .u8)) ∧ Below w.heap.size w w' := by
  have HT : Hid (Tab w g) := hT
  have HX : Hid (∀ x ∈ xs, 0 ≤ x ∧ x ≤ 255) := hx
  have G := get_any v xs w h hx
  rcases get_inv hx with ⟨e, hg, he⟩ | ⟨n, r, hg, hr, hn0, hn1⟩
  · rw [hg] at G
    have HU : Hid (unwrapF xs = ([], 0, e)) := unwrapF_err hg he
    have HG : Hid (Calls Tryz.prog 69 #[v] w fun e' w' => e' = .returned (.tuple #[.int .u64 0, .int .i64 ((0 : Nat) : Int), .int .i64 e]) ∧ w' = w) := G
    have heb : (e != 0) = true := by simp [he]
    clear G hg hT hx h HX
    go_enter Tryz.func45, Tryz.ntmps45
    go_wp2_with fail
    refine HG.out.mono ?_
    rintro e w1 ⟨rfl, rfl⟩
    go_wp2_with fail
    go_ret3
    exact ⟨_, by rw [HU.out]; rfl, by rw [HU.out]; exact World.ownsRow_nil _ _ _ _, Below.refl _ _⟩
  · obtain ⟨m, rfl⟩ := Int.eq_ofNat_of_zero_le hn0
    rw [hg] at G
    have pl := put_len (m : Int)
    have hkl : (put (m : Int)).length ≤ xs.length := by rw [hr]; simp
    clear hr
    generalize (put (m : Int)).length = k at *
    have HGG : Hid (get xs = ((m : Int), k, 0)) := hg
    have HG : Hid (Calls Tryz.prog 69 #[v] w fun e' w' => e' = .returned (.tuple #[.int .u64 (m : Int), .int .i64 (k : Int), .int .i64 0]) ∧ w' = w) := G
    clear G hg hT hx
    by_cases hbig : 20000 < (m : Int)
    · have HU : Hid (unwrapF xs = ([], 0, 1)) := unwrapF_size HGG.out hbig
      go_enter Tryz.func45, Tryz.ntmps45
      go_wp2_with fail
      refine HG.out.mono ?_
      rintro e w1 ⟨rfl, rfl⟩
      go_wp2_with fail
      go_ret3
      exact ⟨_, by rw [HU.out]; rfl, by rw [HU.out]; exact World.ownsRow_nil _ _ _ _, Below.refl _ _⟩
    · have hm2 : m ≤ 20000 := by omega
      obtain ⟨b, off, cap, rfl, hc, hm, _, hcell⟩ := h.plain (by omega)
      have HM : Hid (cap ≤ maxLen) := hm
      unfold maxLen at hm
      by_cases hsh : xs.length < k + m + 4
      · have HU : Hid (unwrapF xs = ([], 0, 4)) := unwrapF_short HGG.out hm2 hsh
        clear h hcell
        go_enter Tryz.func45, Tryz.ntmps45
        go_wp2_with fail
        refine HG.out.mono ?_
        rintro e w1 ⟨rfl, rfl⟩
        go_wp2_with fail
        go_ret3
        exact ⟨_, by rw [HU.out]; rfl, by rw [HU.out]; exact World.ownsRow_nil _ _ _ _, Below.refl _ _⟩
      · have RU : Hid (∀ w1, Below w.heap.size w w1 → Reads .u8 w1 (.slice (some ⟨b, off, none⟩) (k + m) cap) (xs.take (k + m))) := fun w1 hb => (reads_upto hc HM.out (by omega) hcell).below hb (Nat.le_refl _)
        have RS : Hid (∀ w1, Below w.heap.size w w1 → Reads .u8 w1 (.slice (some ⟨b, off + (k + m), none⟩) 4 (cap - (k + m))) ((xs.drop (k + m)).take 4)) := fun w1 hb => by
          have := (reads_mid (u := k + m) (n := k + m + 4) hc HM.out (by omega) (by omega) hcell).below hb (Nat.le_refl _)
          simpa using this
        have RP : Hid (∀ w1, Below w.heap.size w w1 → Reads .u8 w1 (.slice (some ⟨b, off + k, none⟩) m (cap - k)) ((xs.drop k).take m)) := fun w1 hb => by
          have := (reads_mid (u := k) (n := k + m) hc HM.out (by omega) (by omega) hcell).below hb (Nat.le_refl _)
          simpa using this
        have XU : Hid (∀ x ∈ xs.take (k + m), 0 ≤ x ∧ x ≤ 255) := fun x hx => HX.out x (List.mem_of_mem_take hx)
        have XS : Hid (∀ x ∈ (xs.drop (k + m)).take 4, 0 ≤ x ∧ x ≤ 255) := fun x hx => HX.out x (List.mem_of_mem_drop (List.mem_of_mem_take hx))
        clear h hcell
        go_enter Tryz.func45, Tryz.ntmps45
        go_wp2_with fail
        refine HG.out.mono ?_
        rintro e w1 ⟨rfl, rfl⟩
        go_wp2_with fail
        refine (sumAsBytes_any g _ (xs.take (k + m)) _ HT.out (RU.out _ (Below.refl _ _)) XU.out).mono ?_
        rintro e w2 ⟨rfl, hbel2⟩
        have B2 : Hid (Below w1.heap.size w1 w2) := hbel2
        have hs2 := hbel2.size
        clear hbel2
        have hc4 : (four (crc (xs.take (k + m)))).length = 4 := rfl
        have hcl := crc_lt XU.out
        obtain ⟨s, hss⟩ : ∃ s, crc (xs.take (k + m)) = s := ⟨_, rfl⟩
        have HSS : Hid (crc (xs.take (k + m)) = s) := hss
        rw [hss] at hc4 hcl ⊢
        clear hss
        have X4 : Hid (∀ x ∈ four s, 0 ≤ x ∧ x ≤ 255) := four_bytes hcl
        have R4 : Hid (Reads .u8 (w2.alloc (.cells ((four s).map (Value.int .u8)).toArray 86)) (.slice (some ⟨w2.heap.size, 0, none⟩) 4 4) (four s)) := reads_block (heap_alloc_new _ _) (by simp [hc4, maxLen])
        have B3 : Hid (Below w1.heap.size w1 (w2.alloc (.cells ((four s).map (Value.int .u8)).toArray 86))) := B2.out.alloc hs2 _
        have RS3 : Hid (Reads .u8 (w2.alloc (.cells ((four s).map (Value.int .u8)).toArray 86)) (.slice (some ⟨b, off + (k + m), none⟩) 4 (cap - (k + m))) ((xs.drop (k + m)).take 4)) := RS.out _ B3.out
        generalize hys : (xs.drop (k + m)).take 4 = ys at *
        have HYS : Hid (List.take 4 (List.drop (k + m) xs) = ys) := hys
        clear hys RS RU
        simp only [four, List.map_cons, List.map_nil] at R4 B3 RS3 ⊢
        have cu1 : k + m < cap := by omega
        have cu2 : k + m + 4 ≤ cap := by omega
        go_wp2_with fail
        go_quiet ((go_at_call 25; exact Calls.quiet_of_same (bytesEqual_any _ _ (four s) ys _ R4.out RS3.out X4.out XS.out)))
        have BQ : Hid (Below w1.heap.size w1 ((w2.alloc (.cells #[.int .u8 ((s : Int) % 256), .int .u8 ((s : Int) / 256 % 256), .int .u8 ((s : Int) / 65536 % 256), .int .u8 ((s : Int) / 16777216)] 86)).drewN nq)) := below_drewN B3.out _
        generalize (w2.alloc (.cells #[.int .u8 ((s : Int) % 256), .int .u8 ((s : Int) / 256 % 256), .int .u8 ((s : Int) / 65536 % 256), .int .u8 ((s : Int) / 16777216)] 86)).drewN nq = w3 at *
        clear R4 B3 RS3
        have hs3 := BQ.out.size
        by_cases hsum : four s = ys
        · have HU : Hid (unwrapF xs = ((xs.drop k).take m, k + m + 4, 0)) := unwrapF_ok HGG.out hm2 (by omega) (by rw [HSS.out, HYS.out]; exact hsum)
          have hd : decide (four s = ys) = true := decide_eq_true hsum
          clear hsum
          rw [hd]
          clear hd
          have cu3 : k < cap := by omega
          go_wp2_with fail
          refine (clone_any _ ((xs.drop k).take m) _ ?_ ?_).mono ?_
          · have := RP.out _ BQ.out
            simpa using this
          · simp; omega
          rintro e w4 ⟨v4, rfl, hown4, hbel4⟩
          have O4 : Hid (w4.ownsRow w1.heap.size 5 1 v4 (unwrapF xs).1.length ((unwrapF xs).1.map (Value.int .u8))) := by show World.ownsRow _ _ _ _ _ _ _; rw [HU.out]; exact own_lower hown4 hs3
          have B4 : Hid (Below w1.heap.size w1 w4) := BQ.out.trans (hbel4.mono hs3)
          clear hown4 hbel4
          go_wp2
          go_ret3
          exact ⟨v4, by rw [HU.out]; simp, O4.out, B4.out⟩
        · have HU : Hid (unwrapF xs = ([], 0, 5)) := unwrapF_sum HGG.out hm2 (by omega) (by rw [HSS.out, HYS.out]; exact hsum)
          have hd : decide (four s = ys) = false := decide_eq_false hsum
          clear hsum
          rw [hd]
          clear hd
          go_wp2_with fail
          go_ret3
          exact ⟨_, by rw [HU.out]; rfl, by rw [HU.out]; exact World.ownsRow_nil _ _ _ _, BQ.out⟩
end Go.Proofs.YtkgdenbabafeoaaGreatDoor

namespace Go.Proofs.YtkgdenbabafeoaaGreatDoor
set_option maxRecDepth 100000
open Go.ChangeShapes Go.WideShapes Go.ChangeAt Go.RowKit

theorem four_inj {a b : Nat} (h : four a = four b) : a = b := by
  simp only [four, List.cons.injEq, and_true] at h
  omega
/-- Bytes that begin with a length, so many bytes, and four more. -/
theorem unwrapF_parts (a q t : List Int) (hl : a.length ≤ 20000) (hq : q.length = 4) :
    unwrapF (((put a.length ++ a) ++ q) ++ t) = if four (crc (put a.length ++ a)) = q then (a, (put a.length).length + a.length + 4, 0) else ([], 0, 5) := by
  have hg : get (((put a.length ++ a) ++ q) ++ t) = ((a.length : Int), (put a.length).length, 0) := by
    rw [List.append_assoc, List.append_assoc]
    exact get_put (n := (a.length : Int)) _ (by omega) (by omega)
  have hL : (put (a.length : Int) ++ a).length = (put (a.length : Int)).length + a.length := List.length_append
  have h1 : (((put a.length ++ a) ++ q) ++ t).take ((put (a.length : Int)).length + a.length) = put a.length ++ a := by
    rw [← hL, List.append_assoc, List.take_left]
  have h2 : ((((put a.length ++ a) ++ q) ++ t).drop ((put (a.length : Int)).length + a.length)).take 4 = q := by
    rw [← hL, List.append_assoc, List.drop_left, ← hq, List.take_left]
  have h3 : ((((put a.length ++ a) ++ q) ++ t).drop (put (a.length : Int)).length).take a.length = a := by
    rw [List.append_assoc, List.append_assoc, List.drop_left, List.take_left]
  have h4 : (put (a.length : Int)).length + a.length + 4 ≤ (((put a.length ++ a) ++ q) ++ t).length := by simp [hq]; omega
  split
  · rename_i hs
    rw [unwrapF_ok hg hl h4 (by rw [h1, h2]; exact hs), h3]
  · rename_i hs
    rw [unwrapF_sum hg hl h4 (by rw [h1, h2]; exact hs)]
/-- A frame's payload is had again, whatever stands behind it. -/
theorem unwrapF_wrap (a t : List Int) (hl : a.length ≤ 20000) : unwrapF (wrap a ++ t) = (a, (wrap a).length, 0) := by
  unfold wrap
  rw [unwrapF_parts a _ t hl rfl, if_pos rfl]
  simp [four]; omega

theorem split_set {l : List Int} {i : Nat} (h : i < l.length) (y : Int) : l = l.take i ++ l.getD i 0 :: l.drop (i + 1) ∧ l.set i y = l.take i ++ y :: l.drop (i + 1) := by
  constructor
  · rw [← drop_step h, List.take_append_drop]
  · rw [List.set_eq_take_append_cons_drop, if_pos h]
theorem crc_set {l : List Int} {i : Nat} {y : Int} (hx : ∀ x ∈ l, 0 ≤ x ∧ x ≤ 255) (h : i < l.length) (hy : 0 ≤ y ∧ y ≤ 255) (hne : y ≠ l.getD i 0) : crc (l.set i y) ≠ crc l := by
  obtain ⟨h1, h2⟩ := split_set h y
  have hg : l.getD i 0 ∈ l := by rw [List.getD_eq_getElem?_getD, List.getElem?_eq_getElem h]; exact List.getElem_mem h
  have := crc_changed (l.take i) (l.drop (i + 1)) y (l.getD i 0) (fun z hz => hx z (List.mem_of_mem_take hz)) (fun z hz => hx z (List.mem_of_mem_drop hz)) hy (hx _ hg) hne
  rwa [← h1, ← h2] at this
theorem crc_set_xor {l : List Int} {i : Nat} {y : Int} (h : i < l.length) : crc l ^^^ crc (l.set i y) = farN (l.length - i) ((l.getD i 0).toNat ^^^ y.toNat) := by
  obtain ⟨h1, h2⟩ := split_set h y
  have := crc_turn (l.take i) (l.drop (i + 1)) (l.getD i 0) y
  rw [← h1, ← h2, List.length_drop] at this
  rw [this]
  congr 1
  omega
/-- One changed byte of a payload or its sum is told. -/
theorem unwrapF_changed {a : List Int} {i : Nat} {y : Int} (hx : ∀ x ∈ a, 0 ≤ x ∧ x ≤ 255) (hl : a.length ≤ 20000) (h0 : (put (a.length : Int)).length ≤ i) (h1 : i < (wrap a).length) (hy : 0 ≤ y ∧ y ≤ 255) (hne : y ≠ (wrap a).getD i 0) :
    unwrapF ((wrap a).set i y) = ([], 0, 5) := by
  rw [wrap_len] at h1
  have hL : (put (a.length : Int) ++ a).length = (put (a.length : Int)).length + a.length := List.length_append
  have hhb := head_bytes hx hl
  by_cases hi : i < (put (a.length : Int)).length + a.length
  · have e : (wrap a).set i y = ((put ((a.set (i - (put (a.length : Int)).length) y).length : Int) ++ a.set (i - (put (a.length : Int)).length) y) ++ four (crc (put a.length ++ a))) ++ [] := by
      unfold wrap
      rw [List.set_append_left _ _ (by omega), List.set_append_right _ _ h0, List.length_set, List.append_nil]
    have hcrc : crc ((put (a.length : Int) ++ a).set i y) ≠ crc (put (a.length : Int) ++ a) := by
      refine crc_set hhb (by omega) hy ?_
      intro hh
      apply hne
      rw [hh]
      show (put (a.length : Int) ++ a).getD i 0 = ((put (a.length : Int) ++ a) ++ four (crc (put (a.length : Int) ++ a))).getD i 0
      have hi2 : i < (put (a.length : Int) ++ a).length := by omega
      generalize put (a.length : Int) ++ a = hd at *
      rw [List.getD_eq_getElem?_getD, List.getD_eq_getElem?_getD, List.getElem?_append_left hi2]
    rw [e, unwrapF_parts _ _ _ (by rw [List.length_set]; exact hl) rfl, if_neg]
    intro hh
    have h2 := four_inj hh
    rw [List.length_set] at h2
    apply hcrc
    rw [List.set_append_right _ _ h0]
    exact h2
  · have e : (wrap a).set i y = ((put (a.length : Int) ++ a) ++ (four (crc (put a.length ++ a))).set (i - (put (a.length : Int) ++ a).length) y) ++ [] := by
      unfold wrap
      rw [List.set_append_right _ _ (by omega), List.append_nil]
    rw [e, unwrapF_parts _ _ _ hl (by rw [List.length_set]; rfl), if_neg]
    intro hh
    apply hne
    have hb : i - (put (a.length : Int) ++ a).length < (four (crc (put (a.length : Int) ++ a))).length := by show _ < 4; omega
    unfold wrap
    rw [List.getD_eq_getElem?_getD, List.getElem?_append_right (by omega), hh, List.getElem?_set_self hb]
    rfl
end Go.Proofs.YtkgdenbabafeoaaGreatDoor

namespace Go.Proofs.YtkgdenbabafeoaaGreatDoor
set_option maxRecDepth 100000

/-- A number, 0 where there is none, and what is left. -/
def numC (l : List Int) : Int × List Int := (IntKind.i64.wrap (get l).1, l.drop (get l).2.1)
/-- A count, at most as many as there are bytes. -/
def cntC (l : List Int) : Int × List Int := (min (numC l).1 ((numC l).2.length : Int), (numC l).2)
/-- So many pairs of numbers, each less d, and what is left. -/
def pairsK (d : Int) : Nat → List Int → List Ml × List Int
  | 0, l => ([], l)
  | k + 1, l => ((pairsK d k l).1 ++ [(IntKind.i64.wrap ((numC (pairsK d k l).2).1 - d), IntKind.i64.wrap ((numC (numC (pairsK d k l).2).2).1 - d))], (numC (numC (pairsK d k l).2).2).2)
/-- What is made of a payload. -/
def parseC (l : List Int) : SvS :=
  let l3 := (numC (numC (numC l).2).2).2
  let q := pairsK 1 (cntC l3).1.toNat (cntC l3).2
  ⟨(numC l).1, (numC (numC l).2).1, (numC (numC (numC l).2).2).1 == 1, q.1, (pairsK 0 (cntC q.2).1.toNat (cntC q.2).2).1⟩
/-- P14.3 -/
def decS (b : List Int) : SvS × Int :=
  if (unwrapF b).2.2 = 0 then (if encS (parseC (unwrapF b).1) = (b, 0) then (parseC (unwrapF b).1, 0) else (sv0, 3)) else (sv0, (unwrapF b).2.2)
theorem numC_put {n : Int} (t : List Int) (h0 : 0 ≤ n) (h1 : n ≤ 4398046511105) : numC (put n ++ t) = (n, t) := by
  unfold numC
  rw [get_put t h0 (by omega), List.drop_left, IntKind.wrap_i64]
  congr 1
  omega
theorem numC_bytes {l : List Int} (h : ∀ x ∈ l, 0 ≤ x ∧ x ≤ 255) : ∀ x ∈ (numC l).2, 0 ≤ x ∧ x ≤ 255 := fun x hx => h x (List.mem_of_mem_drop hx)
theorem numC_len (l : List Int) : (numC l).2.length ≤ l.length := by unfold numC; rw [List.length_drop]; omega
theorem cntC_put {n : Nat} (t : List Int) (h0 : n ≤ t.length) (h1 : n ≤ 5000) : cntC (put (n : Int) ++ t) = ((n : Int), t) := by
  unfold cntC
  rw [numC_put t (by omega) (by omega)]
  simp only
  rw [Int.min_eq_left (by omega)]
theorem bytN_ge : ∀ l : List Int, l.length ≤ (bytN l).length
  | [] => Nat.le_refl _
  | n :: l => by
    have := bytN_ge l
    have h := put_len n
    show l.length + 1 ≤ (put n ++ bytN l).length
    rw [List.length_append]
    omega
theorem pairsK_bytes {d : Int} {l : List Int} (h : ∀ x ∈ l, 0 ≤ x ∧ x ≤ 255) : ∀ k, ∀ x ∈ (pairsK d k l).2, 0 ≤ x ∧ x ≤ 255
  | 0 => h
  | k + 1 => numC_bytes (numC_bytes (pairsK_bytes h k))
theorem pairsK_count (d : Int) (l : List Int) : ∀ k, (pairsK d k l).1.length = k
  | 0 => rfl
  | k + 1 => by show ((pairsK d k l).1 ++ [_]).length = _; rw [List.length_append, pairsK_count d l k]; rfl
theorem pairsK_len (d : Int) (l : List Int) : ∀ k, (pairsK d k l).2.length ≤ l.length
  | 0 => Nat.le_refl _
  | k + 1 => Nat.le_trans (numC_len _) (Nat.le_trans (numC_len _) (pairsK_len d l k))
/-- Pairs that were written are had again. -/
theorem pairsK_put (d : Int) (hd : d = 0 ∨ d = 1) (t : List Int) : ∀ (k : Nat) (ms : List Ml), k ≤ ms.length → (∀ x ∈ ms, 0 ≤ x.1 + d ∧ x.1 + d ≤ 4398046511105 ∧ 0 ≤ x.2 + d ∧ x.2 + d ≤ 4398046511105) →
    pairsK d k (bytN (pairN d ms) ++ t) = (ms.take k, bytN (pairN d (ms.drop k)) ++ t)
  | 0, ms, _, _ => rfl
  | k + 1, ms, hk, h => by
    have ih := pairsK_put d hd t k ms (by omega) h
    obtain ⟨x, hx⟩ : ∃ x, ms[k]? = some x := ⟨ms[k], List.getElem?_eq_getElem (by omega)⟩
    have hb := h x (List.mem_of_getElem? hx)
    have e : ms.drop k = x :: ms.drop (k + 1) := by
      rw [List.drop_eq_getElem_cons (by omega)]
      rw [List.getElem?_eq_getElem (by omega)] at hx
      injection hx with hx
      rw [hx]
    have e2 : bytN (pairN d (ms.drop k)) ++ t = put (x.1 + d) ++ (put (x.2 + d) ++ (bytN (pairN d (ms.drop (k + 1))) ++ t)) := by
      rw [e]
      show (put (x.1 + d) ++ (put (x.2 + d) ++ bytN (pairN d (ms.drop (k + 1))))) ++ t = _
      simp only [List.append_assoc]
    unfold pairsK
    rw [ih]
    simp only
    rw [e2, numC_put _ hb.1 hb.2.1]
    simp only
    rw [numC_put _ hb.2.2.1 hb.2.2.2, take_snoc hx]
    have w1 : IntKind.i64.wrap (x.1 + d - d) = x.1 := by rw [IntKind.wrap_i64]; rcases hd with rfl | rfl <;> omega
    have w2 : IntKind.i64.wrap (x.2 + d - d) = x.2 := by rw [IntKind.wrap_i64]; rcases hd with rfl | rfl <;> omega
    rw [w1, w2]
/-- What was saved is found again. -/
theorem parse_enc {s : SvS} (h : svMay s = true) : parseC (bytN (numsS s)) = s := by
  obtain ⟨⟨h1, h2, h3⟩, h4, h5, h6, _, h7⟩ := svMay_iff.1 h
  have e : bytN (numsS s) = put s.step ++ (put s.phase ++ (put (if s.fresh then 1 else 0) ++ (put (s.vals.length : Int) ++ (bytN (pairN 1 s.vals) ++ (put (s.mail.length : Int) ++ (bytN (pairN 0 s.mail) ++ [])))))) := by
    unfold numsS
    rw [bytN_app, bytN_app, bytN_app, bytN_one]
    show (put s.step ++ (put s.phase ++ (put (if s.fresh then 1 else 0) ++ (put (s.vals.length : Int) ++ [])))) ++ _ = _
    simp only [List.append_assoc, List.append_nil]
  have v1 : ∀ x ∈ s.vals, 0 ≤ x.1 + 1 ∧ x.1 + 1 ≤ 4398046511105 ∧ 0 ≤ x.2 + 1 ∧ x.2 + 1 ≤ 4398046511105 := fun x hx => by
    have := valS_iff.1 (valA_iff.1 h5 x hx); omega
  have v2 : ∀ x ∈ s.mail, 0 ≤ x.1 + 0 ∧ x.1 + 0 ≤ 4398046511105 ∧ 0 ≤ x.2 + 0 ∧ x.2 + 0 ≤ 4398046511105 := fun x hx => by
    have := mayM_iff.1 (mayA_iff.1 h7 x hx); omega
  have l1 : s.vals.length ≤ (bytN (pairN 1 s.vals) ++ (put (s.mail.length : Int) ++ (bytN (pairN 0 s.mail) ++ []))).length := by
    have := bytN_ge (pairN 1 s.vals)
    rw [pairN_len] at this
    rw [List.length_append]
    omega
  have l2 : s.mail.length ≤ (bytN (pairN 0 s.mail) ++ []).length := by
    have := bytN_ge (pairN 0 s.mail)
    rw [pairN_len] at this
    rw [List.length_append]
    omega
  have f0 : (0 : Int) ≤ (if s.fresh then 1 else 0) ∧ (if s.fresh then (1 : Int) else 0) ≤ 4398046511105 := by cases s.fresh <;> simp
  have f1 : ((if s.fresh then (1 : Int) else 0) == 1) = s.fresh := by cases s.fresh <;> rfl
  rw [e]
  unfold parseC
  rw [numC_put _ h1 (by omega)]
  simp only
  rw [numC_put _ (by omega) (by omega)]
  simp only
  rw [numC_put _ f0.1 f0.2]
  simp only
  rw [cntC_put _ l1 (by omega)]
  simp only [Int.toNat_natCast]
  rw [pairsK_put 1 (.inr rfl) _ _ s.vals (Nat.le_refl _) v1]
  simp only [List.take_length, List.drop_length]
  show SvS.mk _ _ _ _ _ = _
  have e3 : bytN (pairN 1 ([] : List Ml)) ++ (put (s.mail.length : Int) ++ (bytN (pairN 0 s.mail) ++ [])) = put (s.mail.length : Int) ++ (bytN (pairN 0 s.mail) ++ []) := rfl
  rw [e3, cntC_put _ l2 (by omega)]
  simp only [Int.toNat_natCast]
  rw [pairsK_put 0 (.inl rfl) _ _ s.mail (Nat.le_refl _) v2]
  simp only [List.take_length]
  rw [f1]
/-- Bytes that are a form of something say what. -/
theorem enc_back {s : SvS} {b : List Int} (h : encS s = (b, 0)) : unwrapF b = (bytN (numsS s), b.length, 0) ∧ svMay s = true ∧ parseC (unwrapF b).1 = s := by
  cases hm : svMay s with
  | false => rw [encS_no hm] at h; injection h with _ h; cases h
  | true =>
    by_cases h2 : (bytN (numsS s)).length ≤ 20000
    · rw [encS_yes hm h2] at h
      injection h with h _
      have := unwrapF_wrap (bytN (numsS s)) [] h2
      rw [List.append_nil, h] at this
      refine ⟨this, rfl, ?_⟩
      rw [this]
      exact parse_enc hm
    · rw [encS_big hm h2] at h; injection h with _ h; cases h
theorem decS_yes {s : SvS} {b : List Int} (h : encS s = (b, 0)) : decS b = (s, 0) := by
  obtain ⟨h1, _, h3⟩ := enc_back h
  unfold decS
  rw [h3, if_pos (by rw [h1]), if_pos h]
theorem decS_no {b : List Int} (h0 : (unwrapF b).2.2 = 0) (h : ∀ s, encS s ≠ (b, 0)) : decS b = (sv0, 3) := by
  unfold decS
  rw [if_pos h0, if_neg (h _)]
theorem decS_err {b : List Int} (h0 : ¬ (unwrapF b).2.2 = 0) : decS b = (sv0, (unwrapF b).2.2) := by
  unfold decS
  rw [if_neg h0]
end Go.Proofs.YtkgdenbabafeoaaGreatDoor

namespace Go.Proofs.YtkgdenbabafeoaaGreatDoor
set_option maxRecDepth 100000
open Go.ChangeShapes Go.WideShapes Go.ChangeAt Go.RowKit

/-- A reader in the block q: what is left lies below it. -/
def RdC (w : World) (q : Nat) (l : List Int) : Prop := ∃ v, BX 91 w q #[v] ∧ Reads .u8 w v l ∧ (∀ a n c, v = .slice (some a) n c → a.block < q) ∧ ∀ x ∈ l, 0 ≤ x ∧ x ≤ 255
theorem RdC.lt {w : World} {q : Nat} {l : List Int} (h : RdC w q l) : q < w.heap.size := by obtain ⟨v, hq, _⟩ := h; exact hq.lt
theorem RdC.kept {S : Nat → Prop} {w w' : World} {q : Nat} {l : List Int} (h : RdC w q l) (hk : Kept S w w') (hs : ∀ k, k ≤ q → ¬ S k) : RdC w' q l := by
  obtain ⟨v, h1, h2, h3, h4⟩ := h
  exact ⟨v, h1.kept hk (hs q (Nat.le_refl _)), hk.reads h2 fun a n c e => hs _ (Nat.le_of_lt (h3 a n c e)), h3, h4⟩
theorem add_blk (p : Addr) (u : Nat) : (p.add u).block = p.block := by unfold Addr.add; split <;> rfl

set_option maxHeartbeats 800000 in
set_option maxRecDepth 100000 in
theorem cNumber_any (q : Nat) (l : List Int) (w : World) (h : RdC w q l) :
    Calls Tryz.prog 46 #[.pointer (some ⟨q, 0, none⟩)] w fun e w' => e = .returned (.int .i64 (numC l).1) ∧ RdC w' q (numC l).2 ∧ Kept (fun k => k = q) w w' ∧ w'.heap.size = w.heap.size := by
  obtain ⟨v, hq, hr, hb, hx⟩ := h
  have HG : Hid (∀ X, Reads .u8 X v l → Calls Tryz.prog 69 #[v] X fun e w' => e = .returned (.tuple #[.int .u64 (get l).1, .int .i64 (get l).2.1, .int .i64 (get l).2.2]) ∧ w' = X) := fun X hX => get_any v l X hX hx
  have HU : (get l).2.1 ≤ l.length ∧ (0 ≤ (get l).1 ∧ (get l).1 ≤ 18446744073709551615) := by
    rcases get_inv hx with ⟨e, he, hne⟩ | ⟨n, t, he, hl, h0, h1⟩
    · rw [he]; simp
    · rw [he]
      refine ⟨?_, h0, h1⟩
      show (put n).length ≤ l.length
      rw [hl]; simp
  obtain ⟨hu, hn0, hn1⟩ := HU
  have HR : Hid (Reads .u8 w v l) := hr
  obtain ⟨a, cap, rfl, hc, hm, ha, hcell⟩ := hr
  have HD : Hid (Reads .u8 w (cutV a l.length cap (get l).2.1) (l.drop (get l).2.1)) := reads_cutV HR.out hu
  have HC : Hid (numC l = (IntKind.i64.wrap (get l).1, l.drop (get l).2.1)) := rfl
  have HX : Hid (∀ x ∈ l.drop (get l).2.1, 0 ≤ x ∧ x ≤ 255) := fun x h => hx x (List.mem_of_mem_drop h)
  have HB : Hid (∀ a' n c, cutV a l.length cap (get l).2.1 = .slice (some a') n c → a'.block < q) := fun a' n c e => by
    unfold cutV at e
    injection e with e _ _
    cases a with
    | none => split at e <;> cases e
    | some p =>
      have := hb p _ _ rfl
      split at e
      · injection e with e; subst e; exact this
      · injection e with e; subst e; rw [show ((fun x : Addr => x.add (get l).2.1) p).block = p.block from add_blk _ _]; exact this
  have HQ : Hid (BX 91 w q #[.slice a l.length cap]) := hq
  have hrun : ∀ X : World, (Instr.slice 31 (.slice a l.length cap) (some (.int .i64 ((get l).2.1 : Int))) none none).run Tryz.prog X = .ok (cutV a l.length cap (get l).2.1) X := fun X => run_cutV a l.length cap (get l).2.1 hu X
  obtain ⟨c0, f0⟩ := hq.all1
  obtain ⟨sa, sl, sc, hsh⟩ : ∃ sa sl sc, cutV a l.length cap (get l).2.1 = .slice sa sl sc := ⟨_, _, _, rfl⟩
  rw [hsh] at HD HB hrun
  rw [HC.out]
  clear HC hq hcell hx hb hsh
  generalize (get l).2.2 = ge at *
  generalize hgu : (get l).2.1 = u at *
  generalize (get l).1 = gn at *
  clear hgu
  unfold maxLen at hm
  go_enter Tryz.func46, Tryz.ntmps46
  go_wp2_with fail
  refine (HG.out _ HR.out).mono ?_
  rintro e w1 ⟨rfl, e1⟩
  have e1' : w = w1 := e1.symm
  subst e1'
  clear e1
  go_wp2_with fail
  go_ret
  refine ⟨?_, ⟨_, HQ.out.set 0 _, ?_, HB.out, HX.out⟩, Kept.box _ _ _ _, ?_⟩
  · simp [IntKind.wrap_i64, wrap64]
  · exact (Kept.box w q 0 (.slice sa sl sc)).reads HD.out fun a n c e h => by have h1 := HB.out a n c e; have h2 : a.block = q := h; omega
  · simp

set_option maxHeartbeats 800000 in
set_option maxRecDepth 100000 in
theorem cCount_any (q : Nat) (l : List Int) (w : World) (h : RdC w q l) :
    Calls Tryz.prog 47 #[.pointer (some ⟨q, 0, none⟩)] w fun e w' => e = .returned (.int .i64 (cntC l).1) ∧ RdC w' q (cntC l).2 ∧ Kept (fun k => k = q) w w' ∧ w'.heap.size = w.heap.size := by
  have HC : Hid (cntC l = (min (numC l).1 ((numC l).2.length : Int), (numC l).2)) := rfl
  have HN : Hid (∀ X, RdC X q l → Calls Tryz.prog 46 #[.pointer (some ⟨q, 0, none⟩)] X fun e w' => e = .returned (.int .i64 (numC l).1) ∧ RdC w' q (numC l).2 ∧ Kept (fun k => k = q) X w' ∧ w'.heap.size = X.heap.size) := fun X hX => cNumber_any q l X hX
  have HH : Hid (RdC w q l) := h
  rw [HC.out]
  clear HC h
  generalize numC l = N at *
  obtain ⟨n, r⟩ := N
  go_enter Tryz.func47, Tryz.ntmps47
  go_wp2_with fail
  refine (HN.out _ HH.out).mono ?_
  rintro e w1 ⟨rfl, h1, h2, h3⟩
  have R1 : Hid (RdC w1 q r) := h1
  have K1 : Hid (Kept (fun k => k = q) w w1 ∧ w1.heap.size = w.heap.size) := ⟨h2, h3⟩
  obtain ⟨v, hq, hr, _, _⟩ := h1
  obtain ⟨a, cap, rfl, hc, hm, _, _⟩ := hr
  obtain ⟨c0, f0⟩ := hq.all1
  unfold maxLen at hm
  clear h2 h3 hq
  go_wp2_with fail
  go_ret
  refine ⟨?_, R1.out, K1.out⟩
  simp
end Go.Proofs.YtkgdenbabafeoaaGreatDoor

namespace Go.Proofs.YtkgdenbabafeoaaGreatDoor
set_option maxRecDepth 100000
open Go.ChangeShapes Go.WideShapes Go.ChangeAt Go.RowKit

theorem Tryz.infoV : (Tryz.prog.info? 53).map (fun i => (i.zero, i.size, i.bytes)) = some (some (.agg #[.int .i64 0, .int .i64 0]), 2, 16) := by kernel_rfl
def kV : ElK Ml := ⟨encM, 2, 25, 53, 16, .agg #[.int .i64 0, .int .i64 0], Tryz.underlying25, Tryz.infoV, rfl, by decide, encM_len, encM_one⟩
end Go.Proofs.YtkgdenbabafeoaaGreatDoor
