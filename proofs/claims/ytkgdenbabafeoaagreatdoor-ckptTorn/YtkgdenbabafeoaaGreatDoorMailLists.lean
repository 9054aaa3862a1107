/-
  Lists of lists of mail: what a call owns, what reads; append of one more list; how much mail there is (merge.count).
-/
import Derived.Test.YtkgdenbabafeoaaGreatDoorKeptMem
import Derived.Test.YtkgdenbabafeoaaGreatDoorMailMath
import Derived.Deep.AppendLies
namespace Go.Proofs.YtkgdenbabafeoaaGreatDoor
set_option maxRecDepth 100000
open Go.ChangeShapes Go.WideShapes Go.ChangeAt Go.RowKit

theorem Tryz.infoLm : (Tryz.prog.info? 26).map (fun i => (i.zero, i.size, i.bytes)) = some (some (.slice none 0 0), 1, 24) := by kernel_rfl
/-- A list of lists of mail, each of the call's own. -/
def OwnLm (w : World) (base : Nat) (v : Value) (f : List (List Ml)) : Prop :=
  ∃ vs : List Value, vs.length = f.length ∧ w.ownsRow base 26 1 v f.length vs ∧ ∀ (j : Nat) (u : Value) (l : List Ml), vs[j]? = some u → f[j]? = some l → w.ownsRow base 62 2 u l.length (l.flatMap encM)
theorem OwnLm.nil (w : World) (base : Nat) : OwnLm w base (.slice none 0 0) [] := ⟨[], rfl, World.ownsRow_nil _ _ _ _, fun j u l h => by simp at h⟩
theorem OwnLm.row {w : World} {base : Nat} {v : Value} {f : List (List Ml)} (h : OwnLm w base v f) : ∃ vs, w.ownsRow base 26 1 v f.length vs := by obtain ⟨vs, _, h, _⟩ := h; exact ⟨vs, h⟩
theorem own_geM {w : World} {base n size g : Nat} {e : TypeId} {v : Value} {xs : List Value} (h : w.ownsRow base e size v n xs) (hg : v.ownBlock = some g) : base ≤ g ∧ g < w.heap.size := h.lt g hg
theorem OwnLm.kept {S : Nat → Prop} {w w' : World} {base : Nat} {v : Value} {f : List (List Ml)} (h : OwnLm w base v f) (hk : Kept S w w') (hs : ∀ g, base ≤ g → ¬ S g) : OwnLm w' base v f := by
  obtain ⟨vs, h1, h2, h3⟩ := h
  exact ⟨vs, h1, hk.own h2 fun g hg => hs g (own_geM h2 hg).1, fun j u l hu hl => hk.own (h3 j u l hu hl) fun g hg => hs g (own_geM (h3 j u l hu hl) hg).1⟩
/-- Boxes of another type are written. -/
theorem OwnLm.box {w : World} {base q i : Nat} {v u : Value} {f : List (List Ml)} {cs : Array Value} {t : TypeId} {fr : Nat × Nat} (h : OwnLm w base v f) (hq : w.heap[q]? = some (.cells cs t fr)) (h1 : 26 ≠ t) (h2 : 62 ≠ t) : OwnLm (w.setCell ⟨q, i, none⟩ u) base v f := by
  obtain ⟨vs, k1, k2, k3⟩ := h
  exact ⟨vs, k1, (Kept.box w q i u).own k2 fun g hg => own_block k2 hg hq h1, fun j x l hx hl => (Kept.box w q i u).own (k3 j x l hx hl) fun g hg => own_block (k3 j x l hx hl) hg hq h2⟩
theorem OwnLm.lower {w : World} {base b : Nat} {v : Value} {f : List (List Ml)} (h : OwnLm w base v f) (hb : b ≤ base) : OwnLm w b v f := by
  obtain ⟨vs, h1, h2, h3⟩ := h
  exact ⟨vs, h1, own_lower h2 hb, fun j u l hu hl => own_lower (h3 j u l hu hl) hb⟩
/-- Another list of lists grows. -/
theorem OwnLm.grown {w w' : World} {base b n : Nat} {v r : Value} {f : List (List Ml)} {xs : List Value} (h : OwnLm w base v f) (hr : w.ownsRow b 26 1 r n xs) (hg : w.grownBy w' r.ownBlock) (ha : v.ownBlock = none ∨ v.ownBlock ≠ r.ownBlock) : OwnLm w' base v f := by
  obtain ⟨vs, h1, h2, h3⟩ := h
  exact ⟨vs, h1, h2.kept hg ha, fun j u l hu hl => (h3 j u l hu hl).kept hg (own_apart (h3 j u l hu hl) hr (by decide))⟩
/-- Two slices lie in other blocks. -/
def AptM (v u : Value) : Prop := ∀ g, v.ownBlock = some g → u.ownBlock = some g → False
theorem AptM.symm {v u : Value} (h : AptM v u) : AptM u v := fun g h1 h2 => h g h2 h1
theorem AptM.or {v u : Value} (h : AptM v u) : v.ownBlock = none ∨ v.ownBlock ≠ u.ownBlock := by
  cases hv : v.ownBlock with
  | none => exact .inl rfl
  | some g => exact .inr fun e => h g hv e.symm
theorem AptM.nil (u : Value) : AptM (.slice none 0 0) u := fun g h _ => by cases h
/-- One more list. -/
theorem run_append_lm {w : World} (ty : TypeId) (base : Nat) (v : Value) (f : List (List Ml)) (h : OwnLm w base v f) (B : Nat) (p : Value) (x : List Ml) (fr : Nat × Nat) (hB : w.heap[B]? = some (.cells #[p] 26 fr)) (hp : w.ownsRow base 62 2 p x.length (x.flatMap encM)) (hlen : (f.length + 1) * 24 ≤ 140737488355328) (hbase : base ≤ w.heap.size) :
    ∃ g c w', (Builtin.append_ #[134, 134] ty #[v, .slice (some ⟨B, 0, none⟩) 1 1]).run Tryz.prog w = .ok (.slice (some ⟨g, 0, none⟩) (f.length + 1) c) w' ∧ OwnLm w' base (.slice (some ⟨g, 0, none⟩) (f.length + 1) c) (f ++ [x]) ∧ w.grownBy w' v.ownBlock ∧ (v.ownBlock = some g ∨ g = w.heap.size) := by
  obtain ⟨i0, hi, hz0, hz1, hz2⟩ := info_parts Tryz.infoLm
  obtain ⟨vs, h1, h2, h3⟩ := h
  have hone : p.oneCell' = true := by
    rcases own_shapeK hp with ⟨rfl, _⟩ | ⟨g, cap, rfl, _⟩ <;> rfl
  obtain ⟨g, c, w', hrun, ho, hg, hl, _⟩ := run_append_lies (P := Tryz.prog) w 134 ty base 26 i0 (.slice none 0 0) 1 24 Tryz.underlying134 hi hz0 hz1 hz2 rfl (by decide) v f.length vs h2
    ⟨B, 0, none⟩ 1 1 [p] rfl (by have := World.news_of_block hB; simpa using this) (fun u hu => by simp at hu; subst hu; exact hone) (by omega) (by unfold maxLen; omega) (by omega) hbase _ rfl
  refine ⟨g, c, w', hrun, ⟨vs ++ [p], by simp [h1], by simpa using ho, fun j u l hu hl => ?_⟩, hg, hl⟩
  by_cases hj : j < vs.length
  · rw [List.getElem?_append_left hj] at hu
    rw [List.getElem?_append_left (by omega)] at hl
    exact (h3 j u l hu hl).kept hg (own_apart (h3 j u l hu hl) h2 (by decide))
  · have hj2 : j = vs.length := by have := (List.getElem?_eq_some_iff.1 hu).1; simp at this; omega
    subst hj2
    rw [List.getElem?_concat_length] at hu
    rw [h1, List.getElem?_concat_length] at hl
    injection hu with hu
    injection hl with hl
    subst hu hl
    exact hp.kept hg (own_apart hp h2 (by decide))

/-- The same as a law for the walk. -/
theorem wpList_append_lm {w : World} {ops : Array Oper} {rest : List Oper} {o : Oper} {a : Act} {Q : Exit → Act → World → Prop} (hgd : o.guard = none) (s y : Operand)
    (ho : o.op = .call { callee := .builtin .append, args := #[s, y], argTypes := #[134, 134] })
    (base : Nat) (v : Value) (f : List (List Ml)) (hs : a.eval s = v) (hown : OwnLm w base v f) (B : Nat) (p : Value) (x : List Ml) (hy : a.eval y = .slice (some ⟨B, 0, none⟩) 1 1) (fr : Nat × Nat) (hB : w.heap[B]? = some (.cells #[p] 26 fr)) (hp : w.ownsRow base 62 2 p x.length (x.flatMap encM)) (hlen : (f.length + 1) * 24 ≤ 140737488355328) (hbase : base ≤ w.heap.size)
    (h : ∀ g c w', OwnLm w' base (.slice (some ⟨g, 0, none⟩) (f.length + 1) c) (f ++ [x]) → w.grownBy w' v.ownBlock → (v.ownBlock = some g ∨ g = w.heap.size) → wpList Tryz.prog ops Q rest (a.put o.dst (.slice (some ⟨g, 0, none⟩) (f.length + 1) c)) w') :
    wpList Tryz.prog ops Q (o :: rest) a w := by
  obtain ⟨g, c, w', hrun, h1, h2, h3⟩ := run_append_lm o.type base v f hown B p x fr hB hp hlen hbase
  refine wpList_plain hgd fun K' hK => ?_
  unfold Oper.wp
  simp [execOp, ho, resolve, invoke, builtin, hs, hy, hrun, Result.andThen]
  exact hK _ _ (h g c w' h1 h2 h3)

/-- A slice reads as these lists of mail. -/
def LmR (w : World) (v : Value) (f : List (List Ml)) : Prop :=
  ∃ a cap, v = .slice a f.length cap ∧ f.length ≤ cap ∧ cap ≤ maxLen ∧ (0 < f.length → ∃ b off, a = some ⟨b, off, none⟩ ∧ b < w.heap.size ∧ ∀ j l, f[j]? = some l → ∃ u, w.cell? ⟨b, off + j, none⟩ = some u ∧ MlR w u l)
theorem LmR.below {w w' : World} {v : Value} {f : List (List Ml)} {B : Nat} (h : LmR w v f) (hb : Below B w w') (hB : w.heap.size ≤ B) : LmR w' v f := by
  obtain ⟨a, cap, rfl, h1, h2, h3⟩ := h
  refine ⟨a, cap, rfl, h1, h2, fun hn => ?_⟩
  obtain ⟨b, off, rfl, lt, hv⟩ := h3 hn
  refine ⟨b, off, rfl, Nat.lt_of_lt_of_le lt hb.size, fun j l hl => ?_⟩
  obtain ⟨u, hu, hr⟩ := hv j l hl
  exact ⟨u, (hb.cell (p := ⟨b, off + j, none⟩) (show b < B by omega)).trans hu, hr.below hb hB⟩
theorem LmR.nil (w : World) : LmR w (.slice none 0 0) [] := ⟨none, 0, rfl, by simp, by simp [maxLen], fun h => by simp at h⟩
theorem OwnLm.reads {w : World} {base : Nat} {v : Value} {f : List (List Ml)} (h : OwnLm w base v f) : LmR w v f := by
  obtain ⟨vs, h1, h2, h3⟩ := h
  rcases own_cases h2 with ⟨rfl, h0, _⟩ | ⟨g, cap, rfl, _, hl, hc, hm, hcell⟩
  · have : f = [] := List.eq_nil_of_length_eq_zero h0
    subst this
    exact LmR.nil w
  · refine ⟨_, cap, rfl, hc, hm, fun _ => ⟨g, 0, rfl, hl, fun j l hj => ?_⟩⟩
    have hjl : j < vs.length := by rw [h1]; exact (List.getElem?_eq_some_iff.1 hj).1
    have hu : vs[j]? = some vs[j] := List.getElem?_eq_getElem hjl
    have := hcell j _ hu
    rw [addr_add] at this
    rw [Nat.zero_add]
    exact ⟨_, this, RowK.own encM_len (h3 j _ l hu hj)⟩
theorem LmR.at {w : World} {v : Value} {f : List (List Ml)} (h : LmR w v f) (hn : 0 < f.length) : ∃ b off cap, v = .slice (some ⟨b, off, none⟩) f.length cap ∧ b < w.heap.size ∧ f.length ≤ cap ∧ cap ≤ maxLen ∧ ∀ j l, f[j]? = some l → ∃ u, w.cell? ⟨b, off + j, none⟩ = some u ∧ MlR w u l := by
  obtain ⟨a, cap, rfl, h1, h2, h3⟩ := h
  obtain ⟨b, off, rfl, lt, hv⟩ := h3 hn
  exact ⟨b, off, cap, rfl, lt, h1, h2, hv⟩
end Go.Proofs.YtkgdenbabafeoaaGreatDoor
