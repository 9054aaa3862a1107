/-
  Contract of the reader's part.
  Contracts of bytes.Equal and bytes.Clone; what slices of a slice of bytes read as.
  Contract of frame.Unwrap and of the table's unwrap: payload, count of bytes and error are those of P2.3; nothing that was there is written.
  Contract of frame.Unwrap: payload, count of bytes and error are those of P2.3; nothing that was there is written.
  Contracts of store's open, of what Open defers, and of Open.
  Plain mathematics of P2 (no program): a frame is had again, whatever stands behind it; a changed byte of payload or sum is told; a frame whose end is torn off is refused.
-/
import Derived.Test.YtacpicnihgggaaaStoreAllPartA
import Derived.Test.YtacpicnihgggaaaStoreLists
import Derived.Deep.CutRange
import Derived.Shelf.Abstract
import Derived.Test.YtacpicnihgggaaaAppendReads
import Derived.Lib.Walk
import Derived.Test.YtacpicnihgggaaaWrapWalk
import Derived.Test.YtacpicnihgggaaaGetWalk
import Derived.BigQuiet
import Derived.Defers
import Derived.Recover

namespace Go.Proofs.Ytacpicnihgggaaa
set_option maxRecDepth 100000
open Go.ChangeShapes Go.WideShapes Go.ChangeAt Go.RowKit

/-- The part that bytes begin with, and the bytes behind it. -/
def restC (w k n : Int) (l : List Int) : Option (PartL × List Int) :=
  ((partsC n (mineL w.toNat n.toNat k.toNat).length [] [] l).filter fewB).map fun r => (⟨w, k, n, r.1, r.2.1⟩, r.2.2)
def partC (l : List Int) : Option (PartL × List Int) :=
  (numF 1099511627776 l).bind fun a => (numF 1099511627776 a.2).bind fun b => (numF 1099511627776 b.2).bind fun c => if errO a.1 b.1 c.1 b.1 = 0 then restC a.1 b.1 c.1 c.2 else none
theorem pay_part (l : List Int) : payC l = (partC l).bind fun r => if r.2 = [] then some r.1 else none := by
  unfold payC partC bodyC restC
  cases numF 1099511627776 l with
  | none => rfl
  | some a =>
    simp only [Option.bind_some]
    cases numF 1099511627776 a.2 with
    | none => rfl
    | some b =>
      simp only [Option.bind_some]
      cases numF 1099511627776 b.2 with
      | none => rfl
      | some c =>
        simp only [Option.bind_some]
        by_cases h : errO a.1 b.1 c.1 b.1 = 0
        · rw [if_pos h, if_pos h]
          cases (partsC c.1 (mineL a.1.toNat c.1.toNat b.1.toNat).length [] [] c.2).filter fewB <;> rfl
        · rw [if_neg h, if_neg h]; rfl

theorem box_set {w : World} {q i : Nat} {cs : Array Value} {u : Value} {t : TypeId} (h : w.heap[q]? = some (.cells cs t (0, 0))) : (w.setCell ⟨q, i, none⟩ u).heap[q]? = some (.cells (cs.setIfInBounds i u) t (0, 0)) := by
  simp only [World.setCell, Array.getElem?_modify, if_true]
  rw [h]
  rfl
theorem box_cells {w : World} {q : Nat} {cs : Array Value} {t : TypeId} (h : w.heap[q]? = some (.cells cs t (0, 0))) (i : Nat) : w.cell? ⟨q, i, none⟩ = cs[i]? := cell_of_row _ _ _ _ _ _ h
/-- The box of a part. -/
def PB (w : World) (q : Nat) (a b c x y : Value) : Prop := w.heap[q]? = some (.cells #[a, b, c, x, y] 36 (0, 0))
theorem PB.cells {w : World} {q : Nat} {a b c x y : Value} (h : PB w q a b c x y) : w.cell? ⟨q, 0, none⟩ = some a ∧ w.cell? ⟨q, 1, none⟩ = some b ∧ w.cell? ⟨q, 2, none⟩ = some c ∧ w.cell? ⟨q, 3, none⟩ = some x ∧ w.cell? ⟨q, 4, none⟩ = some y :=
  ⟨box_cells h 0, box_cells h 1, box_cells h 2, box_cells h 3, box_cells h 4⟩
theorem PB.frozen {w : World} {q : Nat} {a b c x y : Value} (h : PB w q a b c x y) (i : Nat) : w.frozen? ⟨q, i, none⟩ = false := box_frozen h i
theorem PB.kept {S : Nat → Prop} {w w' : World} {q : Nat} {a b c x y : Value} (h : PB w q a b c x y) (hk : Kept S w w') (hs : ¬ S q) : PB w' q a b c x y := by
  unfold PB at *
  rw [hk.block q (Array.getElem?_eq_some_iff.1 h).1 hs]
  exact h
theorem PB.lt {w : World} {q : Nat} {a b c x y : Value} (h : PB w q a b c x y) : q < w.heap.size := (Array.getElem?_eq_some_iff.1 h).1
theorem PB.set0 {w : World} {q : Nat} {a b c x y : Value} (h : PB w q a b c x y) (u : Value) : PB (w.setCell ⟨q, 0, none⟩ u) q u b c x y := box_set h
theorem PB.set1 {w : World} {q : Nat} {a b c x y : Value} (h : PB w q a b c x y) (u : Value) : PB (w.setCell ⟨q, 1, none⟩ u) q a u c x y := box_set h
theorem PB.set2 {w : World} {q : Nat} {a b c x y : Value} (h : PB w q a b c x y) (u : Value) : PB (w.setCell ⟨q, 2, none⟩ u) q a b u x y := box_set h
theorem PB.set3 {w : World} {q : Nat} {a b c x y : Value} (h : PB w q a b c x y) (u : Value) : PB (w.setCell ⟨q, 3, none⟩ u) q a b c u y := box_set h
theorem PB.set4 {w : World} {q : Nat} {a b c x y : Value} (h : PB w q a b c x y) (u : Value) : PB (w.setCell ⟨q, 4, none⟩ u) q a b c x u := box_set h
theorem box_new (w : World) (cs : Array Value) (t : TypeId) : (w.alloc (.cells cs t)).heap[w.heap.size]? = some (.cells cs t (0, 0)) := heap_alloc_new w _

/-- A world on the way: the reader stands in q, two boxes of parts lie behind all that was there. -/
structure St (w : World) (q : Nat) (X : World) (l : List Int) (a b c x y : Value) : Prop where
  old : q < w.heap.size
  kept : Kept (fun k => k = q) w X
  rd : Rd X q l
  res : PB X w.heap.size (.int .i64 0) (.int .i64 0) (.int .i64 0) (.slice none 0 0) (.slice none 0 0)
  box : PB X (w.heap.size + 1) a b c x y
theorem St.start {w : World} {q : Nat} {l : List Int} (h : Rd w q l) : St w q ((w.alloc (.cells #[.int .i64 0, .int .i64 0, .int .i64 0, .slice none 0 0, .slice none 0 0] 36)).alloc (.cells #[.int .i64 0, .int .i64 0, .int .i64 0, .slice none 0 0, .slice none 0 0] 36)) l (.int .i64 0) (.int .i64 0) (.int .i64 0) (.slice none 0 0) (.slice none 0 0) := by
  have k1 : Kept (fun _ => False) w ((w.alloc (.cells #[.int .i64 0, .int .i64 0, .int .i64 0, .slice none 0 0, .slice none 0 0] 36)).alloc (.cells #[.int .i64 0, .int .i64 0, .int .i64 0, .slice none 0 0, .slice none 0 0] 36)) := ((Kept.refl _ w).alloc _).alloc _
  refine ⟨h.lt, k1.mono fun _ h => h.elim, h.kept k1 fun _ _ h => h, ?_, ?_⟩
  · exact PB.kept (S := fun _ => False) (box_new w _ _) ((Kept.refl _ _).alloc _) fun h => h
  · have := box_new (w.alloc (.cells #[.int .i64 0, .int .i64 0, .int .i64 0, .slice none 0 0, .slice none 0 0] 36)) #[.int .i64 0, .int .i64 0, .int .i64 0, .slice none 0 0, .slice none 0 0] 36
    have e : (w.alloc (.cells #[.int .i64 0, .int .i64 0, .int .i64 0, .slice none 0 0, .slice none 0 0] 36)).heap.size = w.heap.size + 1 := by simp
    rw [e] at this
    exact this
/-- The reader goes on, or blocks are made. -/
theorem St.next {w X Y : World} {q : Nat} {l l' : List Int} {a b c x y : Value} (h : St w q X l a b c x y) (hk : Kept (fun k => k = q) X Y) (hr : Rd Y q l') : St w q Y l' a b c x y :=
  ⟨h.old, h.kept.trans hk, hr, h.res.kept hk (by have := h.old; omega), h.box.kept hk (by have := h.old; omega)⟩
theorem St.more {w X Y : World} {q : Nat} {l : List Int} {a b c x y : Value} (h : St w q X l a b c x y) (hk : Below X.heap.size X Y) : St w q Y l a b c x y :=
  h.next (.of hk) (h.rd.kept (Kept.of (S := fun _ => False) hk) fun _ _ h => h)
/-- The row of a list grows: it lies behind the boxes. -/
theorem St.grown {w X Y : World} {q : Nat} {l : List Int} {a b c x y : Value} {row : Option Nat} (h : St w q X l a b c x y) (hg : X.grownBy Y row) (hr : ∀ k, row = some k → w.heap.size + 2 ≤ k) : St w q Y l a b c x y := by
  have k1 : Kept (fun k => w.heap.size + 2 ≤ k) X Y := (Kept.refl _ X).grown hg fun k hk => .inl (hr k hk)
  have ho := h.old
  exact ⟨ho, h.kept.grown hg fun k hk => .inr (by have := hr k hk; omega), h.rd.kept k1 fun k hk => by omega, h.res.kept k1 (by omega), h.box.kept k1 (by omega)⟩
theorem St.put {w X : World} {q i : Nat} {l : List Int} {a b c x y a' b' c' x' y' u : Value} (h : St w q X l a b c x y) (hp : PB (X.setCell ⟨w.heap.size + 1, i, none⟩ u) (w.heap.size + 1) a' b' c' x' y') : St w q (X.setCell ⟨w.heap.size + 1, i, none⟩ u) l a' b' c' x' y' := by
  have ho := h.old
  have k1 := Kept.box X (w.heap.size + 1) i u
  exact ⟨ho, h.kept.set (p := ⟨w.heap.size + 1, i, none⟩) (.inr (Nat.le_succ _)) _, h.rd.kept k1 fun k hk => by omega, h.res.kept k1 (by omega), hp⟩
theorem St.size {w X : World} {q : Nat} {l : List Int} {a b c x y : Value} (h : St w q X l a b c x y) : w.heap.size + 2 ≤ X.heap.size := h.box.lt

/-- The result's box is filled. -/
theorem St.done {w X : World} {q : Nat} {l : List Int} {a b c x y : Value} (h : St w q X l a b c x y) :
    Kept (fun k => k = q) w (((((X.setCell ⟨w.heap.size, 0, none⟩ a).setCell ⟨w.heap.size, 1, none⟩ b).setCell ⟨w.heap.size, 2, none⟩ c).setCell ⟨w.heap.size, 3, none⟩ x).setCell ⟨w.heap.size, 4, none⟩ y) ∧
    Rd (((((X.setCell ⟨w.heap.size, 0, none⟩ a).setCell ⟨w.heap.size, 1, none⟩ b).setCell ⟨w.heap.size, 2, none⟩ c).setCell ⟨w.heap.size, 3, none⟩ x).setCell ⟨w.heap.size, 4, none⟩ y) q l ∧
    PB (((((X.setCell ⟨w.heap.size, 0, none⟩ a).setCell ⟨w.heap.size, 1, none⟩ b).setCell ⟨w.heap.size, 2, none⟩ c).setCell ⟨w.heap.size, 3, none⟩ x).setCell ⟨w.heap.size, 4, none⟩ y) w.heap.size a b c x y ∧
    Kept (fun k => k = w.heap.size) X (((((X.setCell ⟨w.heap.size, 0, none⟩ a).setCell ⟨w.heap.size, 1, none⟩ b).setCell ⟨w.heap.size, 2, none⟩ c).setCell ⟨w.heap.size, 3, none⟩ x).setCell ⟨w.heap.size, 4, none⟩ y) := by
  have ho := h.old
  have k1 : Kept (fun k => k = w.heap.size) X (((((X.setCell ⟨w.heap.size, 0, none⟩ a).setCell ⟨w.heap.size, 1, none⟩ b).setCell ⟨w.heap.size, 2, none⟩ c).setCell ⟨w.heap.size, 3, none⟩ x).setCell ⟨w.heap.size, 4, none⟩ y) :=
    ((((Kept.box _ _ _ _).trans (Kept.box _ _ _ _)).trans (Kept.box _ _ _ _)).trans (Kept.box _ _ _ _)).trans (Kept.box _ _ _ _)
  refine ⟨?_, h.rd.kept k1 fun k hk => by omega, ((((h.res.set0 a).set1 b).set2 c).set3 x).set4 y, k1⟩
  refine ((((h.kept.set (p := ⟨w.heap.size, 0, none⟩) (.inr (Nat.le_refl _)) _).set (p := ⟨w.heap.size, 1, none⟩) (.inr (Nat.le_refl _)) _).set (p := ⟨w.heap.size, 2, none⟩) (.inr (Nat.le_refl _)) _).set (p := ⟨w.heap.size, 3, none⟩) (.inr (Nat.le_refl _)) _).set (p := ⟨w.heap.size, 4, none⟩) (.inr (Nat.le_refl _)) _
theorem hops_ok {q : Nat} {l r : List Int} {n : Int} {hs : List Hp} {w : World} (h : Rd w q l) (hx : ∀ y ∈ l, 0 ≤ y ∧ y ≤ 255) (hh : hopsC n l = some (hs, r)) :
    Calls Try.prog 60 #[.pointer (some ⟨q, 0, none⟩), .int .i64 n] w fun e w' => ∃ v, e = .returned v ∧ w'.ownsRow w.heap.size 87 2 v hs.length (hs.flatMap encH) ∧ Rd w' q r ∧ Kept (fun k => k = q) w w' := by
  refine (hopsRd_any q l n w h hx).mono ?_
  rintro e w' ⟨hk, ⟨p, v, h1, h2, h3, h4⟩ | ⟨h1, _⟩⟩
  · rw [hh] at h1
    injection h1 with h1
    subst h1
    exact ⟨v, h2, h3, h4, hk⟩
  · rw [hh] at h1; cases h1
theorem hops_up {q : Nat} {l : List Int} {n : Int} {w : World} (h : Rd w q l) (hx : ∀ y ∈ l, 0 ≤ y ∧ y ≤ 255) (hh : hopsC n l = none) :
    Calls Try.prog 60 #[.pointer (some ⟨q, 0, none⟩), .int .i64 n] w fun e w' => e = .panicked [{ v := .iface 27 (.int .i64 3), recovered := false }] ∧ Kept (fun k => k = q) w w' := by
  refine (hopsRd_any q l n w h hx).mono ?_
  rintro e w' ⟨hk, ⟨p, v, h1, _⟩ | ⟨_, h2⟩⟩
  · rw [hh] at h1; cases h1
  · exact ⟨h2, hk⟩
theorem Rd.drew {w : World} {q : Nat} {l : List Int} (h : Rd w q l) : Rd w.drew q l := h.kept (S := fun _ => False) (Kept.refl _ w).drew fun _ _ h => h
theorem St.drew {w X : World} {q : Nat} {l : List Int} {a b c x y : Value} (h : St w q X l a b c x y) : St w q X.drew l a b c x y := h.next (Kept.refl _ X).drew h.rd.drew
theorem OwnLs.drew {w : World} {base : Nat} {v : Value} {f : List (List Hp)} (h : OwnLs w base v f) : OwnLs w.drew base v f := h.kept (S := fun _ => False) (Kept.refl _ w).drew fun _ _ h => h
theorem OwnLs.shape {w : World} {base : Nat} {v : Value} {f : List (List Hp)} (h : OwnLs w base v f) : ∃ a c, v = .slice a f.length c := by obtain ⟨a, c, e, _⟩ := h.reads; exact ⟨a, c, e⟩

set_option maxHeartbeats 4000000 in
set_option maxRecDepth 100000 in
theorem part_any (q : Nat) (l : List Int) (w : World) (h : Rd w q l) (hx : ∀ y ∈ l, 0 ≤ y ∧ y ≤ 255) :
    Calls Try.prog 37 #[.pointer (some ⟨q, 0, none⟩)] w fun e w' => Kept (fun k => k = q) w w' ∧
      ((∃ p r vo vi, partC l = some (p, r) ∧ e = .returned (.agg #[.int .i64 p.wk, .int .i64 p.ks, .int .i64 p.n, vo, vi]) ∧ OwnLs w' w.heap.size vo p.out ∧ OwnLs w' w.heap.size vi p.inn ∧ Rd w' q r) ∨ (partC l = none ∧ e = upP 3)) := by
  have W0 : Hid (St w q ((w.alloc (.cells #[.int .i64 0, .int .i64 0, .int .i64 0, .slice none 0 0, .slice none 0 0] 36)).alloc (.cells #[.int .i64 0, .int .i64 0, .int .i64 0, .slice none 0 0, .slice none 0 0] 36)) l (.int .i64 0) (.int .i64 0) (.int .i64 0) (.slice none 0 0) (.slice none 0 0)) := St.start h
  have HX : Hid (∀ y ∈ l, 0 ≤ y ∧ y ≤ 255) := hx
  clear h hx
  go_enter Try.func37, Try.ntmps37
  go_wp2_with fail
  generalize (w.alloc (.cells #[.int .i64 0, .int .i64 0, .int .i64 0, .slice none 0 0, .slice none 0 0] 36)).alloc (.cells #[.int .i64 0, .int .i64 0, .int .i64 0, .slice none 0 0, .slice none 0 0] 36) = w0 at *
  cases h1 : numF 1099511627776 l with
  | none =>
    refine (number_no q l w0 W0.out.rd HX.out h1).mono ?_
    rintro e w1 ⟨rfl, rfl⟩
    exact ⟨rfl, W0.out.kept, .inr ⟨by unfold partC; rw [h1]; rfl, rfl⟩⟩
  | some a =>
  obtain ⟨a, l1⟩ := a
  obtain ⟨a0, a1, _, hb1⟩ := numF_inv HX.out h1
  have HX1 : Hid (∀ y ∈ l1, 0 ≤ y ∧ y ≤ 255) := hb1
  have HP1 : Hid (partC l = (numF 1099511627776 l1).bind fun b => (numF 1099511627776 b.2).bind fun c => if errO a b.1 c.1 b.1 = 0 then restC a b.1 c.1 c.2 else none) := by show _ = _; unfold partC; rw [h1]; rfl
  refine (number_ok q l l1 a w0 W0.out.rd HX.out h1).mono ?_
  rintro e w1 ⟨rfl, hrd1, hk1⟩
  have S1 := W0.out.next hk1 hrd1
  have W1 : Hid (St w q (w1.setCell ⟨w.heap.size + 1, 0, none⟩ (.int .i64 a)) l1 (.int .i64 a) (.int .i64 0) (.int .i64 0) (.slice none 0 0) (.slice none 0 0)) := S1.put (S1.box.set0 _)
  obtain ⟨c0, _⟩ := S1.box.cells
  have f0 := S1.box.frozen 0
  clear h1 hrd1 hk1 hb1 S1 HX W0
  go_wp2_with fail
  generalize w1.setCell ⟨w.heap.size + 1, 0, none⟩ (.int .i64 a) = w2 at *
  clear c0 f0
  cases h2 : numF 1099511627776 l1 with
  | none =>
    refine (number_no q l1 w2 W1.out.rd HX1.out h2).mono ?_
    rintro e w3 ⟨rfl, rfl⟩
    exact ⟨rfl, W1.out.kept, .inr ⟨by rw [HP1.out, h2]; rfl, rfl⟩⟩
  | some b =>
  obtain ⟨b, l2⟩ := b
  obtain ⟨b0, b1, _, hb2⟩ := numF_inv HX1.out h2
  have HX2 : Hid (∀ y ∈ l2, 0 ≤ y ∧ y ≤ 255) := hb2
  have HP2 : Hid (partC l = (numF 1099511627776 l2).bind fun c => if errO a b c.1 b = 0 then restC a b c.1 c.2 else none) := by show _ = _; rw [HP1.out, h2]; rfl
  refine (number_ok q l1 l2 b w2 W1.out.rd HX1.out h2).mono ?_
  rintro e w3 ⟨rfl, hrd1, hk1⟩
  have S1 := W1.out.next hk1 hrd1
  have W2 : Hid (St w q (w3.setCell ⟨w.heap.size + 1, 1, none⟩ (.int .i64 b)) l2 (.int .i64 a) (.int .i64 b) (.int .i64 0) (.slice none 0 0) (.slice none 0 0)) := S1.put (S1.box.set1 _)
  obtain ⟨_, c0, _⟩ := S1.box.cells
  have f0 := S1.box.frozen 1
  clear h2 hrd1 hk1 hb2 S1 HX1 W1 HP1
  go_wp2_with fail
  generalize w3.setCell ⟨w.heap.size + 1, 1, none⟩ (.int .i64 b) = w4 at *
  clear c0 f0
  cases h3 : numF 1099511627776 l2 with
  | none =>
    refine (number_no q l2 w4 W2.out.rd HX2.out h3).mono ?_
    rintro e w5 ⟨rfl, rfl⟩
    exact ⟨rfl, W2.out.kept, .inr ⟨by rw [HP2.out, h3]; rfl, rfl⟩⟩
  | some c =>
  obtain ⟨c, l3⟩ := c
  obtain ⟨cc0, cc1, _, hb3⟩ := numF_inv HX2.out h3
  have HX3 : Hid (∀ y ∈ l3, 0 ≤ y ∧ y ≤ 255) := hb3
  have HP3 : Hid (partC l = if errO a b c b = 0 then restC a b c l3 else none) := by show _ = _; rw [HP2.out, h3]; rfl
  refine (number_ok q l2 l3 c w4 W2.out.rd HX2.out h3).mono ?_
  rintro e w5 ⟨rfl, hrd1, hk1⟩
  have S1 := W2.out.next hk1 hrd1
  have W3 : Hid (St w q (w5.setCell ⟨w.heap.size + 1, 2, none⟩ (.int .i64 c)) l3 (.int .i64 a) (.int .i64 b) (.int .i64 c) (.slice none 0 0) (.slice none 0 0)) := S1.put (S1.box.set2 _)
  obtain ⟨_, _, c0, _⟩ := S1.box.cells
  have f0 := S1.box.frozen 2
  obtain ⟨d0, d1, d2, _⟩ := W3.out.box.cells
  clear h3 hrd1 hk1 hb3 S1 HX2 W2 HP2
  go_wp2_with fail
  generalize w5.setCell ⟨w.heap.size + 1, 2, none⟩ (.int .i64 c) = w6 at *
  clear c0 f0 d0 d1 d2
  refine (mine_any a c b w6).mono ?_
  rintro e w7 ⟨mv, rfl, hown, hb7⟩
  have W4 : Hid (St w q w7 l3 (.int .i64 a) (.int .i64 b) (.int .i64 c) (.slice none 0 0) (.slice none 0 0)) := W3.out.more hb7
  clear hb7 W3
  by_cases he : errO a b c b = 0
  · rw [he, okL_yes] at hown
    rw [he]
    obtain ⟨ma, mc, rfl⟩ : ∃ ma mc, mv = .slice ma (mineL a.toNat c.toNat b.toNat).length mc := by obtain ⟨x, y, e, _⟩ := RowK.own encI_len hown; exact ⟨_, _, e⟩
    have hM : (mineL a.toNat c.toNat b.toNat).length ≤ 200 := by
      obtain ⟨⟨e1, e2, e3, e4⟩, e5, e6⟩ := errO_inv he
      rw [mineL_len]
      exact Nat.le_trans (cnt_le (by omega)) (by omega)
    have HP4 : Hid (partC l = restC a b c l3) := by show _ = _; rw [HP3.out, if_pos he]
    unfold restC at HP4
    clear hown he HP3
    generalize (mineL a.toNat c.toNat b.toNat).length = M at *
    go_wp2_with fail
    refine (insist_yes _).mono ?_
    rintro e w8 ⟨rfl, rfl⟩
    go_wp2_with fail
    have OL0 : Hid (OwnLs w8 (w.heap.size + 2) (.slice none 0 0) []) := OwnLs.nil _ _
    have epk : ∀ args w, (callFunc 60 args).run Try.prog w = .ok (.enter 60 args) w := enters_of Try.func60 (by kernel_rfl) rfl
    go_loopw [30] (fun i wr => ∃ (k : Nat) (os is : List (List Hp)) (vo vi : Value) (r : List Int), k ≤ M ∧ i = .int .i64 k ∧ os.length = k ∧ is.length = k ∧ St w q wr r (.int .i64 a) (.int .i64 b) (.int .i64 c) vo vi ∧ OwnLs wr (w.heap.size + 2) vo os ∧ OwnLs wr (w.heap.size + 2) vi is ∧ Apt vo vi ∧ (∀ y ∈ r, 0 ≤ y ∧ y ≤ 255) ∧ partsC c M [] [] l3 = partsC c (M - k) os is r ∧ sumL os ≤ 2000 * k ∧ sumL is ≤ 2000 * k) (fun i _ => M - (intOf i).toNat)
    case atStart => exact ⟨0, [], [], _, _, l3, by omega, rfl, rfl, rfl, W4.out, OL0.out, OL0.out, Apt.nil _, HX3.out, rfl, Nat.le_refl _, Nat.le_refl _⟩
    case round =>
      obtain ⟨k, os, is, vo, vi, r, hk, rfl, hol, hil, hst, ho, hi, hap, hby, heq, hso, hsi⟩ := hrel
      have ST : Hid (St w q wr r (.int .i64 a) (.int .i64 b) (.int .i64 c) vo vi) := hst
      have OO : Hid (OwnLs wr (w.heap.size + 2) vo os) := ho
      have OI : Hid (OwnLs wr (w.heap.size + 2) vi is) := hi
      have AP : Hid (Apt vo vi) := hap
      have HY : Hid (∀ y ∈ r, 0 ≤ y ∧ y ≤ 255) := hby
      have HE : Hid (partsC c M [] [] l3 = partsC c (M - k) os is r) := heq
      have HOL : Hid (os.length = k) := hol
      have HIL : Hid (is.length = k) := hil
      have HSO : Hid (sumL os ≤ 2000 * k) := hso
      have HSI : Hid (sumL is ≤ 2000 * k) := hsi
      obtain ⟨xa, xc, rfl⟩ := ho.shape
      obtain ⟨ya, yc, rfl⟩ := hi.shape
      have hs2 := hst.size
      obtain ⟨c0, c1, c2, c3, c4⟩ := hst.box.cells
      clear hst ho hi hap hby heq hol hil hso hsi OL0 W4 HX3
      by_cases hlt : k < M
      · obtain ⟨t, ht⟩ : ∃ t, M - k = t + 1 := ⟨M - k - 1, by omega⟩
        have HT : Hid (M - (k + 1) = t) := by show _ = _; omega
        have hok : os.length ≤ 200 := by have := HOL.out; omega
        have hik : is.length ≤ 200 := by have := HIL.out; omega
        rw [ht, partsC] at HE
        clear ht
        go_upto_region 9 with fail
        cases hh : hopsC c r with
        | none =>
          have HX5 : Hid (partC l = none) := by show _ = _; rw [HP4.out, HE.out, hh]; rfl
          refine region_lastF (S := fun V => V.cell? ⟨w.heap.size + 1, 3, none⟩ = some (.slice xa os.length xc) ∧ V.cell? ⟨w.heap.size + 1, 2, none⟩ = some (.int .i64 c)) (by kernel_rfl) (by kernel_rfl) (by kernel_rfl) (by kernel_rfl) ?_
          simp only [List.pop_toArray, List.dropLast_cons_cons, List.dropLast_singleton, List.size_toArray, List.length_cons, List.length_nil, Nat.reduceAdd]
          refine takeH (i := 0) (v := .pointer (some ⟨w.heap.size + 1, 3, none⟩)) (d := 32) rfl rfl (by kernel_rfl) (by kernel_rfl) (by kernel_rfl) (fun _ _ _ h => h) (by rfl) (fun V hV => by obtain ⟨v1, v2⟩ := hV; go_simp) ⟨c3, c2⟩ ?_
          simp only [Act.put, List.setIfInBounds_toArray, List.set_cons_zero, List.set_cons_succ]
          refine takeH (i := 1) (v := .slice xa os.length xc) (d := 33) rfl rfl (by kernel_rfl) (by kernel_rfl) (by kernel_rfl) (fun _ _ _ h => h) (by rfl) (fun V hV => by obtain ⟨v1, v2⟩ := hV; go_simp) ⟨c3, c2⟩ ?_
          simp only [Act.put, List.setIfInBounds_toArray, List.set_cons_zero, List.set_cons_succ]
          refine takeH (i := 2) (v := .pointer (some ⟨q, 0, none⟩)) (d := 34) rfl rfl (by kernel_rfl) (by kernel_rfl) (by kernel_rfl) (fun _ _ _ h => h) (by rfl) (fun V hV => by obtain ⟨v1, v2⟩ := hV; go_simp) ⟨c3, c2⟩ ?_
          simp only [Act.put, List.setIfInBounds_toArray, List.set_cons_zero, List.set_cons_succ]
          refine takeH (i := 3) (v := .pointer (some ⟨w.heap.size + 1, 2, none⟩)) (d := 35) rfl rfl (by kernel_rfl) (by kernel_rfl) (by kernel_rfl) (fun _ _ _ h => h) (by rfl) (fun V hV => by obtain ⟨v1, v2⟩ := hV; go_simp) ⟨c3, c2⟩ ?_
          simp only [Act.put, List.setIfInBounds_toArray, List.set_cons_zero, List.set_cons_succ]
          refine takeH (i := 4) (v := .int .i64 c) (d := 36) rfl rfl (by kernel_rfl) (by kernel_rfl) (by kernel_rfl) (fun _ _ _ h => h) (by rfl) (fun V hV => by obtain ⟨v1, v2⟩ := hV; go_simp) ⟨c3, c2⟩ ?_
          simp only [Act.put, List.setIfInBounds_toArray, List.set_cons_zero, List.set_cons_succ]
          exact oneH (i := 5) rfl (by kernel_rfl) rfl (call_up (f := 60) (xs := #[.tmp 34, .tmp 36]) (ats := #[68, 3]) rfl epk (vs := #[.pointer (some ⟨q, 0, none⟩), .int .i64 c]) (by simp [Act.eval]) (hops_up ST.out.rd.drew HY.out hh) (fun w' hk' => ⟨rfl, ST.out.kept.drew.trans hk', .inr ⟨HX5.out, rfl⟩⟩))
        | some p =>
          obtain ⟨o, r1⟩ := p
          have HE1 : Hid (partsC c M [] [] l3 = (hopsC c r1).bind fun q => partsC c t (os ++ [o]) (is ++ [q.1]) q.2) := by show _ = _; rw [HE.out, hh]; rfl
          have hb1 := hopsC_bytes HY.out hh
          have HY1 : Hid (∀ y ∈ r1, 0 ≤ y ∧ y ≤ 255) := hb1.1
          have HO1 : Hid (sumL (os ++ [o]) ≤ 2000 * (k + 1)) := by show _ ≤ _; rw [sumL_snoc]; have := HSO.out; have := hb1.2; simp only at this; omega
          clear hb1
          refine region_lastF (S := fun V => V.cell? ⟨w.heap.size + 1, 3, none⟩ = some (.slice xa os.length xc) ∧ V.cell? ⟨w.heap.size + 1, 2, none⟩ = some (.int .i64 c)) (by kernel_rfl) (by kernel_rfl) (by kernel_rfl) (by kernel_rfl) ?_
          simp only [List.pop_toArray, List.dropLast_cons_cons, List.dropLast_singleton, List.size_toArray, List.length_cons, List.length_nil, Nat.reduceAdd]
          refine takeH (i := 0) (v := .pointer (some ⟨w.heap.size + 1, 3, none⟩)) (d := 32) rfl rfl (by kernel_rfl) (by kernel_rfl) (by kernel_rfl) (fun _ _ _ h => h) (by rfl) (fun V hV => by obtain ⟨v1, v2⟩ := hV; go_simp) ⟨c3, c2⟩ ?_
          simp only [Act.put, List.setIfInBounds_toArray, List.set_cons_zero, List.set_cons_succ]
          refine takeH (i := 1) (v := .slice xa os.length xc) (d := 33) rfl rfl (by kernel_rfl) (by kernel_rfl) (by kernel_rfl) (fun _ _ _ h => h) (by rfl) (fun V hV => by obtain ⟨v1, v2⟩ := hV; go_simp) ⟨c3, c2⟩ ?_
          simp only [Act.put, List.setIfInBounds_toArray, List.set_cons_zero, List.set_cons_succ]
          refine takeH (i := 2) (v := .pointer (some ⟨q, 0, none⟩)) (d := 34) rfl rfl (by kernel_rfl) (by kernel_rfl) (by kernel_rfl) (fun _ _ _ h => h) (by rfl) (fun V hV => by obtain ⟨v1, v2⟩ := hV; go_simp) ⟨c3, c2⟩ ?_
          simp only [Act.put, List.setIfInBounds_toArray, List.set_cons_zero, List.set_cons_succ]
          refine takeH (i := 3) (v := .pointer (some ⟨w.heap.size + 1, 2, none⟩)) (d := 35) rfl rfl (by kernel_rfl) (by kernel_rfl) (by kernel_rfl) (fun _ _ _ h => h) (by rfl) (fun V hV => by obtain ⟨v1, v2⟩ := hV; go_simp) ⟨c3, c2⟩ ?_
          simp only [Act.put, List.setIfInBounds_toArray, List.set_cons_zero, List.set_cons_succ]
          refine takeH (i := 4) (v := .int .i64 c) (d := 36) rfl rfl (by kernel_rfl) (by kernel_rfl) (by kernel_rfl) (fun _ _ _ h => h) (by rfl) (fun V hV => by obtain ⟨v1, v2⟩ := hV; go_simp) ⟨c3, c2⟩ ?_
          simp only [Act.put, List.setIfInBounds_toArray, List.set_cons_zero, List.set_cons_succ]
          refine oneH (i := 5) rfl (by kernel_rfl) rfl (call_gets (d := 37) (f := 60) (xs := #[.tmp 34, .tmp 36]) (ats := #[68, 3]) rfl rfl epk (vs := #[.pointer (some ⟨q, 0, none⟩), .int .i64 c]) (by simp [Act.eval]) (hops_ok ST.out.rd.drew HY.out hh) ?_)
          rintro pv1 wa1 ⟨hpo, hprd, hpk⟩
          have SA1 := ST.out.drew.next hpk hprd
          have OA1 := OO.out.drew.kept hpk fun g hg h => by have := SA1.old; omega
          have OB1 := OI.out.drew.kept hpk fun g hg h => by have := SA1.old; omega
          have hwa1 := SA1.size
          have PO1 : wa1.ownsRow (w.heap.size + 2) 87 2 pv1 o.length (o.flatMap encH) := own_lower hpo (by have : wr.drew.heap.size = wr.heap.size := rfl; omega)
          obtain ⟨pa1, pc1, rfl⟩ := (RowK.own encH_len hpo).shape
          obtain ⟨g1, gc1, wb1, hrun1, hls1, hgr1, hli1⟩ := run_append_ls (w := wa1.alloc (.cells #[.slice pa1 o.length pc1] 49)) 34 (w.heap.size + 2) (.slice xa os.length xc) os (OA1.kept (S := fun _ => False) ((Kept.refl _ _).alloc _) fun _ _ h => h) wa1.heap.size (.slice pa1 o.length pc1) o (0, 0) (box_new _ _ _) (PO1.alloc _) (by omega) (by simp; omega)
          have SB1 : St w q wb1 r1 _ _ _ _ _ := (SA1.more (below_alloc _ _)).grown hgr1 fun k hk => by obtain ⟨vs, hr⟩ := OA1.row; exact (own_ge hr hk).1
          have OC1 : OwnLs wb1 (w.heap.size + 2) (.slice ya is.length yc) is := by
            obtain ⟨vs, hr⟩ := OA1.row
            exact (OB1.kept (S := fun _ => False) ((Kept.refl _ _).alloc _) fun _ _ h => h).grown (hr.alloc _) hgr1 AP.out.symm.or
          have AP1 : Hid (Apt (.slice (some ⟨g1, 0, none⟩) (os.length + 1) gc1) (.slice ya is.length yc)) := by
            intro g h1 h2
            injection h1 with h1
            have h1' : g1 = g := h1
            subst h1'
            rcases hli1 with h3 | h3
            · exact AP.out g1 h3 h2
            · obtain ⟨vs, hr⟩ := OB1.row
              have := (own_ge hr h2).2
              simp at h3
              omega
          have k31 := SB1.box.cells
          have kf1 := SB1.box.frozen 3
          have ka1 := SA1.box.cells
          have kb1 := (SA1.more (below_alloc wa1 (.cells #[.slice pa1 o.length pc1] 49))).box.cells
          have SC1 : Hid (St w q (wb1.setCell ⟨w.heap.size + 1, 3, none⟩ (.slice (some ⟨g1, 0, none⟩) (os.length + 1) gc1)) r1 _ _ _ _ _) := SB1.put (SB1.box.set3 _)
          have OD1 : Hid (OwnLs (wb1.setCell ⟨w.heap.size + 1, 3, none⟩ (.slice (some ⟨g1, 0, none⟩) (os.length + 1) gc1)) (w.heap.size + 2) _ (os ++ [o])) := hls1.box SB1.box (by decide) (by decide)
          have OE1 : Hid (OwnLs (wb1.setCell ⟨w.heap.size + 1, 3, none⟩ (.slice (some ⟨g1, 0, none⟩) (os.length + 1) gc1)) (w.heap.size + 2) _ is) := OC1.box SB1.box (by decide) (by decide)
          have SD11 := And.intro ka1.2.2.2.1 ka1.2.2.1
          have SD21 := And.intro kb1.2.2.2.1 kb1.2.2.1
          have SD31 := And.intro k31.2.2.2.1 k31.2.2.1
          refine ⟨SD11, ?_⟩
          simp only [Act.put, List.setIfInBounds_toArray, List.set_cons_zero, List.set_cons_succ]
          refine oneH (i := 6) rfl (by kernel_rfl) rfl (op_run (d := 38) (v' := .slice (some ⟨wa1.heap.size, 0, none⟩) 1 1) (w' := wa1.alloc (.cells #[.slice pa1 o.length pc1] 49)) rfl (by go_simp) ⟨SD21, ?_⟩)
          simp only [Act.put, List.setIfInBounds_toArray, List.set_cons_zero, List.set_cons_succ]
          refine oneH (i := 7) rfl (by kernel_rfl) rfl (call_append (d := 39) (s := .tmp 33) (x := .tmp 38) (t := 34) rfl rfl (v := .slice xa os.length xc) (v2 := .slice (some ⟨wa1.heap.size, 0, none⟩) 1 1) (by simp [Act.eval]) (by simp [Act.eval]) hrun1 ⟨SD31, ?_⟩)
          simp only [Act.put, List.setIfInBounds_toArray, List.set_cons_zero, List.set_cons_succ]
          refine takeH (i := 8) (v := .pointer (some ⟨w.heap.size + 1, 3, none⟩)) (d := 40) rfl rfl (by kernel_rfl) (by kernel_rfl) (by kernel_rfl) (fun _ _ _ h => h) (by rfl) (fun V hV => by obtain ⟨v1, v2⟩ := hV; go_simp) SD31 ?_
          simp only [Act.put, List.setIfInBounds_toArray, List.set_cons_zero, List.set_cons_succ]
          refine wpAnyH_done (by kernel_rfl) ?_ _
          have kc1 := k31.2.2.2.1
          clear SD11 SD21 SD31 ka1 kb1 k31 SA1 OA1 OB1 OC1 SB1 hls1 hgr1 hli1 hrun1 PO1 hpo hprd hpk
          show Oper.wp _ _ _ _ _ _
          go_upto_region 10 with fail
          clear kc1 kf1 hh HE ST OO OI HY
          generalize wb1.setCell ⟨w.heap.size + 1, 3, none⟩ (.slice (some ⟨g1, 0, none⟩) (os.length + 1) gc1) = wc at *
          obtain ⟨q0, q1, q2, q3, q4⟩ := SC1.out.box.cells
          have hs3 := SC1.out.size
          cases hh1 : hopsC c r1 with
          | none =>
            have HX5 : Hid (partC l = none) := by show _ = _; rw [HP4.out, HE1.out, hh1]; rfl
            refine region_lastF (S := fun V => V.cell? ⟨w.heap.size + 1, 4, none⟩ = some (.slice ya is.length yc) ∧ V.cell? ⟨w.heap.size + 1, 2, none⟩ = some (.int .i64 c)) (by kernel_rfl) (by kernel_rfl) (by kernel_rfl) (by kernel_rfl) ?_
            simp only [List.pop_toArray, List.dropLast_cons_cons, List.dropLast_singleton, List.size_toArray, List.length_cons, List.length_nil, Nat.reduceAdd]
            refine takeH (i := 0) (v := .pointer (some ⟨w.heap.size + 1, 4, none⟩)) (d := 41) rfl rfl (by kernel_rfl) (by kernel_rfl) (by kernel_rfl) (fun _ _ _ h => h) (by rfl) (fun V hV => by obtain ⟨v1, v2⟩ := hV; go_simp) ⟨q4, q2⟩ ?_
            simp only [Act.put, List.setIfInBounds_toArray, List.set_cons_zero, List.set_cons_succ]
            refine takeH (i := 1) (v := .slice ya is.length yc) (d := 42) rfl rfl (by kernel_rfl) (by kernel_rfl) (by kernel_rfl) (fun _ _ _ h => h) (by rfl) (fun V hV => by obtain ⟨v1, v2⟩ := hV; go_simp) ⟨q4, q2⟩ ?_
            simp only [Act.put, List.setIfInBounds_toArray, List.set_cons_zero, List.set_cons_succ]
            refine takeH (i := 2) (v := .pointer (some ⟨q, 0, none⟩)) (d := 43) rfl rfl (by kernel_rfl) (by kernel_rfl) (by kernel_rfl) (fun _ _ _ h => h) (by rfl) (fun V hV => by obtain ⟨v1, v2⟩ := hV; go_simp) ⟨q4, q2⟩ ?_
            simp only [Act.put, List.setIfInBounds_toArray, List.set_cons_zero, List.set_cons_succ]
            refine takeH (i := 3) (v := .pointer (some ⟨w.heap.size + 1, 2, none⟩)) (d := 44) rfl rfl (by kernel_rfl) (by kernel_rfl) (by kernel_rfl) (fun _ _ _ h => h) (by rfl) (fun V hV => by obtain ⟨v1, v2⟩ := hV; go_simp) ⟨q4, q2⟩ ?_
            simp only [Act.put, List.setIfInBounds_toArray, List.set_cons_zero, List.set_cons_succ]
            refine takeH (i := 4) (v := .int .i64 c) (d := 45) rfl rfl (by kernel_rfl) (by kernel_rfl) (by kernel_rfl) (fun _ _ _ h => h) (by rfl) (fun V hV => by obtain ⟨v1, v2⟩ := hV; go_simp) ⟨q4, q2⟩ ?_
            simp only [Act.put, List.setIfInBounds_toArray, List.set_cons_zero, List.set_cons_succ]
            exact oneH (i := 5) rfl (by kernel_rfl) rfl (call_up (f := 60) (xs := #[.tmp 43, .tmp 45]) (ats := #[68, 3]) rfl epk (vs := #[.pointer (some ⟨q, 0, none⟩), .int .i64 c]) (by simp [Act.eval]) (hops_up SC1.out.rd.drew HY1.out hh1) (fun w' hk' => ⟨rfl, SC1.out.kept.drew.trans hk', .inr ⟨HX5.out, rfl⟩⟩))
          | some p =>
            obtain ⟨ii, r2⟩ := p
            have HE2 : Hid (partsC c M [] [] l3 = partsC c t (os ++ [o]) (is ++ [ii]) r2) := by show _ = _; rw [HE1.out, hh1]; rfl
            have hb1 := hopsC_bytes HY1.out hh1
            have HY2 : Hid (∀ y ∈ r2, 0 ≤ y ∧ y ≤ 255) := hb1.1
            have HI1 : Hid (sumL (is ++ [ii]) ≤ 2000 * (k + 1)) := by show _ ≤ _; rw [sumL_snoc]; have := HSI.out; have := hb1.2; simp only at this; omega
            clear hb1
            refine region_lastF (S := fun V => V.cell? ⟨w.heap.size + 1, 4, none⟩ = some (.slice ya is.length yc) ∧ V.cell? ⟨w.heap.size + 1, 2, none⟩ = some (.int .i64 c)) (by kernel_rfl) (by kernel_rfl) (by kernel_rfl) (by kernel_rfl) ?_
            simp only [List.pop_toArray, List.dropLast_cons_cons, List.dropLast_singleton, List.size_toArray, List.length_cons, List.length_nil, Nat.reduceAdd]
            refine takeH (i := 0) (v := .pointer (some ⟨w.heap.size + 1, 4, none⟩)) (d := 41) rfl rfl (by kernel_rfl) (by kernel_rfl) (by kernel_rfl) (fun _ _ _ h => h) (by rfl) (fun V hV => by obtain ⟨v1, v2⟩ := hV; go_simp) ⟨q4, q2⟩ ?_
            simp only [Act.put, List.setIfInBounds_toArray, List.set_cons_zero, List.set_cons_succ]
            refine takeH (i := 1) (v := .slice ya is.length yc) (d := 42) rfl rfl (by kernel_rfl) (by kernel_rfl) (by kernel_rfl) (fun _ _ _ h => h) (by rfl) (fun V hV => by obtain ⟨v1, v2⟩ := hV; go_simp) ⟨q4, q2⟩ ?_
            simp only [Act.put, List.setIfInBounds_toArray, List.set_cons_zero, List.set_cons_succ]
            refine takeH (i := 2) (v := .pointer (some ⟨q, 0, none⟩)) (d := 43) rfl rfl (by kernel_rfl) (by kernel_rfl) (by kernel_rfl) (fun _ _ _ h => h) (by rfl) (fun V hV => by obtain ⟨v1, v2⟩ := hV; go_simp) ⟨q4, q2⟩ ?_
            simp only [Act.put, List.setIfInBounds_toArray, List.set_cons_zero, List.set_cons_succ]
            refine takeH (i := 3) (v := .pointer (some ⟨w.heap.size + 1, 2, none⟩)) (d := 44) rfl rfl (by kernel_rfl) (by kernel_rfl) (by kernel_rfl) (fun _ _ _ h => h) (by rfl) (fun V hV => by obtain ⟨v1, v2⟩ := hV; go_simp) ⟨q4, q2⟩ ?_
            simp only [Act.put, List.setIfInBounds_toArray, List.set_cons_zero, List.set_cons_succ]
            refine takeH (i := 4) (v := .int .i64 c) (d := 45) rfl rfl (by kernel_rfl) (by kernel_rfl) (by kernel_rfl) (fun _ _ _ h => h) (by rfl) (fun V hV => by obtain ⟨v1, v2⟩ := hV; go_simp) ⟨q4, q2⟩ ?_
            simp only [Act.put, List.setIfInBounds_toArray, List.set_cons_zero, List.set_cons_succ]
            refine oneH (i := 5) rfl (by kernel_rfl) rfl (call_gets (d := 46) (f := 60) (xs := #[.tmp 43, .tmp 45]) (ats := #[68, 3]) rfl rfl epk (vs := #[.pointer (some ⟨q, 0, none⟩), .int .i64 c]) (by simp [Act.eval]) (hops_ok SC1.out.rd.drew HY1.out hh1) ?_)
            rintro pv2 wa2 ⟨hpo, hprd, hpk⟩
            have SA2 := SC1.out.drew.next hpk hprd
            have OA2 := OE1.out.drew.kept hpk fun g hg h => by have := SA2.old; omega
            have OB2 := OD1.out.drew.kept hpk fun g hg h => by have := SA2.old; omega
            have hwa2 := SA2.size
            have PO2 : wa2.ownsRow (w.heap.size + 2) 87 2 pv2 ii.length (ii.flatMap encH) := own_lower hpo (by have : wc.drew.heap.size = wc.heap.size := rfl; omega)
            obtain ⟨pa2, pc2, rfl⟩ := (RowK.own encH_len hpo).shape
            obtain ⟨g2, gc2, wb2, hrun2, hls2, hgr2, hli2⟩ := run_append_ls (w := wa2.alloc (.cells #[.slice pa2 ii.length pc2] 49)) 34 (w.heap.size + 2) (.slice ya is.length yc) is (OA2.kept (S := fun _ => False) ((Kept.refl _ _).alloc _) fun _ _ h => h) wa2.heap.size (.slice pa2 ii.length pc2) ii (0, 0) (box_new _ _ _) (PO2.alloc _) (by omega) (by simp; omega)
            have SB2 : St w q wb2 r2 _ _ _ _ _ := (SA2.more (below_alloc _ _)).grown hgr2 fun k hk => by obtain ⟨vs, hr⟩ := OA2.row; exact (own_ge hr hk).1
            have OC2 : OwnLs wb2 (w.heap.size + 2) (.slice (some ⟨g1, 0, none⟩) (os.length + 1) gc1) (os ++ [o]) := by
              obtain ⟨vs, hr⟩ := OA2.row
              exact (OB2.kept (S := fun _ => False) ((Kept.refl _ _).alloc _) fun _ _ h => h).grown (hr.alloc _) hgr2 AP1.out.or
            have AP2 : Hid (Apt (.slice (some ⟨g2, 0, none⟩) (is.length + 1) gc2) (.slice (some ⟨g1, 0, none⟩) (os.length + 1) gc1)) := by
              intro g h1 h2
              injection h1 with h1
              have h1' : g2 = g := h1
              subst h1'
              rcases hli2 with h3 | h3
              · exact AP1.out g2 h2 h3
              · obtain ⟨vs, hr⟩ := OB2.row
                have := (own_ge hr h2).2
                simp at h3
                omega
            have k32 := SB2.box.cells
            have kf2 := SB2.box.frozen 4
            have ka2 := SA2.box.cells
            have kb2 := (SA2.more (below_alloc wa2 (.cells #[.slice pa2 ii.length pc2] 49))).box.cells
            have SC2 : Hid (St w q (wb2.setCell ⟨w.heap.size + 1, 4, none⟩ (.slice (some ⟨g2, 0, none⟩) (is.length + 1) gc2)) r2 _ _ _ _ _) := SB2.put (SB2.box.set4 _)
            have OD2 : Hid (OwnLs (wb2.setCell ⟨w.heap.size + 1, 4, none⟩ (.slice (some ⟨g2, 0, none⟩) (is.length + 1) gc2)) (w.heap.size + 2) _ (is ++ [ii])) := hls2.box SB2.box (by decide) (by decide)
            have OE2 : Hid (OwnLs (wb2.setCell ⟨w.heap.size + 1, 4, none⟩ (.slice (some ⟨g2, 0, none⟩) (is.length + 1) gc2)) (w.heap.size + 2) _ (os ++ [o])) := OC2.box SB2.box (by decide) (by decide)
            have SD12 := And.intro ka2.2.2.2.2 ka2.2.2.1
            have SD22 := And.intro kb2.2.2.2.2 kb2.2.2.1
            have SD32 := And.intro k32.2.2.2.2 k32.2.2.1
            refine ⟨SD12, ?_⟩
            simp only [Act.put, List.setIfInBounds_toArray, List.set_cons_zero, List.set_cons_succ]
            refine oneH (i := 6) rfl (by kernel_rfl) rfl (op_run (d := 47) (v' := .slice (some ⟨wa2.heap.size, 0, none⟩) 1 1) (w' := wa2.alloc (.cells #[.slice pa2 ii.length pc2] 49)) rfl (by go_simp) ⟨SD22, ?_⟩)
            simp only [Act.put, List.setIfInBounds_toArray, List.set_cons_zero, List.set_cons_succ]
            refine oneH (i := 7) rfl (by kernel_rfl) rfl (call_append (d := 48) (s := .tmp 42) (x := .tmp 47) (t := 34) rfl rfl (v := .slice ya is.length yc) (v2 := .slice (some ⟨wa2.heap.size, 0, none⟩) 1 1) (by simp [Act.eval]) (by simp [Act.eval]) hrun2 ⟨SD32, ?_⟩)
            simp only [Act.put, List.setIfInBounds_toArray, List.set_cons_zero, List.set_cons_succ]
            refine takeH (i := 8) (v := .pointer (some ⟨w.heap.size + 1, 4, none⟩)) (d := 49) rfl rfl (by kernel_rfl) (by kernel_rfl) (by kernel_rfl) (fun _ _ _ h => h) (by rfl) (fun V hV => by obtain ⟨v1, v2⟩ := hV; go_simp) SD32 ?_
            simp only [Act.put, List.setIfInBounds_toArray, List.set_cons_zero, List.set_cons_succ]
            refine wpAnyH_done (by kernel_rfl) ?_ _
            have kc2 := k32.2.2.2.2
            clear SD12 SD22 SD32 ka2 kb2 k32 SA2 OA2 OB2 OC2 SB2 hls2 hgr2 hli2 hrun2 PO2 hpo hprd hpk
            show Oper.wp _ _ _ _ _ _
            go_wp2_with fail
            go_roundw
            case rel => exact ⟨k + 1, os ++ [o], is ++ [ii], _, _, r2, by omega, by go_num, by rw [List.length_append, HOL.out]; rfl, by rw [List.length_append, HIL.out]; rfl, SC2.out, OE2.out, OD2.out, AP2.out.symm, HY2.out, by rw [HT.out]; exact HE2.out, HO1.out, HI1.out⟩
            case measure => simp [intOf]; omega
      · have hkM : M - k = 0 := by omega
        have HE1 : Hid (partC l = ((some (os, is, r)).filter fewB).map fun r => (⟨a, b, c, r.1, r.2.1⟩, r.2.2)) := by show _ = _; rw [HP4.out, HE.out, hkM, partsC]
        have hso2 : sumL os ≤ 1000000 := by have := HSO.out; omega
        have hsi2 : sumL is ≤ 1000000 := by have := HSI.out; omega
        clear hkM HE HP4
        go_wp2_with fail
        refine (count_any _ os _ OO.out.reads hso2).mono ?_
        rintro e w9 ⟨rfl, rfl⟩
        by_cases h6 : sumL os ≤ 600
        · have h6' : ((sumL os : Nat) : Int) ≤ 600 := by omega
          go_wp2_with fail
          refine (insist_yes _).mono ?_
          rintro e w9 ⟨rfl, rfl⟩
          go_wp2_with fail
          refine (count_any _ is _ OI.out.reads hsi2).mono ?_
          rintro e w9 ⟨rfl, rfl⟩
          by_cases h7 : sumL is ≤ 600
          · have h7' : ((sumL is : Nat) : Int) ≤ 600 := by omega
            have HE2 : Hid (partC l = some (⟨a, b, c, os, is⟩, r)) := by
              show _ = _
              rw [HE1.out, Option.filter_some_pos (by unfold fewB; simp [h6, h7])]; rfl
            go_wp2_with fail
            refine (insist_yes _).mono ?_
            rintro e w9 ⟨rfl, rfl⟩
            have hr := ST.out.res
            obtain ⟨e0, e1, e2, e3, e4⟩ := hr.cells
            have z0 := hr.frozen 0
            have z1 := hr.frozen 1
            have z2 := hr.frozen 2
            have z3 := hr.frozen 3
            have z4 := hr.frozen 4
            have DN := ST.out.done
            have HO2 : Hid (OwnLs _ w.heap.size _ os) := (OO.out.kept DN.2.2.2 fun g hg h => by omega).lower (by omega)
            have HI2 : Hid (OwnLs _ w.heap.size _ is) := (OI.out.kept DN.2.2.2 fun g hg h => by omega).lower (by omega)
            have HD2 : Hid _ := DN
            clear hr DN
            go_wp2_with fail
            obtain ⟨r0, r1, r2, r3, r4⟩ := HD2.out.2.2.1.cells
            refine bodyPost_ret (v := .agg #[.int .i64 a, .int .i64 b, .int .i64 c, .slice xa os.length xc, .slice ya is.length yc]) (by simp [results, Try.results37, go_sem, r0, r1, r2, r3, r4]) rfl ⟨HD2.out.1, .inl ⟨⟨a, b, c, os, is⟩, r, _, _, HE2.out, rfl, HO2.out, HI2.out, HD2.out.2.1⟩⟩
          · have h7' : ¬ ((sumL is : Nat) : Int) ≤ 600 := by omega
            have HE2 : Hid (partC l = none) := by
              show _ = _
              rw [HE1.out, Option.filter_some_neg (by unfold fewB; simp [h7])]; rfl
            go_wp2_with fail
            rw [decide_eq_false (by omega)]
            refine (insist_no _).mono ?_
            rintro e w9 ⟨rfl, rfl⟩
            exact ⟨rfl, ST.out.kept, .inr ⟨HE2.out, rfl⟩⟩
        · have h6' : ¬ ((sumL os : Nat) : Int) ≤ 600 := by omega
          have HE2 : Hid (partC l = none) := by
            show _ = _
            rw [HE1.out, Option.filter_some_neg (by unfold fewB; simp [h6])]; rfl
          go_wp2_with fail
          rw [decide_eq_false (by omega)]
          refine (insist_no _).mono ?_
          rintro e w9 ⟨rfl, rfl⟩
          exact ⟨rfl, ST.out.kept, .inr ⟨HE2.out, rfl⟩⟩
  · have HX4 : Hid (partC l = none) := by show _ = _; rw [HP3.out, if_neg he]
    have he1 : (errO a b c b == 0) = false := by simpa using he
    generalize errO a b c b = fe at *
    obtain ⟨ma, mn, mc, rfl⟩ : ∃ ma mn mc, mv = .slice ma mn mc := by obtain ⟨x, y, e, _⟩ := RowK.own encI_len hown; exact ⟨_, _, _, e⟩
    clear hown he HP3
    go_wp2_with fail
    refine (insist_no _).mono ?_
    rintro e w8 ⟨rfl, rfl⟩
    exact ⟨rfl, W4.out.kept, .inr ⟨HX4.out, rfl⟩⟩
end Go.Proofs.Ytacpicnihgggaaa

namespace Go.Proofs.Ytacpicnihgggaaa
open Go.ChangeShapes Go.WideShapes Go.ChangeAt Go.RowKit

set_option maxHeartbeats 400000 in
theorem bytesEqual_any (va vb : Value) (xs ys : List Int) (w : World) (ha : Reads .u8 w va xs) (hb : Reads .u8 w vb ys) (hx : ∀ x ∈ xs, 0 ≤ x ∧ x ≤ 255) (hy : ∀ x ∈ ys, 0 ≤ x ∧ x ≤ 255) :
    Calls Try.prog 86 #[va, vb] w fun e w' => e = .returned (.bool (decide (xs = ys))) ∧ w' = w := by
  have ca := ha.convert
  have cb := hb.convert
  clear ha hb
  go_enter Try.func86, Try.ntmps86
  go_wp2
  go_ret
  refine ⟨ret_bool ?_, rfl⟩
  have e := strOfNums_eq hx hy
  by_cases h : xs = ys
  · subst h; simp
  · have h2 : ¬ (strOfNums xs).toList = (strOfNums ys).toList := fun h3 => h (e.1 h3)
    simp [h, h2]

set_option maxHeartbeats 400000 in
theorem clone_any (v : Value) (xs : List Int) (w : World) (h : Reads .u8 w v xs) (hl : xs.length ≤ 140737488355328) :
    Calls Try.prog 87 #[v] w fun e w' =>
      ∃ v', e = .returned v' ∧ w'.ownsRow w.heap.size 5 1 v' xs.length (xs.map (Value.int .u8)) ∧ Below w.heap.size w w' := by
  have q22 : ∀ (w : World) (a : Option Addr) (n c n' c' : Nat), (binOp .eql 26 (.slice a n c) (.slice none n' c')).run Try.prog w = .ok (.bool a.isNone) w := fun w a n c n' c' => Lib.run_eql_slice_nil w _ _ a n c n' c' Try.underlying26
  have HR : Hid (Reads .u8 w v xs) := h
  obtain ⟨a, cap, rfl, hc, hm, ha, _⟩ := h
  cases a with
  | none =>
    have hcap := ha rfl
    have : xs = [] := List.eq_nil_of_length_eq_zero (by omega)
    subst this
    subst hcap
    clear ha
    go_enter Try.func87, Try.ntmps87
    go_wp2_with fail
    go_ret
    exact ⟨_, rfl, World.ownsRow_nil _ _ _ _, Below.refl _ _⟩
  | some x =>
    clear ha
    go_enter Try.func87, Try.ntmps87
    go_wp2_with (at_builtin; refine wpList_append_reads rfl _ _ rfl w.heap.size _ [] rfl (own_new0 w _ (Nat.le_refl _)) _ xs rfl (HR.out.below ((Below.refl _ _).alloc (Nat.le_refl _) _) (Nat.le_refl _)) (by simp; omega) (by simp) ?_)
    intro v2 w2 hown2 hbel2 _
    have B2 : Hid (Below w.heap.size w w2) := ((Below.refl _ _).alloc (Nat.le_refl _) _).trans hbel2
    have O2 : Hid (w2.ownsRow w.heap.size 5 1 v2 xs.length (xs.map (Value.int .u8))) := by simpa [Hid] using hown2
    clear hown2 hbel2
    go_wp2
    go_ret
    exact ⟨v2, rfl, O2.out, B2.out⟩

end Go.Proofs.Ytacpicnihgggaaa

namespace Go.Proofs.Ytacpicnihgggaaa
open Go.ChangeShapes Go.WideShapes Go.ChangeAt Go.RowKit

/-- P2.3 -/
def unwrapF (xs : List Int) : List Int × Nat × Int :=
  if (get xs).2.2 ≠ 0 then ([], 0, (get xs).2.2)
  else if 20000 < (get xs).1 then ([], 0, 1)
  else if xs.length < (get xs).2.1 + (get xs).1.toNat + 4 then ([], 0, 4)
  else if four (crc (xs.take ((get xs).2.1 + (get xs).1.toNat))) = (xs.drop ((get xs).2.1 + (get xs).1.toNat)).take 4 then
    ((xs.drop (get xs).2.1).take (get xs).1.toNat, (get xs).2.1 + (get xs).1.toNat + 4, 0)
  else ([], 0, 5)
theorem unwrapF_err {xs : List Int} {e : Int} (h : get xs = (0, 0, e)) (he : e ≠ 0) : unwrapF xs = ([], 0, e) := by simp [unwrapF, h, he]
theorem unwrapF_size {xs : List Int} {n : Int} {k : Nat} (h : get xs = (n, k, 0)) (hn : 20000 < n) : unwrapF xs = ([], 0, 1) := by simp [unwrapF, h, hn]
theorem unwrapF_short {xs : List Int} {m k : Nat} (h : get xs = ((m : Int), k, 0)) (hn : m ≤ 20000) (hl : xs.length < k + m + 4) : unwrapF xs = ([], 0, 4) := by
  have h1 : ¬ 20000 < (m : Int) := by omega
  simp [unwrapF, h, h1, hl]
theorem unwrapF_sum {xs : List Int} {m k : Nat} (h : get xs = ((m : Int), k, 0)) (hn : m ≤ 20000) (hl : k + m + 4 ≤ xs.length) (hs : ¬ four (crc (xs.take (k + m))) = (xs.drop (k + m)).take 4) : unwrapF xs = ([], 0, 5) := by
  have h1 : ¬ 20000 < (m : Int) := by omega
  have h2 : ¬ xs.length < k + m + 4 := by omega
  simp only [unwrapF, h, ne_eq, not_true_eq_false, if_false, if_neg h1, Int.toNat_natCast, if_neg h2, if_neg hs]
theorem unwrapF_ok {xs : List Int} {m k : Nat} (h : get xs = ((m : Int), k, 0)) (hn : m ≤ 20000) (hl : k + m + 4 ≤ xs.length) (hs : four (crc (xs.take (k + m))) = (xs.drop (k + m)).take 4) : unwrapF xs = ((xs.drop k).take m, k + m + 4, 0) := by
  have h1 : ¬ 20000 < (m : Int) := by omega
  have h2 : ¬ xs.length < k + m + 4 := by omega
  simp only [unwrapF, h, ne_eq, not_true_eq_false, if_false, if_neg h1, Int.toNat_natCast, if_neg h2, if_pos hs]

theorem unwrapF_bytes {xs : List Int} (hx : ∀ x ∈ xs, 0 ≤ x ∧ x ≤ 255) : ∀ x ∈ (unwrapF xs).1, 0 ≤ x ∧ x ≤ 255 := by
  intro x h
  unfold unwrapF at h
  repeat' split at h
  all_goals first | (simp at h; done) | exact hx x (List.mem_of_mem_drop (List.mem_of_mem_take h))
set_option maxHeartbeats 800000 in
set_option maxRecDepth 100000 in
theorem unwrap_tab (g : Nat) (v : Value) (xs : List Int) (w : World) (hT : Tab w g) (h : Reads .u8 w v xs) (hx : ∀ x ∈ xs, 0 ≤ x ∧ x ≤ 255) :
    Calls Try.prog 73 #[.pointer (some ⟨g, 0, none⟩), v] w fun e w' =>
      ∃ v', e = .returned (.tuple #[v', .int .i64 (unwrapF xs).2.1, .int .i64 (unwrapF xs).2.2]) ∧ w'.ownsRow w.heap.size 5 1 v' (unwrapF xs).1.length ((unwrapF xs).1.map (Value.int .u8)) ∧ Below w.heap.size w w' := by
  have HT : Hid (Tab w g) := hT
  have HX : Hid (∀ x ∈ xs, 0 ≤ x ∧ x ≤ 255) := hx
  have G := get_any v xs w h hx
  rcases get_inv hx with ⟨e, hg, he⟩ | ⟨n, r, hg, hr, hn0, hn1⟩
  · rw [hg] at G
    have HU : Hid (unwrapF xs = ([], 0, e)) := unwrapF_err hg he
    have HG : Hid (Calls Try.prog 23 #[v] w fun e' w' => e' = .returned (.tuple #[.int .u64 0, .int .i64 ((0 : Nat) : Int), .int .i64 e]) ∧ w' = w) := G
    have heb : (e != 0) = true := by simp [he]
    clear G hg hT hx h HX
    go_enter Try.func73, Try.ntmps73
    go_wp2_with fail
    refine HG.out.mono ?_
    rintro e w1 ⟨rfl, rfl⟩
    go_wp2_with fail
    go_ret3
    exact ⟨_, by rw [HU.out]; rfl, by rw [HU.out]; exact World.ownsRow_nil _ _ _ _, Below.refl _ _⟩
  · obtain ⟨m, rfl⟩ := Int.eq_ofNat_of_zero_le hn0
    rw [hg] at G
    have pl := put_len (m : Int)
    have hkl : (put (m : Int)).length ≤ xs.length := by rw [hr]; simp
    clear hr
    generalize (put (m : Int)).length = k at *
    have HGG : Hid (get xs = ((m : Int), k, 0)) := hg
    have HG : Hid (Calls Try.prog 23 #[v] w fun e' w' => e' = .returned (.tuple #[.int .u64 (m : Int), .int .i64 (k : Int), .int .i64 0]) ∧ w' = w) := G
    clear G hg hT hx
    by_cases hbig : 20000 < (m : Int)
    · have HU : Hid (unwrapF xs = ([], 0, 1)) := unwrapF_size HGG.out hbig
      go_enter Try.func73, Try.ntmps73
      go_wp2_with fail
      refine HG.out.mono ?_
      rintro e w1 ⟨rfl, rfl⟩
      go_wp2_with fail
      go_ret3
      exact ⟨_, by rw [HU.out]; rfl, by rw [HU.out]; exact World.ownsRow_nil _ _ _ _, Below.refl _ _⟩
    · have hm2 : m ≤ 20000 := by omega
      obtain ⟨b, off, cap, rfl, hc, hm, _, hcell⟩ := h.plain (by omega)
      have HM : Hid (cap ≤ maxLen) := hm
      unfold maxLen at hm
      by_cases hsh : xs.length < k + m + 4
      · have HU : Hid (unwrapF xs = ([], 0, 4)) := unwrapF_short HGG.out hm2 hsh
        clear h hcell
        go_enter Try.func73, Try.ntmps73
        go_wp2_with fail
        refine HG.out.mono ?_
        rintro e w1 ⟨rfl, rfl⟩
        go_wp2_with fail
        go_ret3
        exact ⟨_, by rw [HU.out]; rfl, by rw [HU.out]; exact World.ownsRow_nil _ _ _ _, Below.refl _ _⟩
      · have RU : Hid (∀ w1, Below w.heap.size w w1 → Reads .u8 w1 (.slice (some ⟨b, off, none⟩) (k + m) cap) (xs.take (k + m))) := fun w1 hb => (reads_upto hc HM.out (by omega) hcell).below hb (Nat.le_refl _)
        have RS : Hid (∀ w1, Below w.heap.size w w1 → Reads .u8 w1 (.slice (some ⟨b, off + (k + m), none⟩) 4 (cap - (k + m))) ((xs.drop (k + m)).take 4)) := fun w1 hb => by
          have := (reads_mid (u := k + m) (n := k + m + 4) hc HM.out (by omega) (by omega) hcell).below hb (Nat.le_refl _)
          simpa using this
        have RP : Hid (∀ w1, Below w.heap.size w w1 → Reads .u8 w1 (.slice (some ⟨b, off + k, none⟩) m (cap - k)) ((xs.drop k).take m)) := fun w1 hb => by
          have := (reads_mid (u := k) (n := k + m) hc HM.out (by omega) (by omega) hcell).below hb (Nat.le_refl _)
          simpa using this
        have XU : Hid (∀ x ∈ xs.take (k + m), 0 ≤ x ∧ x ≤ 255) := fun x hx => HX.out x (List.mem_of_mem_take hx)
        have XS : Hid (∀ x ∈ (xs.drop (k + m)).take 4, 0 ≤ x ∧ x ≤ 255) := fun x hx => HX.out x (List.mem_of_mem_drop (List.mem_of_mem_take hx))
        clear h hcell
        go_enter Try.func73, Try.ntmps73
        go_wp2_with fail
        refine HG.out.mono ?_
        rintro e w1 ⟨rfl, rfl⟩
        go_wp2_with fail
        refine (sumAsBytes_any g _ (xs.take (k + m)) _ HT.out (RU.out _ (Below.refl _ _)) XU.out).mono ?_
        rintro e w2 ⟨rfl, hbel2⟩
        have B2 : Hid (Below w1.heap.size w1 w2) := hbel2
        have hs2 := hbel2.size
        clear hbel2
        have hc4 : (four (crc (xs.take (k + m)))).length = 4 := rfl
        have hcl := crc_lt XU.out
        obtain ⟨s, hss⟩ : ∃ s, crc (xs.take (k + m)) = s := ⟨_, rfl⟩
        have HSS : Hid (crc (xs.take (k + m)) = s) := hss
        rw [hss] at hc4 hcl ⊢
        clear hss
        have X4 : Hid (∀ x ∈ four s, 0 ≤ x ∧ x ≤ 255) := four_bytes hcl
        have R4 : Hid (Reads .u8 (w2.alloc (.cells ((four s).map (Value.int .u8)).toArray 89)) (.slice (some ⟨w2.heap.size, 0, none⟩) 4 4) (four s)) := reads_block (heap_alloc_new _ _) (by simp [hc4, maxLen])
        have B3 : Hid (Below w1.heap.size w1 (w2.alloc (.cells ((four s).map (Value.int .u8)).toArray 89))) := B2.out.alloc hs2 _
        have RS3 : Hid (Reads .u8 (w2.alloc (.cells ((four s).map (Value.int .u8)).toArray 89)) (.slice (some ⟨b, off + (k + m), none⟩) 4 (cap - (k + m))) ((xs.drop (k + m)).take 4)) := RS.out _ B3.out
        generalize hys : (xs.drop (k + m)).take 4 = ys at *
        have HYS : Hid (List.take 4 (List.drop (k + m) xs) = ys) := hys
        clear hys RS RU
        simp only [four, List.map_cons, List.map_nil] at R4 B3 RS3 ⊢
        have cu1 : k + m < cap := by omega
        have cu2 : k + m + 4 ≤ cap := by omega
        go_wp2_with fail
        go_quiet ((go_at_call 86; exact Calls.quiet_of_same (bytesEqual_any _ _ (four s) ys _ R4.out RS3.out X4.out XS.out)))
        have BQ : Hid (Below w1.heap.size w1 ((w2.alloc (.cells #[.int .u8 ((s : Int) % 256), .int .u8 ((s : Int) / 256 % 256), .int .u8 ((s : Int) / 65536 % 256), .int .u8 ((s : Int) / 16777216)] 89)).drewN nq)) := below_drewN B3.out _
        generalize (w2.alloc (.cells #[.int .u8 ((s : Int) % 256), .int .u8 ((s : Int) / 256 % 256), .int .u8 ((s : Int) / 65536 % 256), .int .u8 ((s : Int) / 16777216)] 89)).drewN nq = w3 at *
        clear R4 B3 RS3
        have hs3 := BQ.out.size
        by_cases hsum : four s = ys
        · have HU : Hid (unwrapF xs = ((xs.drop k).take m, k + m + 4, 0)) := unwrapF_ok HGG.out hm2 (by omega) (by rw [HSS.out, HYS.out]; exact hsum)
          have hd : decide (four s = ys) = true := decide_eq_true hsum
          clear hsum
          rw [hd]
          clear hd
          have cu3 : k < cap := by omega
          go_wp2_with fail
          refine (clone_any _ ((xs.drop k).take m) _ ?_ ?_).mono ?_
          · have := RP.out _ BQ.out
            simpa using this
          · simp; omega
          rintro e w4 ⟨v4, rfl, hown4, hbel4⟩
          have O4 : Hid (w4.ownsRow w1.heap.size 5 1 v4 (unwrapF xs).1.length ((unwrapF xs).1.map (Value.int .u8))) := by show World.ownsRow _ _ _ _ _ _ _; rw [HU.out]; exact own_lower hown4 hs3
          have B4 : Hid (Below w1.heap.size w1 w4) := BQ.out.trans (hbel4.mono hs3)
          clear hown4 hbel4
          go_wp2
          go_ret3
          exact ⟨v4, by rw [HU.out]; simp, O4.out, B4.out⟩
        · have HU : Hid (unwrapF xs = ([], 0, 5)) := unwrapF_sum HGG.out hm2 (by omega) (by rw [HSS.out, HYS.out]; exact hsum)
          have hd : decide (four s = ys) = false := decide_eq_false hsum
          clear hsum
          rw [hd]
          clear hd
          go_wp2_with fail
          go_ret3
          exact ⟨_, by rw [HU.out]; rfl, by rw [HU.out]; exact World.ownsRow_nil _ _ _ _, BQ.out⟩
end Go.Proofs.Ytacpicnihgggaaa

namespace Go.Proofs.Ytacpicnihgggaaa
open Go.ChangeShapes Go.WideShapes Go.ChangeAt Go.RowKit

theorem unwrap_any (v : Value) (xs : List Int) (w : World) (h : Reads .u8 w v xs) (hx : ∀ x ∈ xs, 0 ≤ x ∧ x ≤ 255) :
    Calls Try.prog 58 #[v] w fun e w' =>
      ∃ v', e = .returned (.tuple #[v', .int .i64 (unwrapF xs).2.1, .int .i64 (unwrapF xs).2.2]) ∧ w'.ownsRow w.heap.size 5 1 v' (unwrapF xs).1.length ((unwrapF xs).1.map (Value.int .u8)) ∧ Below w.heap.size w w' := by
  have HR : Hid (Reads .u8 w v xs) := h
  have HX : Hid (∀ x ∈ xs, 0 ≤ x ∧ x ≤ 255) := hx
  clear h hx
  generalize hu : unwrapF xs = q at *
  have HU : Hid (unwrapF xs = q) := hu
  clear hu
  obtain ⟨q1, q2, q3⟩ := q
  go_enter Try.func58, Try.ntmps58
  go_wp2_with fail
  refine (newTable_any _).mono ?_
  rintro e w1 ⟨rfl, hT, hbel, _⟩
  have HT : Hid (Tab w1 w.heap.size) := hT
  have hs := hbel.size
  clear hT
  go_wp2_with fail
  refine (unwrap_tab _ _ xs _ HT.out (HR.out.below hbel (Nat.le_refl _)) HX.out).mono ?_
  rintro e w2 ⟨v2, rfl, hown2, hbel2⟩
  rw [HU.out] at hown2 ⊢
  have O2 : Hid (w2.ownsRow w.heap.size 5 1 v2 q1.length (q1.map (Value.int .u8))) := own_lower hown2 hs
  have B2 : Hid (Below w.heap.size w w2) := hbel.trans (hbel2.mono hs)
  clear hown2 hbel2 hbel
  go_wp2
  go_ret3
  exact ⟨v2, rfl, O2.out, B2.out⟩
end Go.Proofs.Ytacpicnihgggaaa

namespace Go.Proofs.Ytacpicnihgggaaa
set_option maxRecDepth 100000
open Go.ChangeShapes Go.WideShapes Go.ChangeAt Go.RowKit

/-- What store's open comes to, by what Unwrap tells: the payload, how many bytes, the error; L bytes came in. -/
def OpenP (w w' : World) (pay : List Int) (u : Nat) (fe : Int) (L : Nat) (e : Ending) : Prop :=
  Below w.heap.size w w' ∧ ((fe ≠ 0 ∧ e = upP fe) ∨ (fe = 0 ∧ u ≠ L ∧ e = upP 3) ∨ (fe = 0 ∧ u = L ∧ ∃ q, e = .returned (.pointer (some ⟨q, 0, none⟩)) ∧ w.heap.size ≤ q ∧ Rd w' q pay))

set_option maxHeartbeats 800000 in
set_option maxRecDepth 100000 in
theorem openRd_any (v : Value) (xs : List Int) (w : World) (h : Reads .u8 w v xs) (hx : ∀ x ∈ xs, 0 ≤ x ∧ x ≤ 255) :
    Calls Try.prog 36 #[v] w fun e w' => OpenP w w' (unwrapF xs).1 (unwrapF xs).2.1 (unwrapF xs).2.2 xs.length e := by
  have HR : Hid (Reads .u8 w v xs) := h
  have HU : Hid (∀ X, Reads .u8 X v xs → Calls Try.prog 58 #[v] X fun e w' => ∃ v', e = .returned (.tuple #[v', .int .i64 (unwrapF xs).2.1, .int .i64 (unwrapF xs).2.2]) ∧ w'.ownsRow X.heap.size 5 1 v' (unwrapF xs).1.length ((unwrapF xs).1.map (Value.int .u8)) ∧ Below X.heap.size X w') := fun X hX => unwrap_any v xs X hX hx
  obtain ⟨a, cap, rfl, hc, hm, _⟩ := h
  clear hx
  generalize (unwrapF xs).1 = pay at *
  generalize (unwrapF xs).2.1 = u at *
  generalize (unwrapF xs).2.2 = fe at *
  generalize hL : xs.length = L at *
  go_enter Try.func36, Try.ntmps36
  go_wp2_with fail
  refine (HU.out _ HR.out).mono ?_
  rintro e w1 ⟨pv, rfl, hown, hb1⟩
  have HB : Hid (Below w.heap.size w w1) := hb1
  have HP : Hid (Reads .u8 w1 pv pay) := reads_own hown
  have HG : Hid (∀ a n c, pv = .slice (some a) n c → a.block < w1.heap.size) := fun a n c e => (hown.lt a.block (by rw [e]; rfl)).2
  obtain ⟨pa, pc, rfl⟩ : ∃ pa pc, pv = .slice pa pay.length pc := by obtain ⟨x, y, e, _⟩ := reads_own hown; exact ⟨_, _, e⟩
  have hs1 := hb1.size
  clear hown hb1
  by_cases hf : fe = 0
  · subst hf
    by_cases hu : u = L
    · subst hu
      have hq : ((u : Int) == (u : Int)) = true := by simp
      go_wp2_with fail
      refine (insist_yes _).mono ?_
      rintro e w2 ⟨rfl, rfl⟩
      go_wp2_with fail
      go_ret
      refine ⟨HB.out.alloc hs1 _, .inr (.inr ⟨rfl, rfl, w2.heap.size, rfl, hs1, _, box_new _ _ _, ?_, HG.out⟩)⟩
      exact HP.out.below (below_alloc _ _) (Nat.le_refl _)
    · have hq : ((u : Int) == (L : Int)) = false := by simp; omega
      go_wp2_with fail
      refine (insist_no _).mono ?_
      rintro e w2 ⟨rfl, rfl⟩
      exact ⟨rfl, HB.out, .inr (.inl ⟨rfl, hu, rfl⟩)⟩
  · have hq : (fe != 0) = true := by simpa using hf
    go_wp2_with fail
    exact ⟨rfl, HB.out, .inl ⟨hf, rfl⟩⟩

theorem catch_idle (p f : Addr) (w : World) :
    CallsD Try.prog 35 #[.pointer (some p), .pointer (some f)] .returning w fun e u' w' => e = .returned (.tuple #[]) ∧ u' = .returning ∧ w' = w := by
  refine callsD_of_wpS Try.func35 rfl fun c₀ cs hu => ?_
  apply wpS_seq
  apply wpS_region
  simp [wpOpsS, go_sem, recoverD, hu, Try.ntmps35, Exit.thenS]
  apply wpS_seq
  apply wpS_region
  simp [wpOpsS, go_sem, Exit.thenS]
  refine wpS_cond (t := false) (by simp [Act.eval, Array.replicate]) ?_
  simp only [Bool.false_eq_true, if_false]
  refine wpS_of_wp (wp_skip ?_)
  cases c₀
  simp_all [bodyPostS, results, Try.results35]

theorem assert_errno (x : Int) (w : World) : (Instr.typeAssert (.iface 27 (.int .i64 x)) 20 27 false).run Try.prog w = .ok (.int .i64 x) w := by
  simp [Instr.typeAssert, run_underlying Try.underlying27]

/-- Both boxes are filled. -/
theorem put_world {p f : Nat} {a b c xx y d a' b' c' x' y' d' : Value} {w : World} (hp : PB w p a b c xx y) (hf : w.heap[f]? = some (.cells #[d] 27 (0, 0))) (hne : ¬ p = f) :
    PB ((((((w.setCell ⟨p, 0, none⟩ a').setCell ⟨p, 1, none⟩ b').setCell ⟨p, 2, none⟩ c').setCell ⟨p, 3, none⟩ x').setCell ⟨p, 4, none⟩ y').setCell ⟨f, 0, none⟩ d') p a' b' c' x' y' ∧
    ((((((w.setCell ⟨p, 0, none⟩ a').setCell ⟨p, 1, none⟩ b').setCell ⟨p, 2, none⟩ c').setCell ⟨p, 3, none⟩ x').setCell ⟨p, 4, none⟩ y').setCell ⟨f, 0, none⟩ d').heap[f]? = some (.cells #[d'] 27 (0, 0)) ∧
    Kept (fun k => k = p ∨ k = f) w ((((((w.setCell ⟨p, 0, none⟩ a').setCell ⟨p, 1, none⟩ b').setCell ⟨p, 2, none⟩ c').setCell ⟨p, 3, none⟩ x').setCell ⟨p, 4, none⟩ y').setCell ⟨f, 0, none⟩ d') := by
  have P1 := ((((hp.set0 a').set1 b').set2 c').set3 x').set4 y'
  have K1 : Kept (fun k => k = p) w (((((w.setCell ⟨p, 0, none⟩ a').setCell ⟨p, 1, none⟩ b').setCell ⟨p, 2, none⟩ c').setCell ⟨p, 3, none⟩ x').setCell ⟨p, 4, none⟩ y') := ((((Kept.box w p 0 a').trans (Kept.box _ p 1 b')).trans (Kept.box _ p 2 c')).trans (Kept.box _ p 3 x')).trans (Kept.box _ p 4 y')
  generalize ((((w.setCell ⟨p, 0, none⟩ a').setCell ⟨p, 1, none⟩ b').setCell ⟨p, 2, none⟩ c').setCell ⟨p, 3, none⟩ x').setCell ⟨p, 4, none⟩ y' = W at *
  have F1 := (K1.block f (Array.getElem?_eq_some_iff.1 hf).1 (fun e => hne e.symm)).trans hf
  have K2 := Kept.box W f 0 d'
  have F2 := box1_set (u := d') F1
  generalize W.setCell ⟨f, 0, none⟩ d' = V at *
  exact ⟨P1.kept K2 hne, F2, (K1.mono fun _ h => .inl h).trans (K2.mono fun _ h => .inr h)⟩
/-- The boxes behind what is deferred. -/
theorem up_world {p f : Nat} {x : Int} {a b c xx y d : Value} {w : World} (hp : PB w p a b c xx y) (hf : w.heap[f]? = some (.cells #[d] 27 (0, 0))) (hne : ¬ p = f) :
    PB ((((((w.setCell ⟨p, 0, none⟩ (.int .i64 0)).setCell ⟨p, 1, none⟩ (.int .i64 0)).setCell ⟨p, 2, none⟩ (.int .i64 0)).setCell ⟨p, 3, none⟩ (.slice none 0 0)).setCell ⟨p, 4, none⟩ (.slice none 0 0)).setCell ⟨f, 0, none⟩ (.int .i64 x)).drew p (.int .i64 0) (.int .i64 0) (.int .i64 0) (.slice none 0 0) (.slice none 0 0) ∧
    ((((((w.setCell ⟨p, 0, none⟩ (.int .i64 0)).setCell ⟨p, 1, none⟩ (.int .i64 0)).setCell ⟨p, 2, none⟩ (.int .i64 0)).setCell ⟨p, 3, none⟩ (.slice none 0 0)).setCell ⟨p, 4, none⟩ (.slice none 0 0)).setCell ⟨f, 0, none⟩ (.int .i64 x)).drew.heap[f]? = some (.cells #[.int .i64 x] 27 (0, 0)) ∧
    Kept (fun k => k = p ∨ k = f) w ((((((w.setCell ⟨p, 0, none⟩ (.int .i64 0)).setCell ⟨p, 1, none⟩ (.int .i64 0)).setCell ⟨p, 2, none⟩ (.int .i64 0)).setCell ⟨p, 3, none⟩ (.slice none 0 0)).setCell ⟨p, 4, none⟩ (.slice none 0 0)).setCell ⟨f, 0, none⟩ (.int .i64 x)).drew := by
  obtain ⟨h1, h2, h3⟩ := put_world (a' := .int .i64 0) (b' := .int .i64 0) (c' := .int .i64 0) (x' := .slice none 0 0) (y' := .slice none 0 0) (d' := .int .i64 x) hp hf hne
  generalize (((((w.setCell ⟨p, 0, none⟩ (.int .i64 0)).setCell ⟨p, 1, none⟩ (.int .i64 0)).setCell ⟨p, 2, none⟩ (.int .i64 0)).setCell ⟨p, 3, none⟩ (.slice none 0 0)).setCell ⟨p, 4, none⟩ (.slice none 0 0)).setCell ⟨f, 0, none⟩ (.int .i64 x) = V at *
  exact ⟨h1.kept (S := fun _ => False) (Kept.refl _ V).drew fun h => h, h2, h3.drew⟩

set_option maxHeartbeats 800000 in
theorem catch_up (p f : Nat) (x : Int) (a b c xx y d : Value) (older : List PanicEntry) (w : World) (hp : PB w p a b c xx y) (hf : w.heap[f]? = some (.cells #[d] 27 (0, 0))) :
    CallsD Try.prog 35 #[.pointer (some ⟨p, 0, none⟩), .pointer (some ⟨f, 0, none⟩)] (.panicking ({ v := .iface 27 (.int .i64 x), recovered := false } :: older)) w fun e u' w' => e = .returned (.tuple #[]) ∧ u' = .panicking ({ v := .iface 27 (.int .i64 x), recovered := true } :: older) ∧ PB w' p (.int .i64 0) (.int .i64 0) (.int .i64 0) (.slice none 0 0) (.slice none 0 0) ∧ w'.heap[f]? = some (.cells #[.int .i64 x] 27 (0, 0)) ∧ Kept (fun k => k = p ∨ k = f) w w' := by
  refine callsD_of_wpS Try.func35 rfl fun c₀ cs hu => ?_
  apply wpS_seq
  apply wpS_region
  simp [wpOpsS, go_sem, recoverD, hu, Try.ntmps35, Exit.thenS]
  apply wpS_seq
  apply wpS_region
  simp [wpOpsS, go_sem, Exit.thenS]
  refine wpS_cond (t := true) (by simp [Act.eval, Array.replicate]) ?_
  simp only [if_true]
  refine wpS_of_wp ?_
  obtain ⟨e0, e1, e2, e3, e4⟩ := hp.cells
  have z0 := hp.frozen 0
  have z1 := hp.frozen 1
  have z2 := hp.frozen 2
  have z3 := hp.frozen 3
  have z4 := hp.frozen 4
  have k0 := box1_cell hf
  have kz := box_frozen hf 0
  have hne : ¬ p = f := fun e => by subst e; rw [hp] at hf; injection hf with hf; injection hf with _ hf; cases hf
  simp only [Array.replicate, List.replicate, List.setIfInBounds_toArray, List.set_cons_zero, List.set_cons_succ, List.append_toArray, List.cons_append, List.nil_append]
  have hta := assert_errno x
  go_region
  have U := up_world (x := x) hp hf hne
  generalize ((((((w.setCell ⟨p, 0, none⟩ (.int .i64 0)).setCell ⟨p, 1, none⟩ (.int .i64 0)).setCell ⟨p, 2, none⟩ (.int .i64 0)).setCell ⟨p, 3, none⟩ (.slice none 0 0)).setCell ⟨p, 4, none⟩ (.slice none 0 0)).setCell ⟨f, 0, none⟩ (.int .i64 x)).drew = W at *
  exact ⟨rfl, _, rfl, .tuple #[], by simp [results, Try.results35], rfl, rfl, U.1, U.2.1, U.2.2⟩

/-- P7.2. -/
def openF (xs : List Int) : PartL × Int :=
  if (unwrapF xs).2.2 ≠ 0 then (noP, (unwrapF xs).2.2) else if (unwrapF xs).2.1 = xs.length then (match payC (unwrapF xs).1 with | some p => (p, 0) | none => (noP, 3)) else (noP, 3)
/-- A part as it is answered. -/
def PartR (w : World) (v : Value) (p : PartL) : Prop := ∃ vo vi, v = .agg #[.int .i64 p.wk, .int .i64 p.ks, .int .i64 p.n, vo, vi] ∧ LsR w vo p.out ∧ LsR w vi p.inn
theorem PartR.none (w : World) : PartR w (.agg #[.int .i64 0, .int .i64 0, .int .i64 0, .slice none 0 0, .slice none 0 0]) noP := ⟨_, _, rfl, LsR.nil w, LsR.nil w⟩
/-- What Open comes to. -/
def OpnP (w w' : World) (r : PartL × Int) (e : Ending) : Prop := ∃ v, e = .returned (.tuple #[v, .int .i64 r.2]) ∧ PartR w' v r.1 ∧ Below w.heap.size w w'

set_option maxHeartbeats 2000000 in
set_option maxRecDepth 100000 in
theorem storeOpen_any (v : Value) (xs : List Int) (w : World) (h : Reads .u8 w v xs) (hx : ∀ x ∈ xs, 0 ≤ x ∧ x ≤ 255) :
    Calls Try.prog 14 #[v] w fun e w' => OpnP w w' (openF xs) e := by
  have hmf := makeFunc_run
  have HR : Hid (Reads .u8 w v xs) := h
  have HC : Hid (∀ X, Reads .u8 X v xs → Calls Try.prog 36 #[v] X fun e w' => OpenP X w' (unwrapF xs).1 (unwrapF xs).2.1 (unwrapF xs).2.2 xs.length e) := fun X hX => openRd_any v xs X hX hx
  have HY : Hid (∀ y ∈ (unwrapF xs).1, 0 ≤ y ∧ y ≤ 255) := unwrapF_bytes hx
  have HF1 : Hid ((unwrapF xs).2.2 ≠ 0 → openF xs = (noP, (unwrapF xs).2.2)) := fun h => by unfold openF; rw [if_pos h]
  have HF2 : Hid ((unwrapF xs).2.2 = 0 → (unwrapF xs).2.1 ≠ xs.length → openF xs = (noP, 3)) := fun h h2 => by unfold openF; rw [if_neg (by simpa using h), if_neg h2]
  have HF3 : Hid ((unwrapF xs).2.2 = 0 → (unwrapF xs).2.1 = xs.length → payC (unwrapF xs).1 = none → openF xs = (noP, 3)) := fun h h2 h3 => by unfold openF; rw [if_neg (by simpa using h), if_pos h2, h3]
  have HF4 : Hid (∀ p, (unwrapF xs).2.2 = 0 → (unwrapF xs).2.1 = xs.length → payC (unwrapF xs).1 = some p → openF xs = (p, 0)) := fun p h h2 h3 => by unfold openF; rw [if_neg (by simpa using h), if_pos h2, h3]
  clear h hx
  generalize openF xs = res at *
  generalize (unwrapF xs).1 = pay at *
  generalize (unwrapF xs).2.1 = u at *
  generalize (unwrapF xs).2.2 = fe at *
  go_enter_defers Try.func14, Try.ntmps14
  go_wp2_with fail
  refine (HC.out _ ?_).mono ?_
  · exact HR.out.below ((below_alloc _ _).alloc (by simp) _) (Nat.le_refl _)
  rintro e w1 ⟨hb1, hcase⟩
  have B1 : Below (w.heap.size + 2) ((w.alloc (.cells #[.int .i64 0, .int .i64 0, .int .i64 0, .slice none 0 0, .slice none 0 0] 36)).alloc (.cells #[.int .i64 0] 27)) w1 := by simpa using hb1
  have P1 : PB w1 w.heap.size (.int .i64 0) (.int .i64 0) (.int .i64 0) (.slice none 0 0) (.slice none 0 0) := by
    unfold PB
    rw [B1.block _ (by omega), (below_alloc (w.alloc (.cells #[.int .i64 0, .int .i64 0, .int .i64 0, .slice none 0 0, .slice none 0 0] 36)) (.cells #[.int .i64 0] 27)).block _ (by simp)]
    exact box_new _ _ _
  have F1 : w1.heap[w.heap.size + 1]? = some (.cells #[.int .i64 0] 27 (0, 0)) := by
    rw [B1.block _ (by omega)]
    exact heap_second _ _ _ _
  have BW : Hid (Below w.heap.size w w1) := below_two B1
  have hs1 : w.heap.size + 2 ≤ w1.heap.size := by have := B1.size; simpa using this
  clear hb1 B1
  rcases hcase with ⟨h1, rfl⟩ | ⟨h1, h2, rfl⟩ | ⟨h1, h2, q, rfl, hq, hrd⟩
  · have hr := HF1.out h1
    subst hr
    unfold upP
    refine leaves_cons (f := 35) (args := #[.pointer (some ⟨w.heap.size, 0, none⟩), .pointer (some ⟨w.heap.size + 1, 0, none⟩)]) (by simp) (by simp [go_sem]) ?_
    refine (catch_up w.heap.size (w.heap.size + 1) fe _ _ _ _ _ _ [] w1 P1 F1).mono ?_
    rintro e u' w2 ⟨rfl, rfl, hpb, hfb, hk⟩
    have BW2 : Hid (Below w.heap.size w w2) := BW.out.trans (hk.below (by omega) (fun k hk => by omega))
    obtain ⟨r0, r1, r2, r3, r4⟩ := hpb.cells
    have r5 := box1_cell hfb
    simp [Leaves, settle, results, Try.results14, go_sem, r0, r1, r2, r3, r4, r5]
    exact ⟨_, rfl, PartR.none w2, BW2.out⟩
  · have hr := HF2.out h1 h2
    subst hr
    unfold upP
    refine leaves_cons (f := 35) (args := #[.pointer (some ⟨w.heap.size, 0, none⟩), .pointer (some ⟨w.heap.size + 1, 0, none⟩)]) (by simp) (by simp [go_sem]) ?_
    refine (catch_up w.heap.size (w.heap.size + 1) 3 _ _ _ _ _ _ [] w1 P1 F1).mono ?_
    rintro e u' w9 ⟨rfl, rfl, hpb, hfb, hk⟩
    have BW2 : Hid (Below w.heap.size w w9) := BW.out.trans (hk.below (by omega) (fun k hk => by omega))
    obtain ⟨r0, r1, r2, r3, r4⟩ := hpb.cells
    have r5 := box1_cell hfb
    simp [Leaves, settle, results, Try.results14, go_sem, r0, r1, r2, r3, r4, r5]
    exact ⟨_, rfl, PartR.none w9, BW2.out⟩
  · have hq2 : w.heap.size + 2 ≤ q := by simpa using hq
    have RD1 : Hid (Rd w1 q pay) := hrd
    have PB1 : Hid (PB w1 w.heap.size (.int .i64 0) (.int .i64 0) (.int .i64 0) (.slice none 0 0) (.slice none 0 0)) := P1
    have FB1 : Hid (w1.heap[w.heap.size + 1]? = some (.cells #[.int .i64 0] 27 (0, 0))) := F1
    have HF5 : Hid (payC pay = none → res = (noP, 3)) := HF3.out h1 h2
    have HF6 : Hid (∀ p, payC pay = some p → res = (p, 0)) := fun p => HF4.out p h1 h2
    have HPP : Hid (payC pay = (partC pay).bind fun r => if r.2 = [] then some r.1 else none) := pay_part pay
    clear HF1 HF2 HF3 HF4 h1 h2 hq hrd P1 F1 HC
    go_wp2_with fail
    refine (part_any q pay w1 RD1.out HY.out).mono ?_
    rintro e w2 ⟨hk2, hcase⟩
    have PB2 : Hid (PB w2 w.heap.size (.int .i64 0) (.int .i64 0) (.int .i64 0) (.slice none 0 0) (.slice none 0 0)) := PB1.out.kept hk2 (by omega)
    have FB2 : Hid (w2.heap[w.heap.size + 1]? = some (.cells #[.int .i64 0] 27 (0, 0))) := by show _ = _; rw [hk2.block _ (by omega) (by omega)]; exact FB1.out
    have BW2 : Hid (Below w.heap.size w w2) := BW.out.trans (hk2.below (by omega) (fun k hk => by omega))
    have hs2 := hk2.size
    clear hk2 PB1 FB1 BW RD1
    rcases hcase with ⟨p, r, vo, vi, hp, rfl, ho, hi, hrd⟩ | ⟨hp, rfl⟩
    · have RD2 : Hid (Rd w2 q r) := hrd
      have OO : Hid (OwnLs w2 w1.heap.size vo p.out) := ho
      have OI : Hid (OwnLs w2 w1.heap.size vi p.inn) := hi
      obtain ⟨xa, xc, rfl⟩ := ho.shape
      obtain ⟨ya, yc, rfl⟩ := hi.shape
      obtain ⟨e0, e1, e2, e3, e4⟩ := PB2.out.cells
      have z0 := PB2.out.frozen 0
      have z1 := PB2.out.frozen 1
      have z2 := PB2.out.frozen 2
      have z3 := PB2.out.frozen 3
      have z4 := PB2.out.frozen 4
      have P3 := ((((PB2.out.set0 (.int .i64 p.wk)).set1 (.int .i64 p.ks)).set2 (.int .i64 p.n)).set3 (.slice xa p.out.length xc)).set4 (.slice ya p.inn.length yc)
      have K3 : Kept (fun k => k = w.heap.size) w2 (((((w2.setCell ⟨w.heap.size, 0, none⟩ (.int .i64 p.wk)).setCell ⟨w.heap.size, 1, none⟩ (.int .i64 p.ks)).setCell ⟨w.heap.size, 2, none⟩ (.int .i64 p.n)).setCell ⟨w.heap.size, 3, none⟩ (.slice xa p.out.length xc)).setCell ⟨w.heap.size, 4, none⟩ (.slice ya p.inn.length yc)) := ((((Kept.box _ _ _ _).trans (Kept.box _ _ _ _)).trans (Kept.box _ _ _ _)).trans (Kept.box _ _ _ _)).trans (Kept.box _ _ _ _)
      have PB3 : Hid (PB _ _ _ _ _ _ _) := P3
      have KP3 : Hid (Kept _ _ _) := K3
      clear P3 K3 hrd ho hi
      go_upto_region 4 with fail
      generalize ((((w2.setCell ⟨w.heap.size, 0, none⟩ (.int .i64 p.wk)).setCell ⟨w.heap.size, 1, none⟩ (.int .i64 p.ks)).setCell ⟨w.heap.size, 2, none⟩ (.int .i64 p.n)).setCell ⟨w.heap.size, 3, none⟩ (.slice xa p.out.length xc)).setCell ⟨w.heap.size, 4, none⟩ (.slice ya p.inn.length yc) = w3 at *
      have hq3 := RD2.out.lt
      have hs3 := KP3.out.size
      obtain ⟨ra, rc, HQ3⟩ : ∃ ra rc, w3.heap[q]? = some (.cells #[.slice ra r.length rc] 73 (0, 0)) := by
        obtain ⟨v, h1, ⟨ra, rc, h2, _⟩, _⟩ := RD2.out
        subst h2
        exact ⟨ra, rc, by rw [KP3.out.block q hq3 (by omega)]; exact h1⟩
      have hc3 := box1_cell HQ3
      have FB3 : Hid (w3.heap[w.heap.size + 1]? = some (.cells #[.int .i64 0] 27 (0, 0))) := by show _ = _; rw [KP3.out.block _ (by omega) (by omega)]; exact FB2.out
      have BW3 : Hid (Below w.heap.size w w3) := BW2.out.trans (KP3.out.below (by omega) (fun k hk => by omega))
      have LO3 : Hid (OwnLs w3 w1.heap.size (.slice xa p.out.length xc) p.out) := OO.out.kept KP3.out fun g hg hh => by omega
      have LI3 : Hid (OwnLs w3 w1.heap.size (.slice ya p.inn.length yc) p.inn) := OI.out.kept KP3.out fun g hg hh => by omega
      clear e0 e1 e2 e3 e4 z0 z1 z2 z3 z4 OO OI BW2 FB2 PB2 RD2 HQ3
      by_cases hre : r = []
      · have hr := HF6.out p (by rw [HPP.out, hp]; simp [hre])
        subst hr
        have hl0 : ((r.length : Int) == 0) = true := by rw [hre]; rfl
        clear hre HF5 HF6 HPP hp
        go_wp2_with fail
        refine (insist_yes _).mono ?_
        rintro e w4 ⟨rfl, rfl⟩
        obtain ⟨e0, e1, e2, e3, e4⟩ := PB3.out.cells
        have z0 := PB3.out.frozen 0
        have z1 := PB3.out.frozen 1
        have z2 := PB3.out.frozen 2
        have z3 := PB3.out.frozen 3
        have z4 := PB3.out.frozen 4
        have y0 := box1_cell FB3.out
        have y1 := box_frozen FB3.out 0
        have PW : Hid _ := put_world (a' := .int .i64 p.wk) (b' := .int .i64 p.ks) (c' := .int .i64 p.n) (x' := .slice xa p.out.length xc) (y' := .slice ya p.inn.length yc) (d' := .int .i64 0) PB3.out FB3.out (by omega)
        go_wp2_with fail
        obtain ⟨hpb, hfb, hk⟩ := PW.out
        clear PW e0 e1 e2 e3 e4 z0 z1 z2 z3 z4 y0 y1
        generalize (((((w4.setCell ⟨w.heap.size, 0, none⟩ (.int .i64 p.wk)).setCell ⟨w.heap.size, 1, none⟩ (.int .i64 p.ks)).setCell ⟨w.heap.size, 2, none⟩ (.int .i64 p.n)).setCell ⟨w.heap.size, 3, none⟩ (.slice xa p.out.length xc)).setCell ⟨w.heap.size, 4, none⟩ (.slice ya p.inn.length yc)).setCell ⟨w.heap.size + 1, 0, none⟩ (.int .i64 0) = w5 at *
        refine leaves_cons (f := 35) (args := #[.pointer (some ⟨w.heap.size, 0, none⟩), .pointer (some ⟨w.heap.size + 1, 0, none⟩)]) (by simp) (by simp [go_sem]) ?_
        refine (catch_idle ⟨w.heap.size, 0, none⟩ ⟨w.heap.size + 1, 0, none⟩ _).mono ?_
        rintro e u' w6 ⟨rfl, rfl, rfl⟩
        have BW4 : Hid (Below w.heap.size w w6) := BW3.out.trans (hk.below (by omega) (fun k hk => by omega))
        have LO4 : Hid (LsR w6 (.slice xa p.out.length xc) p.out) := (LO3.out.kept hk fun g hg hh => by omega).reads
        have LI4 : Hid (LsR w6 (.slice ya p.inn.length yc) p.inn) := (LI3.out.kept hk fun g hg hh => by omega).reads
        obtain ⟨r0, r1, r2, r3, r4⟩ := hpb.cells
        have r5 := box1_cell hfb
        simp [Leaves, settle, results, Try.results14, go_sem, r0, r1, r2, r3, r4, r5]
        exact ⟨_, rfl, ⟨_, _, rfl, LO4.out, LI4.out⟩, BW4.out⟩
      · have hr := HF5.out (by rw [HPP.out, hp]; simp [hre])
        subst hr
        have hl0 : ((r.length : Int) == 0) = false := by
          have : r.length ≠ 0 := fun e => hre (List.eq_nil_of_length_eq_zero e)
          simp; omega
        clear hre HF5 HF6 HPP hp
        go_wp2_with fail
        refine (insist_no _).mono ?_
        rintro e w4 ⟨rfl, rfl⟩
        unfold upP
        refine leaves_cons (f := 35) (args := #[.pointer (some ⟨w.heap.size, 0, none⟩), .pointer (some ⟨w.heap.size + 1, 0, none⟩)]) (by simp) (by simp [go_sem]) ?_
        refine (catch_up w.heap.size (w.heap.size + 1) 3 _ _ _ _ _ _ [] w4 PB3.out FB3.out).mono ?_
        rintro e u' w9 ⟨rfl, rfl, hpb, hfb, hk⟩
        have BW2 : Hid (Below w.heap.size w w9) := BW3.out.trans (hk.below (by omega) (fun k hk => by omega))
        obtain ⟨r0, r1, r2, r3, r4⟩ := hpb.cells
        have r5 := box1_cell hfb
        simp [Leaves, settle, results, Try.results14, go_sem, r0, r1, r2, r3, r4, r5]
        exact ⟨_, rfl, PartR.none w9, BW2.out⟩
    · have hr := HF5.out (by rw [HPP.out, hp]; rfl)
      subst hr
      unfold upP
      refine leaves_cons (f := 35) (args := #[.pointer (some ⟨w.heap.size, 0, none⟩), .pointer (some ⟨w.heap.size + 1, 0, none⟩)]) (by simp) (by simp [go_sem]) ?_
      refine (catch_up w.heap.size (w.heap.size + 1) 3 _ _ _ _ _ _ [] w2 PB2.out FB2.out).mono ?_
      rintro e u' w9 ⟨rfl, rfl, hpb, hfb, hk⟩
      have BW2 : Hid (Below w.heap.size w w9) := BW2.out.trans (hk.below (by omega) (fun k hk => by omega))
      obtain ⟨r0, r1, r2, r3, r4⟩ := hpb.cells
      have r5 := box1_cell hfb
      simp [Leaves, settle, results, Try.results14, go_sem, r0, r1, r2, r3, r4, r5]
      exact ⟨_, rfl, PartR.none w9, BW2.out⟩
end Go.Proofs.Ytacpicnihgggaaa

namespace Go.Proofs.Ytacpicnihgggaaa
open Go.ChangeShapes Go.WideShapes Go.ChangeAt Go.RowKit

theorem four_inj {a b : Nat} (h : four a = four b) : a = b := by
  simp only [four, List.cons.injEq, and_true] at h
  omega
/-- Bytes that begin with a length, so many bytes, and four more. -/
theorem unwrapF_parts (a q t : List Int) (hl : a.length ≤ 20000) (hq : q.length = 4) :
    unwrapF (((put a.length ++ a) ++ q) ++ t) = if four (crc (put a.length ++ a)) = q then (a, (put a.length).length + a.length + 4, 0) else ([], 0, 5) := by
  have hg : get (((put a.length ++ a) ++ q) ++ t) = ((a.length : Int), (put a.length).length, 0) := by
    rw [List.append_assoc, List.append_assoc]
    exact get_put (n := (a.length : Int)) _ (by omega) (by omega)
  have hL : (put (a.length : Int) ++ a).length = (put (a.length : Int)).length + a.length := List.length_append
  have h1 : (((put a.length ++ a) ++ q) ++ t).take ((put (a.length : Int)).length + a.length) = put a.length ++ a := by
    rw [← hL, List.append_assoc, List.take_left]
  have h2 : ((((put a.length ++ a) ++ q) ++ t).drop ((put (a.length : Int)).length + a.length)).take 4 = q := by
    rw [← hL, List.append_assoc, List.drop_left, ← hq, List.take_left]
  have h3 : ((((put a.length ++ a) ++ q) ++ t).drop (put (a.length : Int)).length).take a.length = a := by
    rw [List.append_assoc, List.append_assoc, List.drop_left, List.take_left]
  have h4 : (put (a.length : Int)).length + a.length + 4 ≤ (((put a.length ++ a) ++ q) ++ t).length := by simp [hq]; omega
  split
  · rename_i hs
    rw [unwrapF_ok hg hl h4 (by rw [h1, h2]; exact hs), h3]
  · rename_i hs
    rw [unwrapF_sum hg hl h4 (by rw [h1, h2]; exact hs)]
/-- A frame's payload is had again, whatever stands behind it. -/
theorem unwrapF_wrap (a t : List Int) (hl : a.length ≤ 20000) : unwrapF (wrap a ++ t) = (a, (wrap a).length, 0) := by
  unfold wrap
  rw [unwrapF_parts a _ t hl rfl, if_pos rfl]
  simp [four]; omega

theorem split_set {l : List Int} {i : Nat} (h : i < l.length) (y : Int) : l = l.take i ++ l.getD i 0 :: l.drop (i + 1) ∧ l.set i y = l.take i ++ y :: l.drop (i + 1) := by
  constructor
  · rw [← drop_step h, List.take_append_drop]
  · rw [List.set_eq_take_append_cons_drop, if_pos h]
theorem crc_set {l : List Int} {i : Nat} {y : Int} (hx : ∀ x ∈ l, 0 ≤ x ∧ x ≤ 255) (h : i < l.length) (hy : 0 ≤ y ∧ y ≤ 255) (hne : y ≠ l.getD i 0) : crc (l.set i y) ≠ crc l := by
  obtain ⟨h1, h2⟩ := split_set h y
  have hg : l.getD i 0 ∈ l := by rw [List.getD_eq_getElem?_getD, List.getElem?_eq_getElem h]; exact List.getElem_mem h
  have := crc_changed (l.take i) (l.drop (i + 1)) y (l.getD i 0) (fun z hz => hx z (List.mem_of_mem_take hz)) (fun z hz => hx z (List.mem_of_mem_drop hz)) hy (hx _ hg) hne
  rwa [← h1, ← h2] at this
theorem crc_set_xor {l : List Int} {i : Nat} {y : Int} (h : i < l.length) : crc l ^^^ crc (l.set i y) = farN (l.length - i) ((l.getD i 0).toNat ^^^ y.toNat) := by
  obtain ⟨h1, h2⟩ := split_set h y
  have := crc_turn (l.take i) (l.drop (i + 1)) (l.getD i 0) y
  rw [← h1, ← h2, List.length_drop] at this
  rw [this]
  congr 1
  omega
/-- One changed byte of a payload or its sum is told. -/
theorem unwrapF_changed {a : List Int} {i : Nat} {y : Int} (hx : ∀ x ∈ a, 0 ≤ x ∧ x ≤ 255) (hl : a.length ≤ 20000) (h0 : (put (a.length : Int)).length ≤ i) (h1 : i < (wrap a).length) (hy : 0 ≤ y ∧ y ≤ 255) (hne : y ≠ (wrap a).getD i 0) :
    unwrapF ((wrap a).set i y) = ([], 0, 5) := by
  rw [wrap_len] at h1
  have hL : (put (a.length : Int) ++ a).length = (put (a.length : Int)).length + a.length := List.length_append
  have hhb := head_bytes hx hl
  by_cases hi : i < (put (a.length : Int)).length + a.length
  · have e : (wrap a).set i y = ((put ((a.set (i - (put (a.length : Int)).length) y).length : Int) ++ a.set (i - (put (a.length : Int)).length) y) ++ four (crc (put a.length ++ a))) ++ [] := by
      unfold wrap
      rw [List.set_append_left _ _ (by omega), List.set_append_right _ _ h0, List.length_set, List.append_nil]
    have hcrc : crc ((put (a.length : Int) ++ a).set i y) ≠ crc (put (a.length : Int) ++ a) := by
      refine crc_set hhb (by omega) hy ?_
      intro hh
      apply hne
      rw [hh]
      show (put (a.length : Int) ++ a).getD i 0 = ((put (a.length : Int) ++ a) ++ four (crc (put (a.length : Int) ++ a))).getD i 0
      have hi2 : i < (put (a.length : Int) ++ a).length := by omega
      generalize put (a.length : Int) ++ a = hd at *
      rw [List.getD_eq_getElem?_getD, List.getD_eq_getElem?_getD, List.getElem?_append_left hi2]
    rw [e, unwrapF_parts _ _ _ (by rw [List.length_set]; exact hl) rfl, if_neg]
    intro hh
    have h2 := four_inj hh
    rw [List.length_set] at h2
    apply hcrc
    rw [List.set_append_right _ _ h0]
    exact h2
  · have e : (wrap a).set i y = ((put (a.length : Int) ++ a) ++ (four (crc (put a.length ++ a))).set (i - (put (a.length : Int) ++ a).length) y) ++ [] := by
      unfold wrap
      rw [List.set_append_right _ _ (by omega), List.append_nil]
    rw [e, unwrapF_parts _ _ _ hl (by rw [List.length_set]; rfl), if_neg]
    intro hh
    apply hne
    have hb : i - (put (a.length : Int) ++ a).length < (four (crc (put (a.length : Int) ++ a))).length := by show _ < 4; omega
    unfold wrap
    rw [List.getD_eq_getElem?_getD, List.getElem?_append_right (by omega), hh, List.getElem?_set_self hb]
    rfl
end Go.Proofs.Ytacpicnihgggaaa
