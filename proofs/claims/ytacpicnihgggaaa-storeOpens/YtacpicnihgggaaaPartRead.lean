/-
  Contract of the reader's part.
-/
import Derived.Test.YtacpicnihgggaaaHopsRead
import Derived.Test.YtacpicnihgggaaaStoreLists
import Derived.Test.YtacpicnihgggaaaRegionCall
import Derived.Test.YtacpicnihgggaaaMineWalk
import Derived.Deep.CutRange
import Derived.Shelf.Abstract
namespace Go.Proofs.Ytacpicnihgggaaa
set_option maxRecDepth 100000
open Go.ChangeShapes Go.WideShapes Go.ChangeAt Go.RowKit

/-- The part that bytes begin with, and the bytes behind it. -/
def restC (w k n : Int) (l : List Int) : Option (PartL × List Int) :=
  ((partsC n (mineL w.toNat n.toNat k.toNat).length [] [] l).filter fewB).map fun r => (⟨w, k, n, r.1, r.2.1⟩, r.2.2)
def partC (l : List Int) : Option (PartL × List Int) :=
  (numF 1099511627776 l).bind fun a => (numF 1099511627776 a.2).bind fun b => (numF 1099511627776 b.2).bind fun c => if errO a.1 b.1 c.1 b.1 = 0 then restC a.1 b.1 c.1 c.2 else none
theorem pay_part (l : List Int) : payC l = (partC l).bind fun r => if r.2 = [] then some r.1 else none := by
  unfold payC partC bodyC restC
  cases numF 1099511627776 l with
  | none => rfl
  | some a =>
    simp only [Option.bind_some]
    cases numF 1099511627776 a.2 with
    | none => rfl
    | some b =>
      simp only [Option.bind_some]
      cases numF 1099511627776 b.2 with
      | none => rfl
      | some c =>
        simp only [Option.bind_some]
        by_cases h : errO a.1 b.1 c.1 b.1 = 0
        · rw [if_pos h, if_pos h]
          cases (partsC c.1 (mineL a.1.toNat c.1.toNat b.1.toNat).length [] [] c.2).filter fewB <;> rfl
        · rw [if_neg h, if_neg h]; rfl

theorem box_set {w : World} {q i : Nat} {cs : Array Value} {u : Value} {t : TypeId} (h : w.heap[q]? = some (.cells cs t (0, 0))) : (w.setCell ⟨q, i, none⟩ u).heap[q]? = some (.cells (cs.setIfInBounds i u) t (0, 0)) := by
  simp only [World.setCell, Array.getElem?_modify, if_true]
  rw [h]
  rfl
theorem box_cells {w : World} {q : Nat} {cs : Array Value} {t : TypeId} (h : w.heap[q]? = some (.cells cs t (0, 0))) (i : Nat) : w.cell? ⟨q, i, none⟩ = cs[i]? := cell_of_row _ _ _ _ _ _ h
/-- The box of a part. -/
def PB (w : World) (q : Nat) (a b c x y : Value) : Prop := w.heap[q]? = some (.cells #[a, b, c, x, y] 36 (0, 0))
theorem PB.cells {w : World} {q : Nat} {a b c x y : Value} (h : PB w q a b c x y) : w.cell? ⟨q, 0, none⟩ = some a ∧ w.cell? ⟨q, 1, none⟩ = some b ∧ w.cell? ⟨q, 2, none⟩ = some c ∧ w.cell? ⟨q, 3, none⟩ = some x ∧ w.cell? ⟨q, 4, none⟩ = some y :=
  ⟨box_cells h 0, box_cells h 1, box_cells h 2, box_cells h 3, box_cells h 4⟩
theorem PB.frozen {w : World} {q : Nat} {a b c x y : Value} (h : PB w q a b c x y) (i : Nat) : w.frozen? ⟨q, i, none⟩ = false := box_frozen h i
theorem PB.kept {S : Nat → Prop} {w w' : World} {q : Nat} {a b c x y : Value} (h : PB w q a b c x y) (hk : Kept S w w') (hs : ¬ S q) : PB w' q a b c x y := by
  unfold PB at *
  rw [hk.block q (Array.getElem?_eq_some_iff.1 h).1 hs]
  exact h
theorem PB.lt {w : World} {q : Nat} {a b c x y : Value} (h : PB w q a b c x y) : q < w.heap.size := (Array.getElem?_eq_some_iff.1 h).1
theorem PB.set0 {w : World} {q : Nat} {a b c x y : Value} (h : PB w q a b c x y) (u : Value) : PB (w.setCell ⟨q, 0, none⟩ u) q u b c x y := box_set h
theorem PB.set1 {w : World} {q : Nat} {a b c x y : Value} (h : PB w q a b c x y) (u : Value) : PB (w.setCell ⟨q, 1, none⟩ u) q a u c x y := box_set h
theorem PB.set2 {w : World} {q : Nat} {a b c x y : Value} (h : PB w q a b c x y) (u : Value) : PB (w.setCell ⟨q, 2, none⟩ u) q a b u x y := box_set h
theorem PB.set3 {w : World} {q : Nat} {a b c x y : Value} (h : PB w q a b c x y) (u : Value) : PB (w.setCell ⟨q, 3, none⟩ u) q a b c u y := box_set h
theorem PB.set4 {w : World} {q : Nat} {a b c x y : Value} (h : PB w q a b c x y) (u : Value) : PB (w.setCell ⟨q, 4, none⟩ u) q a b c x u := box_set h
theorem box_new (w : World) (cs : Array Value) (t : TypeId) : (w.alloc (.cells cs t)).heap[w.heap.size]? = some (.cells cs t (0, 0)) := heap_alloc_new w _

/-- A world on the way: the reader stands in q, two boxes of parts lie behind all that was there. -/
structure St (w : World) (q : Nat) (X : World) (l : List Int) (a b c x y : Value) : Prop where
  old : q < w.heap.size
  kept : Kept (fun k => k = q) w X
  rd : Rd X q l
  res : PB X w.heap.size (.int .i64 0) (.int .i64 0) (.int .i64 0) (.slice none 0 0) (.slice none 0 0)
  box : PB X (w.heap.size + 1) a b c x y
theorem St.start {w : World} {q : Nat} {l : List Int} (h : Rd w q l) : St w q ((w.alloc (.cells #[.int .i64 0, .int .i64 0, .int .i64 0, .slice none 0 0, .slice none 0 0] 36)).alloc (.cells #[.int .i64 0, .int .i64 0, .int .i64 0, .slice none 0 0, .slice none 0 0] 36)) l (.int .i64 0) (.int .i64 0) (.int .i64 0) (.slice none 0 0) (.slice none 0 0) := by
  have k1 : Kept (fun _ => False) w ((w.alloc (.cells #[.int .i64 0, .int .i64 0, .int .i64 0, .slice none 0 0, .slice none 0 0] 36)).alloc (.cells #[.int .i64 0, .int .i64 0, .int .i64 0, .slice none 0 0, .slice none 0 0] 36)) := ((Kept.refl _ w).alloc _).alloc _
  refine ⟨h.lt, k1.mono fun _ h => h.elim, h.kept k1 fun _ _ h => h, ?_, ?_⟩
  · exact PB.kept (S := fun _ => False) (box_new w _ _) ((Kept.refl _ _).alloc _) fun h => h
  · have := box_new (w.alloc (.cells #[.int .i64 0, .int .i64 0, .int .i64 0, .slice none 0 0, .slice none 0 0] 36)) #[.int .i64 0, .int .i64 0, .int .i64 0, .slice none 0 0, .slice none 0 0] 36
    have e : (w.alloc (.cells #[.int .i64 0, .int .i64 0, .int .i64 0, .slice none 0 0, .slice none 0 0] 36)).heap.size = w.heap.size + 1 := by simp
    rw [e] at this
    exact this
/-- The reader goes on, or blocks are made. -/
theorem St.next {w X Y : World} {q : Nat} {l l' : List Int} {a b c x y : Value} (h : St w q X l a b c x y) (hk : Kept (fun k => k = q) X Y) (hr : Rd Y q l') : St w q Y l' a b c x y :=
  ⟨h.old, h.kept.trans hk, hr, h.res.kept hk (by have := h.old; omega), h.box.kept hk (by have := h.old; omega)⟩
theorem St.more {w X Y : World} {q : Nat} {l : List Int} {a b c x y : Value} (h : St w q X l a b c x y) (hk : Below X.heap.size X Y) : St w q Y l a b c x y :=
  h.next (.of hk) (h.rd.kept (Kept.of (S := fun _ => False) hk) fun _ _ h => h)
/-- The row of a list grows: it lies behind the boxes. -/
theorem St.grown {w X Y : World} {q : Nat} {l : List Int} {a b c x y : Value} {row : Option Nat} (h : St w q X l a b c x y) (hg : X.grownBy Y row) (hr : ∀ k, row = some k → w.heap.size + 2 ≤ k) : St w q Y l a b c x y := by
  have k1 : Kept (fun k => w.heap.size + 2 ≤ k) X Y := (Kept.refl _ X).grown hg fun k hk => .inl (hr k hk)
  have ho := h.old
  exact ⟨ho, h.kept.grown hg fun k hk => .inr (by have := hr k hk; omega), h.rd.kept k1 fun k hk => by omega, h.res.kept k1 (by omega), h.box.kept k1 (by omega)⟩
theorem St.put {w X : World} {q i : Nat} {l : List Int} {a b c x y a' b' c' x' y' u : Value} (h : St w q X l a b c x y) (hp : PB (X.setCell ⟨w.heap.size + 1, i, none⟩ u) (w.heap.size + 1) a' b' c' x' y') : St w q (X.setCell ⟨w.heap.size + 1, i, none⟩ u) l a' b' c' x' y' := by
  have ho := h.old
  have k1 := Kept.box X (w.heap.size + 1) i u
  exact ⟨ho, h.kept.set (p := ⟨w.heap.size + 1, i, none⟩) (.inr (Nat.le_succ _)) _, h.rd.kept k1 fun k hk => by omega, h.res.kept k1 (by omega), hp⟩
theorem St.size {w X : World} {q : Nat} {l : List Int} {a b c x y : Value} (h : St w q X l a b c x y) : w.heap.size + 2 ≤ X.heap.size := h.box.lt

/-- The result's box is filled. -/
theorem St.done {w X : World} {q : Nat} {l : List Int} {a b c x y : Value} (h : St w q X l a b c x y) :
    Kept (fun k => k = q) w (((((X.setCell ⟨w.heap.size, 0, none⟩ a).setCell ⟨w.heap.size, 1, none⟩ b).setCell ⟨w.heap.size, 2, none⟩ c).setCell ⟨w.heap.size, 3, none⟩ x).setCell ⟨w.heap.size, 4, none⟩ y) ∧
    Rd (((((X.setCell ⟨w.heap.size, 0, none⟩ a).setCell ⟨w.heap.size, 1, none⟩ b).setCell ⟨w.heap.size, 2, none⟩ c).setCell ⟨w.heap.size, 3, none⟩ x).setCell ⟨w.heap.size, 4, none⟩ y) q l ∧
    PB (((((X.setCell ⟨w.heap.size, 0, none⟩ a).setCell ⟨w.heap.size, 1, none⟩ b).setCell ⟨w.heap.size, 2, none⟩ c).setCell ⟨w.heap.size, 3, none⟩ x).setCell ⟨w.heap.size, 4, none⟩ y) w.heap.size a b c x y ∧
    Kept (fun k => k = w.heap.size) X (((((X.setCell ⟨w.heap.size, 0, none⟩ a).setCell ⟨w.heap.size, 1, none⟩ b).setCell ⟨w.heap.size, 2, none⟩ c).setCell ⟨w.heap.size, 3, none⟩ x).setCell ⟨w.heap.size, 4, none⟩ y) := by
  have ho := h.old
  have k1 : Kept (fun k => k = w.heap.size) X (((((X.setCell ⟨w.heap.size, 0, none⟩ a).setCell ⟨w.heap.size, 1, none⟩ b).setCell ⟨w.heap.size, 2, none⟩ c).setCell ⟨w.heap.size, 3, none⟩ x).setCell ⟨w.heap.size, 4, none⟩ y) :=
    ((((Kept.box _ _ _ _).trans (Kept.box _ _ _ _)).trans (Kept.box _ _ _ _)).trans (Kept.box _ _ _ _)).trans (Kept.box _ _ _ _)
  refine ⟨?_, h.rd.kept k1 fun k hk => by omega, ((((h.res.set0 a).set1 b).set2 c).set3 x).set4 y, k1⟩
  refine ((((h.kept.set (p := ⟨w.heap.size, 0, none⟩) (.inr (Nat.le_refl _)) _).set (p := ⟨w.heap.size, 1, none⟩) (.inr (Nat.le_refl _)) _).set (p := ⟨w.heap.size, 2, none⟩) (.inr (Nat.le_refl _)) _).set (p := ⟨w.heap.size, 3, none⟩) (.inr (Nat.le_refl _)) _).set (p := ⟨w.heap.size, 4, none⟩) (.inr (Nat.le_refl _)) _
theorem hops_ok {q : Nat} {l r : List Int} {n : Int} {hs : List Hp} {w : World} (h : Rd w q l) (hx : ∀ y ∈ l, 0 ≤ y ∧ y ≤ 255) (hh : hopsC n l = some (hs, r)) :
    Calls Try.prog 60 #[.pointer (some ⟨q, 0, none⟩), .int .i64 n] w fun e w' => ∃ v, e = .returned v ∧ w'.ownsRow w.heap.size 87 2 v hs.length (hs.flatMap encH) ∧ Rd w' q r ∧ Kept (fun k => k = q) w w' := by
  refine (hopsRd_any q l n w h hx).mono ?_
  rintro e w' ⟨hk, ⟨p, v, h1, h2, h3, h4⟩ | ⟨h1, _⟩⟩
  · rw [hh] at h1
    injection h1 with h1
    subst h1
    exact ⟨v, h2, h3, h4, hk⟩
  · rw [hh] at h1; cases h1
theorem hops_up {q : Nat} {l : List Int} {n : Int} {w : World} (h : Rd w q l) (hx : ∀ y ∈ l, 0 ≤ y ∧ y ≤ 255) (hh : hopsC n l = none) :
    Calls Try.prog 60 #[.pointer (some ⟨q, 0, none⟩), .int .i64 n] w fun e w' => e = .panicked [{ v := .iface 27 (.int .i64 3), recovered := false }] ∧ Kept (fun k => k = q) w w' := by
  refine (hopsRd_any q l n w h hx).mono ?_
  rintro e w' ⟨hk, ⟨p, v, h1, _⟩ | ⟨_, h2⟩⟩
  · rw [hh] at h1; cases h1
  · exact ⟨h2, hk⟩
theorem Rd.drew {w : World} {q : Nat} {l : List Int} (h : Rd w q l) : Rd w.drew q l := h.kept (S := fun _ => False) (Kept.refl _ w).drew fun _ _ h => h
theorem St.drew {w X : World} {q : Nat} {l : List Int} {a b c x y : Value} (h : St w q X l a b c x y) : St w q X.drew l a b c x y := h.next (Kept.refl _ X).drew h.rd.drew
theorem OwnLs.drew {w : World} {base : Nat} {v : Value} {f : List (List Hp)} (h : OwnLs w base v f) : OwnLs w.drew base v f := h.kept (S := fun _ => False) (Kept.refl _ w).drew fun _ _ h => h
theorem OwnLs.shape {w : World} {base : Nat} {v : Value} {f : List (List Hp)} (h : OwnLs w base v f) : ∃ a c, v = .slice a f.length c := by obtain ⟨a, c, e, _⟩ := h.reads; exact ⟨a, c, e⟩

set_option maxHeartbeats 4000000 in
set_option maxRecDepth 100000 in
theorem part_any (q : Nat) (l : List Int) (w : World) (h : Rd w q l) (hx : ∀ y ∈ l, 0 ≤ y ∧ y ≤ 255) :
    Calls Try.prog 37 #[.pointer (some ⟨q, 0, none⟩)] w fun e w' => Kept (fun k => k = q) w w' ∧
      ((∃ p r vo vi, partC l = some (p, r) ∧ e = .returned (.agg #[.int .i64 p.wk, .int .i64 p.ks, .int .i64 p.n, vo, vi]) ∧ OwnLs w' w.heap.size vo p.out ∧ OwnLs w' w.heap.size vi p.inn ∧ Rd w' q r) ∨ (partC l = none ∧ e = upP 3)) := by
  have W0 : Hid (St w q ((w.alloc (.cells #[.int .i64 0, .int .i64 0, .int .i64 0, .slice none 0 0, .slice none 0 0] 36)).alloc (.cells #[.int .i64 0, .int .i64 0, .int .i64 0, .slice none 0 0, .slice none 0 0] 36)) l (.int .i64 0) (.int .i64 0) (.int .i64 0) (.slice none 0 0) (.slice none 0 0)) := St.start h
  have HX : Hid (∀ y ∈ l, 0 ≤ y ∧ y ≤ 255) := hx
  clear h hx
  go_enter Try.func37, Try.ntmps37
  go_wp2_with fail
  generalize (w.alloc (.cells #[.int .i64 0, .int .i64 0, .int .i64 0, .slice none 0 0, .slice none 0 0] 36)).alloc (.cells #[.int .i64 0, .int .i64 0, .int .i64 0, .slice none 0 0, .slice none 0 0] 36) = w0 at *
  cases h1 : numF 1099511627776 l with
  | none =>
    refine (number_no q l w0 W0.out.rd HX.out h1).mono ?_
    rintro e w1 ⟨rfl, rfl⟩
    exact ⟨rfl, W0.out.kept, .inr ⟨by unfold partC; rw [h1]; rfl, rfl⟩⟩
  | some a =>
  obtain ⟨a, l1⟩ := a
  obtain ⟨a0, a1, _, hb1⟩ := numF_inv HX.out h1
  have HX1 : Hid (∀ y ∈ l1, 0 ≤ y ∧ y ≤ 255) := hb1
  have HP1 : Hid (partC l = (numF 1099511627776 l1).bind fun b => (numF 1099511627776 b.2).bind fun c => if errO a b.1 c.1 b.1 = 0 then restC a b.1 c.1 c.2 else none) := by show _ = _; unfold partC; rw [h1]; rfl
  refine (number_ok q l l1 a w0 W0.out.rd HX.out h1).mono ?_
  rintro e w1 ⟨rfl, hrd1, hk1⟩
  have S1 := W0.out.next hk1 hrd1
  have W1 : Hid (St w q (w1.setCell ⟨w.heap.size + 1, 0, none⟩ (.int .i64 a)) l1 (.int .i64 a) (.int .i64 0) (.int .i64 0) (.slice none 0 0) (.slice none 0 0)) := S1.put (S1.box.set0 _)
  obtain ⟨c0, _⟩ := S1.box.cells
  have f0 := S1.box.frozen 0
  clear h1 hrd1 hk1 hb1 S1 HX W0
  go_wp2_with fail
  generalize w1.setCell ⟨w.heap.size + 1, 0, none⟩ (.int .i64 a) = w2 at *
  clear c0 f0
  cases h2 : numF 1099511627776 l1 with
  | none =>
    refine (number_no q l1 w2 W1.out.rd HX1.out h2).mono ?_
    rintro e w3 ⟨rfl, rfl⟩
    exact ⟨rfl, W1.out.kept, .inr ⟨by rw [HP1.out, h2]; rfl, rfl⟩⟩
  | some b =>
  obtain ⟨b, l2⟩ := b
  obtain ⟨b0, b1, _, hb2⟩ := numF_inv HX1.out h2
  have HX2 : Hid (∀ y ∈ l2, 0 ≤ y ∧ y ≤ 255) := hb2
  have HP2 : Hid (partC l = (numF 1099511627776 l2).bind fun c => if errO a b c.1 b = 0 then restC a b c.1 c.2 else none) := by show _ = _; rw [HP1.out, h2]; rfl
  refine (number_ok q l1 l2 b w2 W1.out.rd HX1.out h2).mono ?_
  rintro e w3 ⟨rfl, hrd1, hk1⟩
  have S1 := W1.out.next hk1 hrd1
  have W2 : Hid (St w q (w3.setCell ⟨w.heap.size + 1, 1, none⟩ (.int .i64 b)) l2 (.int .i64 a) (.int .i64 b) (.int .i64 0) (.slice none 0 0) (.slice none 0 0)) := S1.put (S1.box.set1 _)
  obtain ⟨_, c0, _⟩ := S1.box.cells
  have f0 := S1.box.frozen 1
  clear h2 hrd1 hk1 hb2 S1 HX1 W1 HP1
  go_wp2_with fail
  generalize w3.setCell ⟨w.heap.size + 1, 1, none⟩ (.int .i64 b) = w4 at *
  clear c0 f0
  cases h3 : numF 1099511627776 l2 with
  | none =>
    refine (number_no q l2 w4 W2.out.rd HX2.out h3).mono ?_
    rintro e w5 ⟨rfl, rfl⟩
    exact ⟨rfl, W2.out.kept, .inr ⟨by rw [HP2.out, h3]; rfl, rfl⟩⟩
  | some c =>
  obtain ⟨c, l3⟩ := c
  obtain ⟨cc0, cc1, _, hb3⟩ := numF_inv HX2.out h3
  have HX3 : Hid (∀ y ∈ l3, 0 ≤ y ∧ y ≤ 255) := hb3
  have HP3 : Hid (partC l = if errO a b c b = 0 then restC a b c l3 else none) := by show _ = _; rw [HP2.out, h3]; rfl
  refine (number_ok q l2 l3 c w4 W2.out.rd HX2.out h3).mono ?_
  rintro e w5 ⟨rfl, hrd1, hk1⟩
  have S1 := W2.out.next hk1 hrd1
  have W3 : Hid (St w q (w5.setCell ⟨w.heap.size + 1, 2, none⟩ (.int .i64 c)) l3 (.int .i64 a) (.int .i64 b) (.int .i64 c) (.slice none 0 0) (.slice none 0 0)) := S1.put (S1.box.set2 _)
  obtain ⟨_, _, c0, _⟩ := S1.box.cells
  have f0 := S1.box.frozen 2
  obtain ⟨d0, d1, d2, _⟩ := W3.out.box.cells
  clear h3 hrd1 hk1 hb3 S1 HX2 W2 HP2
  go_wp2_with fail
  generalize w5.setCell ⟨w.heap.size + 1, 2, none⟩ (.int .i64 c) = w6 at *
  clear c0 f0 d0 d1 d2
  refine (mine_any a c b w6).mono ?_
  rintro e w7 ⟨mv, rfl, hown, hb7⟩
  have W4 : Hid (St w q w7 l3 (.int .i64 a) (.int .i64 b) (.int .i64 c) (.slice none 0 0) (.slice none 0 0)) := W3.out.more hb7
  clear hb7 W3
  by_cases he : errO a b c b = 0
  · rw [he, okL_yes] at hown
    rw [he]
    obtain ⟨ma, mc, rfl⟩ : ∃ ma mc, mv = .slice ma (mineL a.toNat c.toNat b.toNat).length mc := by obtain ⟨x, y, e, _⟩ := RowK.own encI_len hown; exact ⟨_, _, e⟩
    have hM : (mineL a.toNat c.toNat b.toNat).length ≤ 200 := by
      obtain ⟨⟨e1, e2, e3, e4⟩, e5, e6⟩ := errO_inv he
      rw [mineL_len]
      exact Nat.le_trans (cnt_le (by omega)) (by omega)
    have HP4 : Hid (partC l = restC a b c l3) := by show _ = _; rw [HP3.out, if_pos he]
    unfold restC at HP4
    clear hown he HP3
    generalize (mineL a.toNat c.toNat b.toNat).length = M at *
    go_wp2_with fail
    refine (insist_yes _).mono ?_
    rintro e w8 ⟨rfl, rfl⟩
    go_wp2_with fail
    have OL0 : Hid (OwnLs w8 (w.heap.size + 2) (.slice none 0 0) []) := OwnLs.nil _ _
    have epk : ∀ args w, (callFunc 60 args).run Try.prog w = .ok (.enter 60 args) w := enters_of Try.func60 (by kernel_rfl) rfl
    go_loopw [30] (fun i wr => ∃ (k : Nat) (os is : List (List Hp)) (vo vi : Value) (r : List Int), k ≤ M ∧ i = .int .i64 k ∧ os.length = k ∧ is.length = k ∧ St w q wr r (.int .i64 a) (.int .i64 b) (.int .i64 c) vo vi ∧ OwnLs wr (w.heap.size + 2) vo os ∧ OwnLs wr (w.heap.size + 2) vi is ∧ Apt vo vi ∧ (∀ y ∈ r, 0 ≤ y ∧ y ≤ 255) ∧ partsC c M [] [] l3 = partsC c (M - k) os is r ∧ sumL os ≤ 2000 * k ∧ sumL is ≤ 2000 * k) (fun i _ => M - (intOf i).toNat)
    case atStart => exact ⟨0, [], [], _, _, l3, by omega, rfl, rfl, rfl, W4.out, OL0.out, OL0.out, Apt.nil _, HX3.out, rfl, Nat.le_refl _, Nat.le_refl _⟩
    case round =>
      obtain ⟨k, os, is, vo, vi, r, hk, rfl, hol, hil, hst, ho, hi, hap, hby, heq, hso, hsi⟩ := hrel
      have ST : Hid (St w q wr r (.int .i64 a) (.int .i64 b) (.int .i64 c) vo vi) := hst
      have OO : Hid (OwnLs wr (w.heap.size + 2) vo os) := ho
      have OI : Hid (OwnLs wr (w.heap.size + 2) vi is) := hi
      have AP : Hid (Apt vo vi) := hap
      have HY : Hid (∀ y ∈ r, 0 ≤ y ∧ y ≤ 255) := hby
      have HE : Hid (partsC c M [] [] l3 = partsC c (M - k) os is r) := heq
      have HOL : Hid (os.length = k) := hol
      have HIL : Hid (is.length = k) := hil
      have HSO : Hid (sumL os ≤ 2000 * k) := hso
      have HSI : Hid (sumL is ≤ 2000 * k) := hsi
      obtain ⟨xa, xc, rfl⟩ := ho.shape
      obtain ⟨ya, yc, rfl⟩ := hi.shape
      have hs2 := hst.size
      obtain ⟨c0, c1, c2, c3, c4⟩ := hst.box.cells
      clear hst ho hi hap hby heq hol hil hso hsi OL0 W4 HX3
      by_cases hlt : k < M
      · obtain ⟨t, ht⟩ : ∃ t, M - k = t + 1 := ⟨M - k - 1, by omega⟩
        have HT : Hid (M - (k + 1) = t) := by show _ = _; omega
        have hok : os.length ≤ 200 := by have := HOL.out; omega
        have hik : is.length ≤ 200 := by have := HIL.out; omega
        rw [ht, partsC] at HE
        clear ht
        go_upto_region 9 with fail
        cases hh : hopsC c r with
        | none =>
          have HX5 : Hid (partC l = none) := by show _ = _; rw [HP4.out, HE.out, hh]; rfl
          refine region_lastF (S := fun V => V.cell? ⟨w.heap.size + 1, 3, none⟩ = some (.slice xa os.length xc) ∧ V.cell? ⟨w.heap.size + 1, 2, none⟩ = some (.int .i64 c)) (by kernel_rfl) (by kernel_rfl) (by kernel_rfl) (by kernel_rfl) ?_
          simp only [List.pop_toArray, List.dropLast_cons_cons, List.dropLast_singleton, List.size_toArray, List.length_cons, List.length_nil, Nat.reduceAdd]
          refine takeH (i := 0) (v := .pointer (some ⟨w.heap.size + 1, 3, none⟩)) (d := 32) rfl rfl (by kernel_rfl) (by kernel_rfl) (by kernel_rfl) (fun _ _ _ h => h) (by rfl) (fun V hV => by obtain ⟨v1, v2⟩ := hV; go_simp) ⟨c3, c2⟩ ?_
          simp only [Act.put, List.setIfInBounds_toArray, List.set_cons_zero, List.set_cons_succ]
          refine takeH (i := 1) (v := .slice xa os.length xc) (d := 33) rfl rfl (by kernel_rfl) (by kernel_rfl) (by kernel_rfl) (fun _ _ _ h => h) (by rfl) (fun V hV => by obtain ⟨v1, v2⟩ := hV; go_simp) ⟨c3, c2⟩ ?_
          simp only [Act.put, List.setIfInBounds_toArray, List.set_cons_zero, List.set_cons_succ]
          refine takeH (i := 2) (v := .pointer (some ⟨q, 0, none⟩)) (d := 34) rfl rfl (by kernel_rfl) (by kernel_rfl) (by kernel_rfl) (fun _ _ _ h => h) (by rfl) (fun V hV => by obtain ⟨v1, v2⟩ := hV; go_simp) ⟨c3, c2⟩ ?_
          simp only [Act.put, List.setIfInBounds_toArray, List.set_cons_zero, List.set_cons_succ]
          refine takeH (i := 3) (v := .pointer (some ⟨w.heap.size + 1, 2, none⟩)) (d := 35) rfl rfl (by kernel_rfl) (by kernel_rfl) (by kernel_rfl) (fun _ _ _ h => h) (by rfl) (fun V hV => by obtain ⟨v1, v2⟩ := hV; go_simp) ⟨c3, c2⟩ ?_
          simp only [Act.put, List.setIfInBounds_toArray, List.set_cons_zero, List.set_cons_succ]
          refine takeH (i := 4) (v := .int .i64 c) (d := 36) rfl rfl (by kernel_rfl) (by kernel_rfl) (by kernel_rfl) (fun _ _ _ h => h) (by rfl) (fun V hV => by obtain ⟨v1, v2⟩ := hV; go_simp) ⟨c3, c2⟩ ?_
          simp only [Act.put, List.setIfInBounds_toArray, List.set_cons_zero, List.set_cons_succ]
          exact oneH (i := 5) rfl (by kernel_rfl) rfl (call_up (f := 60) (xs := #[.tmp 34, .tmp 36]) (ats := #[68, 3]) rfl epk (vs := #[.pointer (some ⟨q, 0, none⟩), .int .i64 c]) (by simp [Act.eval]) (hops_up ST.out.rd.drew HY.out hh) (fun w' hk' => ⟨rfl, ST.out.kept.drew.trans hk', .inr ⟨HX5.out, rfl⟩⟩))
        | some p =>
          obtain ⟨o, r1⟩ := p
          have HE1 : Hid (partsC c M [] [] l3 = (hopsC c r1).bind fun q => partsC c t (os ++ [o]) (is ++ [q.1]) q.2) := by show _ = _; rw [HE.out, hh]; rfl
          have hb1 := hopsC_bytes HY.out hh
          have HY1 : Hid (∀ y ∈ r1, 0 ≤ y ∧ y ≤ 255) := hb1.1
          have HO1 : Hid (sumL (os ++ [o]) ≤ 2000 * (k + 1)) := by show _ ≤ _; rw [sumL_snoc]; have := HSO.out; have := hb1.2; simp only at this; omega
          clear hb1
          refine region_lastF (S := fun V => V.cell? ⟨w.heap.size + 1, 3, none⟩ = some (.slice xa os.length xc) ∧ V.cell? ⟨w.heap.size + 1, 2, none⟩ = some (.int .i64 c)) (by kernel_rfl) (by kernel_rfl) (by kernel_rfl) (by kernel_rfl) ?_
          simp only [List.pop_toArray, List.dropLast_cons_cons, List.dropLast_singleton, List.size_toArray, List.length_cons, List.length_nil, Nat.reduceAdd]
          refine takeH (i := 0) (v := .pointer (some ⟨w.heap.size + 1, 3, none⟩)) (d := 32) rfl rfl (by kernel_rfl) (by kernel_rfl) (by kernel_rfl) (fun _ _ _ h => h) (by rfl) (fun V hV => by obtain ⟨v1, v2⟩ := hV; go_simp) ⟨c3, c2⟩ ?_
          simp only [Act.put, List.setIfInBounds_toArray, List.set_cons_zero, List.set_cons_succ]
          refine takeH (i := 1) (v := .slice xa os.length xc) (d := 33) rfl rfl (by kernel_rfl) (by kernel_rfl) (by kernel_rfl) (fun _ _ _ h => h) (by rfl) (fun V hV => by obtain ⟨v1, v2⟩ := hV; go_simp) ⟨c3, c2⟩ ?_
          simp only [Act.put, List.setIfInBounds_toArray, List.set_cons_zero, List.set_cons_succ]
          refine takeH (i := 2) (v := .pointer (some ⟨q, 0, none⟩)) (d := 34) rfl rfl (by kernel_rfl) (by kernel_rfl) (by kernel_rfl) (fun _ _ _ h => h) (by rfl) (fun V hV => by obtain ⟨v1, v2⟩ := hV; go_simp) ⟨c3, c2⟩ ?_
          simp only [Act.put, List.setIfInBounds_toArray, List.set_cons_zero, List.set_cons_succ]
          refine takeH (i := 3) (v := .pointer (some ⟨w.heap.size + 1, 2, none⟩)) (d := 35) rfl rfl (by kernel_rfl) (by kernel_rfl) (by kernel_rfl) (fun _ _ _ h => h) (by rfl) (fun V hV => by obtain ⟨v1, v2⟩ := hV; go_simp) ⟨c3, c2⟩ ?_
          simp only [Act.put, List.setIfInBounds_toArray, List.set_cons_zero, List.set_cons_succ]
          refine takeH (i := 4) (v := .int .i64 c) (d := 36) rfl rfl (by kernel_rfl) (by kernel_rfl) (by kernel_rfl) (fun _ _ _ h => h) (by rfl) (fun V hV => by obtain ⟨v1, v2⟩ := hV; go_simp) ⟨c3, c2⟩ ?_
          simp only [Act.put, List.setIfInBounds_toArray, List.set_cons_zero, List.set_cons_succ]
          refine oneH (i := 5) rfl (by kernel_rfl) rfl (call_gets (d := 37) (f := 60) (xs := #[.tmp 34, .tmp 36]) (ats := #[68, 3]) rfl rfl epk (vs := #[.pointer (some ⟨q, 0, none⟩), .int .i64 c]) (by simp [Act.eval]) (hops_ok ST.out.rd.drew HY.out hh) ?_)
          rintro pv1 wa1 ⟨hpo, hprd, hpk⟩
          have SA1 := ST.out.drew.next hpk hprd
          have OA1 := OO.out.drew.kept hpk fun g hg h => by have := SA1.old; omega
          have OB1 := OI.out.drew.kept hpk fun g hg h => by have := SA1.old; omega
          have hwa1 := SA1.size
          have PO1 : wa1.ownsRow (w.heap.size + 2) 87 2 pv1 o.length (o.flatMap encH) := own_lower hpo (by have : wr.drew.heap.size = wr.heap.size := rfl; omega)
          obtain ⟨pa1, pc1, rfl⟩ := (RowK.own encH_len hpo).shape
          obtain ⟨g1, gc1, wb1, hrun1, hls1, hgr1, hli1⟩ := run_append_ls (w := wa1.alloc (.cells #[.slice pa1 o.length pc1] 49)) 34 (w.heap.size + 2) (.slice xa os.length xc) os (OA1.kept (S := fun _ => False) ((Kept.refl _ _).alloc _) fun _ _ h => h) wa1.heap.size (.slice pa1 o.length pc1) o (0, 0) (box_new _ _ _) (PO1.alloc _) (by omega) (by simp; omega)
          have SB1 : St w q wb1 r1 _ _ _ _ _ := (SA1.more (below_alloc _ _)).grown hgr1 fun k hk => by obtain ⟨vs, hr⟩ := OA1.row; exact (own_ge hr hk).1
          have OC1 : OwnLs wb1 (w.heap.size + 2) (.slice ya is.length yc) is := by
            obtain ⟨vs, hr⟩ := OA1.row
            exact (OB1.kept (S := fun _ => False) ((Kept.refl _ _).alloc _) fun _ _ h => h).grown (hr.alloc _) hgr1 AP.out.symm.or
          have AP1 : Hid (Apt (.slice (some ⟨g1, 0, none⟩) (os.length + 1) gc1) (.slice ya is.length yc)) := by
            intro g h1 h2
            injection h1 with h1
            have h1' : g1 = g := h1
            subst h1'
            rcases hli1 with h3 | h3
            · exact AP.out g1 h3 h2
            · obtain ⟨vs, hr⟩ := OB1.row
              have := (own_ge hr h2).2
              simp at h3
              omega
          have k31 := SB1.box.cells
          have kf1 := SB1.box.frozen 3
          have ka1 := SA1.box.cells
          have kb1 := (SA1.more (below_alloc wa1 (.cells #[.slice pa1 o.length pc1] 49))).box.cells
          have SC1 : Hid (St w q (wb1.setCell ⟨w.heap.size + 1, 3, none⟩ (.slice (some ⟨g1, 0, none⟩) (os.length + 1) gc1)) r1 _ _ _ _ _) := SB1.put (SB1.box.set3 _)
          have OD1 : Hid (OwnLs (wb1.setCell ⟨w.heap.size + 1, 3, none⟩ (.slice (some ⟨g1, 0, none⟩) (os.length + 1) gc1)) (w.heap.size + 2) _ (os ++ [o])) := hls1.box SB1.box (by decide) (by decide)
          have OE1 : Hid (OwnLs (wb1.setCell ⟨w.heap.size + 1, 3, none⟩ (.slice (some ⟨g1, 0, none⟩) (os.length + 1) gc1)) (w.heap.size + 2) _ is) := OC1.box SB1.box (by decide) (by decide)
          have SD11 := And.intro ka1.2.2.2.1 ka1.2.2.1
          have SD21 := And.intro kb1.2.2.2.1 kb1.2.2.1
          have SD31 := And.intro k31.2.2.2.1 k31.2.2.1
          refine ⟨SD11, ?_⟩
          simp only [Act.put, List.setIfInBounds_toArray, List.set_cons_zero, List.set_cons_succ]
          refine oneH (i := 6) rfl (by kernel_rfl) rfl (op_run (d := 38) (v' := .slice (some ⟨wa1.heap.size, 0, none⟩) 1 1) (w' := wa1.alloc (.cells #[.slice pa1 o.length pc1] 49)) rfl (by go_simp) ⟨SD21, ?_⟩)
          simp only [Act.put, List.setIfInBounds_toArray, List.set_cons_zero, List.set_cons_succ]
          refine oneH (i := 7) rfl (by kernel_rfl) rfl (call_append (d := 39) (s := .tmp 33) (x := .tmp 38) (t := 34) rfl rfl (v := .slice xa os.length xc) (v2 := .slice (some ⟨wa1.heap.size, 0, none⟩) 1 1) (by simp [Act.eval]) (by simp [Act.eval]) hrun1 ⟨SD31, ?_⟩)
          simp only [Act.put, List.setIfInBounds_toArray, List.set_cons_zero, List.set_cons_succ]
          refine takeH (i := 8) (v := .pointer (some ⟨w.heap.size + 1, 3, none⟩)) (d := 40) rfl rfl (by kernel_rfl) (by kernel_rfl) (by kernel_rfl) (fun _ _ _ h => h) (by rfl) (fun V hV => by obtain ⟨v1, v2⟩ := hV; go_simp) SD31 ?_
          simp only [Act.put, List.setIfInBounds_toArray, List.set_cons_zero, List.set_cons_succ]
          refine wpAnyH_done (by kernel_rfl) ?_ _
          have kc1 := k31.2.2.2.1
          clear SD11 SD21 SD31 ka1 kb1 k31 SA1 OA1 OB1 OC1 SB1 hls1 hgr1 hli1 hrun1 PO1 hpo hprd hpk
          show Oper.wp _ _ _ _ _ _
          go_upto_region 10 with fail
          clear kc1 kf1 hh HE ST OO OI HY
          generalize wb1.setCell ⟨w.heap.size + 1, 3, none⟩ (.slice (some ⟨g1, 0, none⟩) (os.length + 1) gc1) = wc at *
          obtain ⟨q0, q1, q2, q3, q4⟩ := SC1.out.box.cells
          have hs3 := SC1.out.size
          cases hh1 : hopsC c r1 with
          | none =>
            have HX5 : Hid (partC l = none) := by show _ = _; rw [HP4.out, HE1.out, hh1]; rfl
            refine region_lastF (S := fun V => V.cell? ⟨w.heap.size + 1, 4, none⟩ = some (.slice ya is.length yc) ∧ V.cell? ⟨w.heap.size + 1, 2, none⟩ = some (.int .i64 c)) (by kernel_rfl) (by kernel_rfl) (by kernel_rfl) (by kernel_rfl) ?_
            simp only [List.pop_toArray, List.dropLast_cons_cons, List.dropLast_singleton, List.size_toArray, List.length_cons, List.length_nil, Nat.reduceAdd]
            refine takeH (i := 0) (v := .pointer (some ⟨w.heap.size + 1, 4, none⟩)) (d := 41) rfl rfl (by kernel_rfl) (by kernel_rfl) (by kernel_rfl) (fun _ _ _ h => h) (by rfl) (fun V hV => by obtain ⟨v1, v2⟩ := hV; go_simp) ⟨q4, q2⟩ ?_
            simp only [Act.put, List.setIfInBounds_toArray, List.set_cons_zero, List.set_cons_succ]
            refine takeH (i := 1) (v := .slice ya is.length yc) (d := 42) rfl rfl (by kernel_rfl) (by kernel_rfl) (by kernel_rfl) (fun _ _ _ h => h) (by rfl) (fun V hV => by obtain ⟨v1, v2⟩ := hV; go_simp) ⟨q4, q2⟩ ?_
            simp only [Act.put, List.setIfInBounds_toArray, List.set_cons_zero, List.set_cons_succ]
            refine takeH (i := 2) (v := .pointer (some ⟨q, 0, none⟩)) (d := 43) rfl rfl (by kernel_rfl) (by kernel_rfl) (by kernel_rfl) (fun _ _ _ h => h) (by rfl) (fun V hV => by obtain ⟨v1, v2⟩ := hV; go_simp) ⟨q4, q2⟩ ?_
            simp only [Act.put, List.setIfInBounds_toArray, List.set_cons_zero, List.set_cons_succ]
            refine takeH (i := 3) (v := .pointer (some ⟨w.heap.size + 1, 2, none⟩)) (d := 44) rfl rfl (by kernel_rfl) (by kernel_rfl) (by kernel_rfl) (fun _ _ _ h => h) (by rfl) (fun V hV => by obtain ⟨v1, v2⟩ := hV; go_simp) ⟨q4, q2⟩ ?_
            simp only [Act.put, List.setIfInBounds_toArray, List.set_cons_zero, List.set_cons_succ]
            refine takeH (i := 4) (v := .int .i64 c) (d := 45) rfl rfl (by kernel_rfl) (by kernel_rfl) (by kernel_rfl) (fun _ _ _ h => h) (by rfl) (fun V hV => by obtain ⟨v1, v2⟩ := hV; go_simp) ⟨q4, q2⟩ ?_
            simp only [Act.put, List.setIfInBounds_toArray, List.set_cons_zero, List.set_cons_succ]
            exact oneH (i := 5) rfl (by kernel_rfl) rfl (call_up (f := 60) (xs := #[.tmp 43, .tmp 45]) (ats := #[68, 3]) rfl epk (vs := #[.pointer (some ⟨q, 0, none⟩), .int .i64 c]) (by simp [Act.eval]) (hops_up SC1.out.rd.drew HY1.out hh1) (fun w' hk' => ⟨rfl, SC1.out.kept.drew.trans hk', .inr ⟨HX5.out, rfl⟩⟩))
          | some p =>
            obtain ⟨ii, r2⟩ := p
            have HE2 : Hid (partsC c M [] [] l3 = partsC c t (os ++ [o]) (is ++ [ii]) r2) := by show _ = _; rw [HE1.out, hh1]; rfl
            have hb1 := hopsC_bytes HY1.out hh1
            have HY2 : Hid (∀ y ∈ r2, 0 ≤ y ∧ y ≤ 255) := hb1.1
            have HI1 : Hid (sumL (is ++ [ii]) ≤ 2000 * (k + 1)) := by show _ ≤ _; rw [sumL_snoc]; have := HSI.out; have := hb1.2; simp only at this; omega
            clear hb1
            refine region_lastF (S := fun V => V.cell? ⟨w.heap.size + 1, 4, none⟩ = some (.slice ya is.length yc) ∧ V.cell? ⟨w.heap.size + 1, 2, none⟩ = some (.int .i64 c)) (by kernel_rfl) (by kernel_rfl) (by kernel_rfl) (by kernel_rfl) ?_
            simp only [List.pop_toArray, List.dropLast_cons_cons, List.dropLast_singleton, List.size_toArray, List.length_cons, List.length_nil, Nat.reduceAdd]
            refine takeH (i := 0) (v := .pointer (some ⟨w.heap.size + 1, 4, none⟩)) (d := 41) rfl rfl (by kernel_rfl) (by kernel_rfl) (by kernel_rfl) (fun _ _ _ h => h) (by rfl) (fun V hV => by obtain ⟨v1, v2⟩ := hV; go_simp) ⟨q4, q2⟩ ?_
            simp only [Act.put, List.setIfInBounds_toArray, List.set_cons_zero, List.set_cons_succ]
            refine takeH (i := 1) (v := .slice ya is.length yc) (d := 42) rfl rfl (by kernel_rfl) (by kernel_rfl) (by kernel_rfl) (fun _ _ _ h => h) (by rfl) (fun V hV => by obtain ⟨v1, v2⟩ := hV; go_simp) ⟨q4, q2⟩ ?_
            simp only [Act.put, List.setIfInBounds_toArray, List.set_cons_zero, List.set_cons_succ]
            refine takeH (i := 2) (v := .pointer (some ⟨q, 0, none⟩)) (d := 43) rfl rfl (by kernel_rfl) (by kernel_rfl) (by kernel_rfl) (fun _ _ _ h => h) (by rfl) (fun V hV => by obtain ⟨v1, v2⟩ := hV; go_simp) ⟨q4, q2⟩ ?_
            simp only [Act.put, List.setIfInBounds_toArray, List.set_cons_zero, List.set_cons_succ]
            refine takeH (i := 3) (v := .pointer (some ⟨w.heap.size + 1, 2, none⟩)) (d := 44) rfl rfl (by kernel_rfl) (by kernel_rfl) (by kernel_rfl) (fun _ _ _ h => h) (by rfl) (fun V hV => by obtain ⟨v1, v2⟩ := hV; go_simp) ⟨q4, q2⟩ ?_
            simp only [Act.put, List.setIfInBounds_toArray, List.set_cons_zero, List.set_cons_succ]
            refine takeH (i := 4) (v := .int .i64 c) (d := 45) rfl rfl (by kernel_rfl) (by kernel_rfl) (by kernel_rfl) (fun _ _ _ h => h) (by rfl) (fun V hV => by obtain ⟨v1, v2⟩ := hV; go_simp) ⟨q4, q2⟩ ?_
            simp only [Act.put, List.setIfInBounds_toArray, List.set_cons_zero, List.set_cons_succ]
            refine oneH (i := 5) rfl (by kernel_rfl) rfl (call_gets (d := 46) (f := 60) (xs := #[.tmp 43, .tmp 45]) (ats := #[68, 3]) rfl rfl epk (vs := #[.pointer (some ⟨q, 0, none⟩), .int .i64 c]) (by simp [Act.eval]) (hops_ok SC1.out.rd.drew HY1.out hh1) ?_)
            rintro pv2 wa2 ⟨hpo, hprd, hpk⟩
            have SA2 := SC1.out.drew.next hpk hprd
            have OA2 := OE1.out.drew.kept hpk fun g hg h => by have := SA2.old; omega
            have OB2 := OD1.out.drew.kept hpk fun g hg h => by have := SA2.old; omega
            have hwa2 := SA2.size
            have PO2 : wa2.ownsRow (w.heap.size + 2) 87 2 pv2 ii.length (ii.flatMap encH) := own_lower hpo (by have : wc.drew.heap.size = wc.heap.size := rfl; omega)
            obtain ⟨pa2, pc2, rfl⟩ := (RowK.own encH_len hpo).shape
            obtain ⟨g2, gc2, wb2, hrun2, hls2, hgr2, hli2⟩ := run_append_ls (w := wa2.alloc (.cells #[.slice pa2 ii.length pc2] 49)) 34 (w.heap.size + 2) (.slice ya is.length yc) is (OA2.kept (S := fun _ => False) ((Kept.refl _ _).alloc _) fun _ _ h => h) wa2.heap.size (.slice pa2 ii.length pc2) ii (0, 0) (box_new _ _ _) (PO2.alloc _) (by omega) (by simp; omega)
            have SB2 : St w q wb2 r2 _ _ _ _ _ := (SA2.more (below_alloc _ _)).grown hgr2 fun k hk => by obtain ⟨vs, hr⟩ := OA2.row; exact (own_ge hr hk).1
            have OC2 : OwnLs wb2 (w.heap.size + 2) (.slice (some ⟨g1, 0, none⟩) (os.length + 1) gc1) (os ++ [o]) := by
              obtain ⟨vs, hr⟩ := OA2.row
              exact (OB2.kept (S := fun _ => False) ((Kept.refl _ _).alloc _) fun _ _ h => h).grown (hr.alloc _) hgr2 AP1.out.or
            have AP2 : Hid (Apt (.slice (some ⟨g2, 0, none⟩) (is.length + 1) gc2) (.slice (some ⟨g1, 0, none⟩) (os.length + 1) gc1)) := by
              intro g h1 h2
              injection h1 with h1
              have h1' : g2 = g := h1
              subst h1'
              rcases hli2 with h3 | h3
              · exact AP1.out g2 h2 h3
              · obtain ⟨vs, hr⟩ := OB2.row
                have := (own_ge hr h2).2
                simp at h3
                omega
            have k32 := SB2.box.cells
            have kf2 := SB2.box.frozen 4
            have ka2 := SA2.box.cells
            have kb2 := (SA2.more (below_alloc wa2 (.cells #[.slice pa2 ii.length pc2] 49))).box.cells
            have SC2 : Hid (St w q (wb2.setCell ⟨w.heap.size + 1, 4, none⟩ (.slice (some ⟨g2, 0, none⟩) (is.length + 1) gc2)) r2 _ _ _ _ _) := SB2.put (SB2.box.set4 _)
            have OD2 : Hid (OwnLs (wb2.setCell ⟨w.heap.size + 1, 4, none⟩ (.slice (some ⟨g2, 0, none⟩) (is.length + 1) gc2)) (w.heap.size + 2) _ (is ++ [ii])) := hls2.box SB2.box (by decide) (by decide)
            have OE2 : Hid (OwnLs (wb2.setCell ⟨w.heap.size + 1, 4, none⟩ (.slice (some ⟨g2, 0, none⟩) (is.length + 1) gc2)) (w.heap.size + 2) _ (os ++ [o])) := OC2.box SB2.box (by decide) (by decide)
            have SD12 := And.intro ka2.2.2.2.2 ka2.2.2.1
            have SD22 := And.intro kb2.2.2.2.2 kb2.2.2.1
            have SD32 := And.intro k32.2.2.2.2 k32.2.2.1
            refine ⟨SD12, ?_⟩
            simp only [Act.put, List.setIfInBounds_toArray, List.set_cons_zero, List.set_cons_succ]
            refine oneH (i := 6) rfl (by kernel_rfl) rfl (op_run (d := 47) (v' := .slice (some ⟨wa2.heap.size, 0, none⟩) 1 1) (w' := wa2.alloc (.cells #[.slice pa2 ii.length pc2] 49)) rfl (by go_simp) ⟨SD22, ?_⟩)
            simp only [Act.put, List.setIfInBounds_toArray, List.set_cons_zero, List.set_cons_succ]
            refine oneH (i := 7) rfl (by kernel_rfl) rfl (call_append (d := 48) (s := .tmp 42) (x := .tmp 47) (t := 34) rfl rfl (v := .slice ya is.length yc) (v2 := .slice (some ⟨wa2.heap.size, 0, none⟩) 1 1) (by simp [Act.eval]) (by simp [Act.eval]) hrun2 ⟨SD32, ?_⟩)
            simp only [Act.put, List.setIfInBounds_toArray, List.set_cons_zero, List.set_cons_succ]
            refine takeH (i := 8) (v := .pointer (some ⟨w.heap.size + 1, 4, none⟩)) (d := 49) rfl rfl (by kernel_rfl) (by kernel_rfl) (by kernel_rfl) (fun _ _ _ h => h) (by rfl) (fun V hV => by obtain ⟨v1, v2⟩ := hV; go_simp) SD32 ?_
            simp only [Act.put, List.setIfInBounds_toArray, List.set_cons_zero, List.set_cons_succ]
            refine wpAnyH_done (by kernel_rfl) ?_ _
            have kc2 := k32.2.2.2.2
            clear SD12 SD22 SD32 ka2 kb2 k32 SA2 OA2 OB2 OC2 SB2 hls2 hgr2 hli2 hrun2 PO2 hpo hprd hpk
            show Oper.wp _ _ _ _ _ _
            go_wp2_with fail
            go_roundw
            case rel => exact ⟨k + 1, os ++ [o], is ++ [ii], _, _, r2, by omega, by go_num, by rw [List.length_append, HOL.out]; rfl, by rw [List.length_append, HIL.out]; rfl, SC2.out, OE2.out, OD2.out, AP2.out.symm, HY2.out, by rw [HT.out]; exact HE2.out, HO1.out, HI1.out⟩
            case measure => simp [intOf]; omega
      · have hkM : M - k = 0 := by omega
        have HE1 : Hid (partC l = ((some (os, is, r)).filter fewB).map fun r => (⟨a, b, c, r.1, r.2.1⟩, r.2.2)) := by show _ = _; rw [HP4.out, HE.out, hkM, partsC]
        have hso2 : sumL os ≤ 1000000 := by have := HSO.out; omega
        have hsi2 : sumL is ≤ 1000000 := by have := HSI.out; omega
        clear hkM HE HP4
        go_wp2_with fail
        refine (count_any _ os _ OO.out.reads hso2).mono ?_
        rintro e w9 ⟨rfl, rfl⟩
        by_cases h6 : sumL os ≤ 600
        · have h6' : ((sumL os : Nat) : Int) ≤ 600 := by omega
          go_wp2_with fail
          refine (insist_yes _).mono ?_
          rintro e w9 ⟨rfl, rfl⟩
          go_wp2_with fail
          refine (count_any _ is _ OI.out.reads hsi2).mono ?_
          rintro e w9 ⟨rfl, rfl⟩
          by_cases h7 : sumL is ≤ 600
          · have h7' : ((sumL is : Nat) : Int) ≤ 600 := by omega
            have HE2 : Hid (partC l = some (⟨a, b, c, os, is⟩, r)) := by
              show _ = _
              rw [HE1.out, Option.filter_some_pos (by unfold fewB; simp [h6, h7])]; rfl
            go_wp2_with fail
            refine (insist_yes _).mono ?_
            rintro e w9 ⟨rfl, rfl⟩
            have hr := ST.out.res
            obtain ⟨e0, e1, e2, e3, e4⟩ := hr.cells
            have z0 := hr.frozen 0
            have z1 := hr.frozen 1
            have z2 := hr.frozen 2
            have z3 := hr.frozen 3
            have z4 := hr.frozen 4
            have DN := ST.out.done
            have HO2 : Hid (OwnLs _ w.heap.size _ os) := (OO.out.kept DN.2.2.2 fun g hg h => by omega).lower (by omega)
            have HI2 : Hid (OwnLs _ w.heap.size _ is) := (OI.out.kept DN.2.2.2 fun g hg h => by omega).lower (by omega)
            have HD2 : Hid _ := DN
            clear hr DN
            go_wp2_with fail
            obtain ⟨r0, r1, r2, r3, r4⟩ := HD2.out.2.2.1.cells
            refine bodyPost_ret (v := .agg #[.int .i64 a, .int .i64 b, .int .i64 c, .slice xa os.length xc, .slice ya is.length yc]) (by simp [results, Try.results37, go_sem, r0, r1, r2, r3, r4]) rfl ⟨HD2.out.1, .inl ⟨⟨a, b, c, os, is⟩, r, _, _, HE2.out, rfl, HO2.out, HI2.out, HD2.out.2.1⟩⟩
          · have h7' : ¬ ((sumL is : Nat) : Int) ≤ 600 := by omega
            have HE2 : Hid (partC l = none) := by
              show _ = _
              rw [HE1.out, Option.filter_some_neg (by unfold fewB; simp [h7])]; rfl
            go_wp2_with fail
            rw [decide_eq_false (by omega)]
            refine (insist_no _).mono ?_
            rintro e w9 ⟨rfl, rfl⟩
            exact ⟨rfl, ST.out.kept, .inr ⟨HE2.out, rfl⟩⟩
        · have h6' : ¬ ((sumL os : Nat) : Int) ≤ 600 := by omega
          have HE2 : Hid (partC l = none) := by
            show _ = _
            rw [HE1.out, Option.filter_some_neg (by unfold fewB; simp [h6])]; rfl
          go_wp2_with fail
          rw [decide_eq_false (by omega)]
          refine (insist_no _).mono ?_
          rintro e w9 ⟨rfl, rfl⟩
          exact ⟨rfl, ST.out.kept, .inr ⟨HE2.out, rfl⟩⟩
  · have HX4 : Hid (partC l = none) := by show _ = _; rw [HP3.out, if_neg he]
    have he1 : (errO a b c b == 0) = false := by simpa using he
    generalize errO a b c b = fe at *
    obtain ⟨ma, mn, mc, rfl⟩ : ∃ ma mn mc, mv = .slice ma mn mc := by obtain ⟨x, y, e, _⟩ := RowK.own encI_len hown; exact ⟨_, _, _, e⟩
    clear hown he HP3
    go_wp2_with fail
    refine (insist_no _).mono ?_
    rintro e w8 ⟨rfl, rfl⟩
    exact ⟨rfl, W4.out.kept, .inr ⟨HX4.out, rfl⟩⟩
end Go.Proofs.Ytacpicnihgggaaa
