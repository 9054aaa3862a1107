/-
  The heap of heads of lists: its box, its row; what its calls leave as it was.
-/
import Derived.Test.YtihghhmhgakkaaaKeptMem
import Derived.Test.YtihghhmhgakkaaaMailMath
namespace Go.Proofs.Ytihghhmhgakkaaa
set_option maxRecDepth 100000
open Go.ChangeShapes Go.WideShapes Go.ChangeAt Go.RowKit

/-- A head: the first piece of mail, and the slice of the rest; r: what that reads as. -/
structure Hd where
  x : Ml
  a : Option Addr
  n : Nat
  c : Nat
  r : List Ml
def Hd.rest (h : Hd) : Value := .slice h.a h.n h.c
def encD (h : Hd) : List Value := [.int .i64 h.x.1, .int .i64 h.x.2, .slice h.a h.n h.c]
def Hd.agg (h : Hd) : Value := .agg #[.int .i64 h.x.1, .int .i64 h.x.2, .slice h.a h.n h.c]
theorem encD_len (h : Hd) : (encD h).length = 3 := rfl
theorem encD_one (h : Hd) : ∀ u ∈ encD h, u.oneCell' = true := by intro u hu; simp [encD] at hu; rcases hu with rfl | rfl | rfl <;> rfl
theorem Try.infoD : (Try.prog.info? 99).map (fun i => (i.zero, i.size, i.bytes)) = some (some (.agg #[.int .i64 0, .int .i64 0, .slice none 0 0]), 3, 40) := by kernel_rfl
def kD : ElK Hd := ⟨encD, 3, 94, 99, 40, .agg #[.int .i64 0, .int .i64 0, .slice none 0 0], Try.underlying94, Try.infoD, rfl, by decide, encD_len, encD_one⟩

/-- merge's compare as a value. -/
def fnM : Value := .func (.func 51) #[] #[]
/-- The heap in the block q: these heads. -/
def HX (w : World) (q : Nat) (hs : List Hd) : Prop :=
  ∃ v, w.heap[q]? = some (.cells #[v, fnM] 96 (0, 0)) ∧ w.ownsRow q 99 3 v hs.length (hs.flatMap encD)
theorem HX.lt {w : World} {q : Nat} {hs : List Hd} (h : HX w q hs) : q < w.heap.size := by
  obtain ⟨v, hq, _⟩ := h
  exact (Array.getElem?_eq_some_iff.1 hq).1
/-- The cells of a heap. -/
theorem HX.at {w : World} {q : Nat} {hs : List Hd} (h : HX w q hs) : ∃ a c, w.heap[q]? = some (.cells #[.slice a hs.length c, fnM] 96 (0, 0)) ∧ w.ownsRow q 99 3 (.slice a hs.length c) hs.length (hs.flatMap encD) ∧ w.cell? ⟨q, 0, none⟩ = some (.slice a hs.length c) ∧ w.cell? ⟨q, 1, none⟩ = some fnM ∧ hs.length ≤ c ∧ c ≤ maxLen ∧
    (0 < hs.length → ∃ g, a = some ⟨g, 0, none⟩ ∧ q < g ∧ g < w.heap.size ∧ ∀ i x, hs[i]? = some x → w.cell? ⟨g, i * 3, none⟩ = some (.int .i64 x.x.1) ∧ w.cell? ⟨g, i * 3 + 1, none⟩ = some (.int .i64 x.x.2) ∧ w.cell? ⟨g, i * 3 + 2, none⟩ = some (.slice x.a x.n x.c)) := by
  obtain ⟨v, hq, ho⟩ := h
  have c0 : w.cell? ⟨q, 0, none⟩ = some v := by rw [cell_of_row _ _ _ _ _ _ hq]; rfl
  have c1 : w.cell? ⟨q, 1, none⟩ = some fnM := by rw [cell_of_row _ _ _ _ _ _ hq]; rfl
  rcases own_shapeK ho with ⟨rfl, h0, _⟩ | ⟨g, cap, rfl, hg, hl, hc, hm, hcell⟩
  · refine ⟨none, 0, by rw [h0]; exact hq, by rw [h0] at ho ⊢; exact ho, by rw [h0]; exact c0, c1, by omega, by simp [maxLen], fun hn => by omega⟩
  · refine ⟨_, cap, hq, ho, c0, c1, hc, hm, fun _ => ⟨g, rfl, ?_, hl, fun i x hx => ?_⟩⟩
    · have := own_block ho (g := g) rfl hq (by decide)
      omega
    · exact ⟨hcell _ _ (flat_at encD_len (j := 0) hx rfl), hcell _ _ (flat_at encD_len (j := 1) hx rfl), hcell _ _ (flat_at encD_len (j := 2) hx rfl)⟩
theorem HX.below {w w' : World} {q : Nat} {hs : List Hd} (h : HX w q hs) (hb : Below w.heap.size w w') : HX w' q hs := by
  have hl := h.lt
  obtain ⟨v, hq, ho⟩ := h
  exact ⟨v, by rw [hb.block q hl]; exact hq, own_below ho hb (Nat.le_refl _)⟩

/-- What a call on the heap of the block q leaves as it was. -/
structure HK (q : Nat) (w w' : World) : Prop where
  os : w'.os = w.os
  tape : w'.tape = w.tape
  output : w'.output = w.output
  size : w.heap.size ≤ w'.heap.size
  block : ∀ k, k < w.heap.size → (k < q ∨ ∀ cs t fr, w.heap[k]? = some (.cells cs t fr) → t ≠ 96 ∧ t ≠ 99) → w'.heap[k]? = w.heap[k]?
theorem HK.refl (q : Nat) (w : World) : HK q w w := ⟨rfl, rfl, rfl, Nat.le_refl _, fun _ _ _ => rfl⟩
theorem HK.trans {q : Nat} {a b c : World} (h : HK q a b) (k : HK q b c) : HK q a c :=
  ⟨k.os.trans h.os, k.tape.trans h.tape, k.output.trans h.output, Nat.le_trans h.size k.size, fun i hi hs => by
    have e := h.block i hi hs
    refine (k.block i (Nat.lt_of_lt_of_le hi h.size) ?_).trans e
    rw [e]; exact hs⟩
theorem HK.of {q : Nat} {w w' : World} (h : Below w.heap.size w w') : HK q w w' := ⟨h.os, h.tape, h.output, h.size, fun k hk _ => h.block k hk⟩
theorem HK.below {q : Nat} {w w' : World} (h : HK q w w') (hq : q ≤ w.heap.size) : Below q w w' := ⟨h.os, h.tape, h.output, h.size, fun k hk => h.block k (by omega) (.inl hk)⟩
/-- A store into a block of the heap's own types. -/
theorem HK.set {q : Nat} {a w : World} (h : HK q a w) {p : Addr} (u : Value) (hp : a.heap.size ≤ p.block ∨ (q ≤ p.block ∧ ∃ cs t fr, a.heap[p.block]? = some (.cells cs t fr) ∧ (t = 96 ∨ t = 99))) : HK q a (w.setCell p u) :=
  ⟨h.os, h.tape, h.output, by rw [size_setCell]; exact h.size, fun k hk hs => by
    rw [Below.heap_setCell _ _ _ _ (fun e => by
      subst e
      rcases hp with hp | ⟨hp, cs, t, fr, hc, ht⟩
      · omega
      · rcases hs with hs | hs
        · omega
        · have := hs cs t fr hc
          rcases ht with rfl | rfl
          · exact this.1 rfl
          · exact this.2 rfl)]
    exact h.block k hk hs⟩
theorem HK.grown {q : Nat} {a w w' : World} {row : Option Nat} (h : HK q a w) (hg : w.grownBy w' row) (hr : ∀ k, row = some k → a.heap.size ≤ k ∨ (q ≤ k ∧ ∃ cs t fr, a.heap[k]? = some (.cells cs t fr) ∧ (t = 96 ∨ t = 99))) : HK q a w' :=
  ⟨hg.os.trans h.os, hg.tape.trans h.tape, hg.output.trans h.output, Nat.le_trans h.size hg.size, fun k hk hs =>
    (hg.block k (Nat.lt_of_lt_of_le hk h.size) fun e => by
      rcases hr k e.symm with hp | ⟨hp, cs, t, fr, hc, ht⟩
      · omega
      · rcases hs with hs | hs
        · omega
        · have := hs cs t fr hc
          rcases ht with rfl | rfl
          · exact this.1 rfl
          · exact this.2 rfl).trans (h.block k hk hs)⟩
/-- Rows of other types are as they were. -/
theorem HK.own {q : Nat} {w w' : World} {base n size : Nat} {e : TypeId} {v : Value} {xs : List Value} (h : HK q w w') (ho : w.ownsRow base e size v n xs) (h1 : e ≠ 96) (h2 : e ≠ 99) : w'.ownsRow base e size v n xs := by
  refine ⟨ho.1, ?_⟩
  rcases ho.2 with hv | ⟨g, cap, cur, hv, hg, hgg, rest⟩
  · exact .inl hv
  · subst hv
    refine .inr ⟨g, cap, cur, rfl, hg, ?_, rest⟩
    rw [h.block g (Array.getElem?_eq_some_iff.1 hgg).1 (.inr fun cs t fr hc => by
      rw [hgg] at hc
      injection hc with hc
      injection hc with _ ht _
      subst ht
      exact ⟨h1, h2⟩)]
    exact hgg
/-- Three stores: a head. -/
def putD (w : World) (g o : Nat) (h : Hd) : World := ((w.setCell ⟨g, o, none⟩ (.int .i64 h.x.1)).setCell ⟨g, o + 1, none⟩ (.int .i64 h.x.2)).setCell ⟨g, o + 2, none⟩ (.slice h.a h.n h.c)
theorem flatD_set : ∀ (xs : List Hd) (p : Nat) (h : Hd), p < xs.length → (xs.set p h).flatMap encD = (((xs.flatMap encD).set (p * 3) (.int .i64 h.x.1)).set (p * 3 + 1) (.int .i64 h.x.2)).set (p * 3 + 2) (.slice h.a h.n h.c)
  | [], p, h, hp => by simp at hp
  | x :: xs, 0, h, _ => by simp [encD]
  | x :: xs, p + 1, h, hp => by
    have := flatD_set xs p h (by simpa using hp)
    rw [List.set_cons_succ, List.flatMap_cons, this, List.flatMap_cons, show (p + 1) * 3 = p * 3 + 3 by omega]
    simp [encD]
theorem ownD_put {w : World} {base g n cap p : Nat} {xs : List Hd} (ho : w.ownsRow base 99 3 (.slice (some ⟨g, 0, none⟩) n cap) n (xs.flatMap encD)) (hp : p < xs.length) (h : Hd) :
    (putD w g (p * 3) h).ownsRow base 99 3 (.slice (some ⟨g, 0, none⟩) n cap) n ((xs.set p h).flatMap encD) := by
  rw [flatD_set xs p h hp]
  exact own_setRow (own_setRow (own_setRow ho))
theorem own_typed {w : World} {base g n cap : Nat} {e : TypeId} {size : Nat} {xs : List Value} (ho : w.ownsRow base e size (.slice (some ⟨g, 0, none⟩) n cap) n xs) : base ≤ g ∧ ∃ cs fr, w.heap[g]? = some (.cells cs e fr) := by
  rcases ho.2 with ⟨hv, _⟩ | ⟨g', cap', cur, hv, hg, hgg, _⟩
  · cases hv
  · injection hv with h1 _ _
    injection h1 with h1
    injection h1 with h1
    subst h1
    exact ⟨hg, _, _, hgg⟩
theorem HK.put {q : Nat} {a w : World} (h : HK q a w) {g o : Nat} (x : Hd) (hg : q ≤ g) (hc : ∃ cs fr, a.heap[g]? = some (.cells cs 99 fr)) : HK q a (putD w g o x) := by
  obtain ⟨cs, fr, hc⟩ := hc
  unfold putD
  refine HK.set (HK.set (HK.set h _ ?_) _ ?_) _ ?_ <;> exact .inr ⟨hg, cs, _, fr, hc, .inr rfl⟩
theorem heap_putD {w : World} {g o q : Nat} {x : Hd} (h : q ≠ g) : (putD w g o x).heap[q]? = w.heap[q]? := by
  unfold putD
  rw [Below.heap_setCell _ _ _ _ (by exact h), Below.heap_setCell _ _ _ _ (by exact h), Below.heap_setCell _ _ _ _ (by exact h)]
theorem HX.drew {w : World} {q : Nat} {hs : List Hd} (h : HX w q hs) : HX w.drew q hs := by
  obtain ⟨v, hq, ho⟩ := h
  exact ⟨v, hq, ho.drew⟩
theorem HK.drew {q : Nat} {a w : World} (h : HK q a w) : HK q a w.drew := ⟨h.os, h.tape, h.output, h.size, h.block⟩
/-- Two stores of heads. -/
theorem HX.swap {w : World} {q g c i j : Nat} {hs : List Hd} {x y : Hd} (hq : w.heap[q]? = some (.cells #[.slice (some ⟨g, 0, none⟩) hs.length c, fnM] 96 (0, 0))) (ho : w.ownsRow q 99 3 (.slice (some ⟨g, 0, none⟩) hs.length c) hs.length (hs.flatMap encD)) (hqg : q < g) (hi : i < hs.length) (hj : j < hs.length) :
    HX (putD (putD w g (i * 3) y) g (j * 3) x) q ((hs.set i y).set j x) ∧ HK q w (putD (putD w g (i * 3) y) g (j * 3) x) := by
  have hl : ((hs.set i y).set j x).length = hs.length := by simp
  refine ⟨⟨.slice (some ⟨g, 0, none⟩) hs.length c, ?_, ?_⟩, ?_⟩
  · rw [heap_putD (by omega), heap_putD (by omega)]; exact hq
  · rw [hl]
    exact ownD_put (ownD_put ho hi y) (by simpa using hj) x
  · obtain ⟨_, hc⟩ := own_typed ho
    exact HK.put (HK.put (HK.refl q w) y (Nat.le_of_lt hqg) hc) x (Nat.le_of_lt hqg) hc
theorem HX.grown {w w' : World} {q b n k : Nat} {hs : List Hd} {e : TypeId} {u : Value} {xs : List Value} (h : HX w q hs) (ho : w.ownsRow b e k u n xs) (hg : w.grownBy w' u.ownBlock) (h1 : e ≠ 96) (h2 : 99 ≠ e) : HX w' q hs := by
  have hl := h.lt
  obtain ⟨v, hq, hr⟩ := h
  exact ⟨v, (hg.block q hl fun e2 => own_block ho e2.symm hq h1 rfl).trans hq, hr.kept hg (own_apart hr ho h2)⟩
end Go.Proofs.Ytihghhmhgakkaaa
