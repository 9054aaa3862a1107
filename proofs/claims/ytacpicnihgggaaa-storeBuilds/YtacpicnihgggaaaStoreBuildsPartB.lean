/-
  Contract of the document's own EdgeAhead; an insertion in plain mathematics.
  A store of an edge into a row of the call's own.
  Contract of the document's own InOrder: edges, one by one put where they belong.
  Contract of the document's own In.
  Contracts of the document's own GraphFault.
  What is had of two boxes with graphs; the document's own InOrder answers a slice.
  Contract of the document's own GraphReversed.
  Contracts of the document's own hopsOf and HopsFrom.
  Contracts of the document's own OwnerOf, MineOf and PlaceOf.
  Contracts of frame.Sum and of the document's own sum, told bit by bit: both answer P2.1.
  Contract of the document's own frame: that of P2.2 in memory of its own, or the error; nothing else is written.
-/
import Derived.Test.YtacpicnihgggaaaSortMath
import Derived.Test.YtacpicnihgggaaaRowMem
import Derived.Test.YtacpicnihgggaaaRowAppend
import Derived.Deep.RegionHeld3
import Derived.Deep.CutRange
import Derived.Deep.QuietTactic
import Derived.BigQuiet
import Derived.Test.YtacpicnihgggaaaRowBase
import Derived.Test.YtacpicnihgggaaaCheckFace
import Derived.Test.YtacpicnihgggaaaOrderLib
import Derived.Test.YtacpicnihgggaaaHopsLib
import Derived.Test.YtacpicnihgggaaaOwnerMath
import Derived.Test.YtacpicnihgggaaaRowNew
import Derived.Test.YtacpicnihgggaaaSumWalk
import Derived.Test.YtacpicnihgggaaaWrapWalk
import Derived.Test.YtacpicnihgggaaaStoreBuildsPartA

namespace Go.Proofs.Ytacpicnihgggaaa
set_option maxRecDepth 100000
open Go.ChangeShapes Go.WideShapes Go.ChangeAt Go.RowKit

/-- x stands ahead of y. -/
def aheadB (x y : Ed) : Bool := if x.1 ≠ y.1 then decide (x.1 < y.1) else if x.2.1 ≠ y.2.1 then decide (x.2.1 < y.2.1) else decide (x.2.2 < y.2.2)
theorem ahead_lt (x y : Ed) : aheadB x y = ltEb x y := by
  unfold aheadB ltEb
  by_cases h1 : x.1 ≠ y.1
  · rw [if_pos h1]; congr 1; exact propext ⟨fun h => by omega, fun h => by omega⟩
  · rw [if_neg h1]
    by_cases h2 : x.2.1 ≠ y.2.1
    · rw [if_pos h2]; congr 1; exact propext ⟨fun h => by omega, fun h => by omega⟩
    · rw [if_neg h2]; congr 1; exact propext ⟨fun h => by omega, fun h => by omega⟩

set_option maxHeartbeats 1000000 in
theorem ahead_any (x y : Ed) (w : World) : Calls Try.prog 72 #[.agg #[.int .i64 x.1, .int .i64 x.2.1, .int .i64 x.2.2], .agg #[.int .i64 y.1, .int .i64 y.2.1, .int .i64 y.2.2]] w fun e w' => e = .returned (.bool (ltEb x y)) ∧ Below w.heap.size w w' := by
  rw [← ahead_lt]
  obtain ⟨a0, a1, a2⟩ := x
  obtain ⟨b0, b1, b2⟩ := y
  unfold aheadB
  simp only
  have hb : ∀ o1 o2, Below w.heap.size w ((w.alloc o1).alloc o2) := fun o1 o2 => (below_alloc w o1).alloc (by simp) o2
  by_cases h1 : a0 = b0
  · rw [if_neg (by simpa using h1)]
    have e1 : (a0 != b0) = false := by simpa using h1
    by_cases h2 : a1 = b1
    · rw [if_neg (by simpa using h2)]
      have e2 : (a1 != b1) = false := by simpa using h2
      clear h1 h2
      go_enter Try.func72, Try.ntmps72
      go_wp2_with fail
      go_ret
      exact ⟨rfl, hb _ _⟩
    · rw [if_pos h2]
      have e2 : (a1 != b1) = true := by simpa using h2
      clear h1 h2
      go_enter Try.func72, Try.ntmps72
      go_wp2_with fail
      go_ret
      exact ⟨rfl, hb _ _⟩
  · rw [if_pos h1]
    have e1 : (a0 != b0) = true := by simpa using h1
    clear h1
    go_enter Try.func72, Try.ntmps72
    go_wp2_with fail
    go_ret
    exact ⟨rfl, hb _ _⟩

/-- In order. -/
abbrev InO (l : List Ed) : Prop := l.Pairwise fun x y => leE x y = true
/-- x is put behind A and ahead of B. -/
theorem put_sorted {A B : List Ed} {x : Ed} (h : InO (A ++ B)) (hB : ∀ y ∈ B, ltE x y) (hA : ∀ z, A.getLast? = some z → ¬ ltE x z) : InO (A ++ x :: B) := by
  unfold InO at *
  rw [List.pairwise_append] at h ⊢
  obtain ⟨h1, h2, h3⟩ := h
  have hAx : ∀ a ∈ A, leE a x = true := by
    intro a ha
    rw [leE_iff]
    rcases List.eq_nil_or_concat A with rfl | ⟨A', z, rfl⟩
    · simp at ha
    · have hz : ¬ ltE x z := hA z (by simp)
      simp only [List.concat_eq_append] at ha h1
      rw [List.mem_append] at ha
      rcases ha with ha | ha
      · have := (List.pairwise_append.1 h1).2.2 a ha z (by simp)
        rw [leE_iff] at this
        unfold ltE at *; omega
      · simp at ha; subst ha; exact hz
  refine ⟨h1, ?_, ?_⟩
  · rw [List.pairwise_cons]
    exact ⟨fun y hy => by have := hB y hy; rw [leE_iff]; unfold ltE at *; omega, h2⟩
  · intro a ha y hy
    rcases List.mem_cons.1 hy with rfl | hy
    · exact hAx a ha
    · exact h3 a ha y hy
theorem put_perm {A B s l : List Ed} {x : Ed} (h : A ++ B = s) (hp : s.Perm l) : (A ++ x :: B).Perm (l ++ [x]) := by
  subst h
  exact (List.perm_middle.trans (List.Perm.cons x hp)).trans (List.perm_append_singleton x l).symm
end Go.Proofs.Ytacpicnihgggaaa

namespace Go.Proofs.Ytacpicnihgggaaa
set_option maxRecDepth 100000
open Go.ChangeShapes Go.WideShapes Go.ChangeAt Go.RowKit

theorem flat_set : ∀ (xs : List Ed) (p : Nat) (e : Ed), p < xs.length → (xs.set p e).flatMap encE = (((xs.flatMap encE).set (p * 3) (.int .i64 e.1)).set (p * 3 + 1) (.int .i64 e.2.1)).set (p * 3 + 2) (.int .i64 e.2.2)
  | [], p, e, h => by simp at h
  | x :: xs, 0, e, _ => by simp [encE]
  | x :: xs, p + 1, e, h => by
    have := flat_set xs p e (by simpa using h)
    rw [List.set_cons_succ, List.flatMap_cons, this, List.flatMap_cons, show (p + 1) * 3 = p * 3 + 3 by omega]
    simp [encE]

/-- Three stores: an edge. -/
def putE (w : World) (g o : Nat) (e : Ed) : World := ((w.setCell ⟨g, o, none⟩ (.int .i64 e.1)).setCell ⟨g, o + 1, none⟩ (.int .i64 e.2.1)).setCell ⟨g, o + 2, none⟩ (.int .i64 e.2.2)
theorem own_put {w : World} {base g n cap p : Nat} {xs : List Ed} (h : w.ownsRow base 67 3 (.slice (some ⟨g, 0, none⟩) n cap) n (xs.flatMap encE)) (hp : p < xs.length) (e : Ed) :
    (putE w g (p * 3) e).ownsRow base 67 3 (.slice (some ⟨g, 0, none⟩) n cap) n ((xs.set p e).flatMap encE) := by
  rw [flat_set xs p e hp]
  exact own_setRow (own_setRow (own_setRow h))
theorem below_put {w w' : World} {B g o : Nat} (h : Below B w w') (hg : B ≤ g) (e : Ed) : Below B w (putE w' g o e) := ((h.setCell (p := ⟨g, o, none⟩) hg _).setCell (p := ⟨g, o + 1, none⟩) hg _).setCell (p := ⟨g, o + 2, none⟩) hg _
theorem put_cell {w : World} {g o b j : Nat} {e : Ed} (hne : b ≠ g) : (putE w g o e).cell? ⟨b, j, none⟩ = w.cell? ⟨b, j, none⟩ := by
  unfold putE
  rw [World.cell?_setCell_other _ _ _ _ (fun h => hne (by injection h with h; exact h.symm)), World.cell?_setCell_other _ _ _ _ (fun h => hne (by injection h with h; exact h.symm)), World.cell?_setCell_other _ _ _ _ (fun h => hne (by injection h with h; exact h.symm))]
theorem cell_far {w : World} {g i j : Nat} {v : Value} (h : i ≠ j) : (w.setCell ⟨g, i, none⟩ v).cell? ⟨g, j, none⟩ = w.cell? ⟨g, j, none⟩ := World.cell?_setCell_other _ _ _ _ (fun e => h (by injection e))
theorem put_far {w : World} {g o j : Nat} {e : Ed} (h : j < o ∨ o + 2 < j) : (putE w g o e).cell? ⟨g, j, none⟩ = w.cell? ⟨g, j, none⟩ := by
  unfold putE
  rw [cell_far (by omega), cell_far (by omega), cell_far (by omega)]
theorem put_size (w : World) (g o : Nat) (e : Ed) : (putE w g o e).heap.size = w.heap.size := by unfold putE; rw [size_setCell, size_setCell, size_setCell]
/-- The three cells of an edge in a row of the call's own. -/
theorem own_at {w : World} {base g n cap : Nat} {xs : List Ed} (h : w.ownsRow base 67 3 (.slice (some ⟨g, 0, none⟩) n cap) n (xs.flatMap encE)) {i : Nat} {x : Ed} (hx : xs[i]? = some x) :
    w.cell? ⟨g, i * 3, none⟩ = some (.int .i64 x.1) ∧ w.cell? ⟨g, i * 3 + 1, none⟩ = some (.int .i64 x.2.1) ∧ w.cell? ⟨g, i * 3 + 2, none⟩ = some (.int .i64 x.2.2) := by
  have c : ∀ j u, (encE x)[j]? = some u → w.cell? ⟨g, i * 3 + j, none⟩ = some u := fun j u hu => by
    have := h.cells rfl _ _ (flat_at encE_len hx hu)
    rwa [addr_add] at this
  exact ⟨c 0 _ rfl, c 1 _ rfl, c 2 _ rfl⟩
theorem set_mid {A B : List Ed} {x y : Ed} : (A ++ x :: B).set A.length y = A ++ y :: B := by simp
theorem get_mid {A B : List Ed} {x : Ed} : (A ++ x :: B)[A.length]? = some x := by simp
end Go.Proofs.Ytacpicnihgggaaa

namespace Go.Proofs.Ytacpicnihgggaaa
set_option maxRecDepth 100000
open Go.ChangeShapes Go.WideShapes Go.ChangeAt Go.RowKit

set_option maxHeartbeats 2000000 in
set_option maxRecDepth 100000 in
theorem refOrder_any (v : Value) (es : List Ed) (w : World) (h : EdR w v es) (hl : es.length ≤ 600) :
    Calls Try.prog 53 #[v] w fun e w' => ∃ v', e = .returned v' ∧ w'.ownsRow w.heap.size 67 3 v' (sortE es).length ((sortE es).flatMap encE) ∧ Below w.heap.size w w' := by
  have HR : Hid (EdR w v es) := h
  obtain ⟨a, cap, rfl, hc, hm, _, _⟩ := h
  unfold maxLen at hm
  go_enter Try.func53, Try.ntmps53
  go_wp2_with fail
  go_loopw [3, 4] (fun u i wr => ∃ (k : Nat) (s : List Ed), k ≤ es.length ∧ i = .int .i64 k ∧ wr.ownsRow w.heap.size 67 3 u s.length (s.flatMap encE) ∧ s.Perm (es.take k) ∧ InO s ∧ Below w.heap.size w wr) (fun _ i _ => es.length - (intOf i).toNat)
  case atStart => exact ⟨0, [], by omega, rfl, World.ownsRow_nil _ _ _ _, List.Perm.refl _, List.Pairwise.nil, Below.refl _ _⟩
  case round =>
    obtain ⟨k, s, hk, rfl, hown, hp, hso, hbel⟩ := hrel
    have OW : Hid (wr.ownsRow w.heap.size 67 3 u3 s.length (s.flatMap encE)) := hown
    have HB : Hid (Below w.heap.size w wr) := hbel
    have HP : Hid (s.Perm (es.take k)) := hp
    have HSO : Hid (InO s) := hso
    have hsr := hbel.size
    have hsl : s.length = k := by have := hp.length_eq; simp at this; omega
    clear hown hbel hp hso
    by_cases hlt : k < es.length
    · obtain ⟨b, off, cap', e1, _, _, lt, hv⟩ := EdR.at (HR.out.below HB.out (Nat.le_refl _)) (by omega)
      injection e1 with e1 _ e3
      subst e1 e3
      obtain ⟨x, hx⟩ := getE hlt
      obtain ⟨c1, c2, c3⟩ := hv k x hx
      have HX : Hid (es.take (k + 1) = es.take k ++ [x]) := take_snoc hx
      clear hv hx
      go_wp2_with (at_builtin; refine wpList_append_newK kE rfl _ _ rfl w.heap.size _ s rfl (OW.out.alloc _) wr.heap.size x rfl #[.int .i64 x.1, .int .i64 x.2.1, .int .i64 x.2.2] rfl (0, 0) (heap_alloc_new _ _) (by simp [kE]; omega) (by unfold maxLen; omega) (by simp; omega) ?_)
      intro g c w3 hown3 hb3 _
      have O3 : Hid (w3.ownsRow w.heap.size 67 3 (.slice (some ⟨g, 0, none⟩) (k + 1) c) (k + 1) ((s ++ [x]).flatMap encE)) := by
        show World.ownsRow _ _ _ _ _ _ _
        rw [flat_snoc]; exact hown3
      have HB3 : Hid (Below w.heap.size w w3) := (HB.out.alloc hsr _).trans hb3
      clear hown3 hb3 c1 c2 c3
      have hgw : w.heap.size ≤ g := (O3.out.lt g rfl).1
      go_wp2_with fail
      go_loopw [5] (fun j wq => ∃ (A B : List Ed) (m : Nat), A ++ B = s ∧ j = .int .i64 m ∧ A.length = m ∧ (∀ y ∈ B, ltE x y) ∧ wq.ownsRow w.heap.size 67 3 (.slice (some ⟨g, 0, none⟩) (k + 1) c) (k + 1) ((A ++ x :: B).flatMap encE) ∧ Below w.heap.size w wq) (fun j _ => (intOf j).toNat)
      case atStart => exact ⟨s, [], k, by simp, rfl, hsl, by simp, O3.out, HB3.out⟩
      case round =>
        obtain ⟨A, B, m, hAB, rfl, hAm, hBx, hown, hbq⟩ := hrel
        have OQ : Hid (wr.ownsRow w.heap.size 67 3 (.slice (some ⟨g, 0, none⟩) (k + 1) c) (k + 1) ((A ++ x :: B).flatMap encE)) := hown
        have HBQ : Hid (Below w.heap.size w wr) := hbq
        have HAB : Hid (A ++ B = s) := hAB
        have HBX : Hid (∀ y ∈ B, ltE x y) := hBx
        have hcap : k + 1 ≤ c ∧ c ≤ maxLen := by
          rcases own_shapeK hown with ⟨e, _⟩ | ⟨_, _, e, _, _, q1, q2, _⟩
          · cases e
          · injection e with _ _ e3; rw [e3]; exact ⟨q1, q2⟩
        have hAl : A.length ≤ k := by have := congrArg List.length hAB; simp at this; omega
        have hsq := hbq.size
        clear hown hbq hAB hBx O3 HB3 OW HB
        unfold maxLen at hcap
        rcases List.eq_nil_or_concat A with rfl | ⟨A', z, rfl⟩
        · have HIN : Hid (InO (x :: B)) := put_sorted (A := []) (by rw [HAB.out]; exact HSO.out) HBX.out (by simp)
          have HPE : Hid ((x :: B).Perm (es.take (k + 1))) := by
            show List.Perm _ _
            rw [HX.out]; exact put_perm (A := []) HAB.out HP.out
          have HL : Hid ((x :: B).length = k + 1) := by
            show _ = _
            have := congrArg List.length HAB.out; simp at this; simp; omega
          obtain rfl : m = 0 := by simpa using hAm.symm
          have hgt : ¬ ((0 : Nat) : Int) > 0 := by simp
          clear hAm hAl
          go_wp2_with fail
          go_quiet (fail)
          go_wp2_with fail
          go_roundw
          case rel => exact ⟨k + 1, x :: B, by omega, by go_num, by rw [HL.out]; exact OQ.out, HPE.out, HIN.out, below_drewN HBQ.out _⟩
          case measure => simp [intOf]; omega
        · simp only [List.concat_eq_append] at *
          obtain ⟨m', rfl⟩ : ∃ m', m = m' + 1 := ⟨A'.length, by simpa using hAm.symm⟩
          have hA' : A'.length = m' := by simpa using hAm
          have OQ2 : Hid (wr.ownsRow w.heap.size 67 3 (.slice (some ⟨g, 0, none⟩) (k + 1) c) (k + 1) ((A' ++ z :: x :: B).flatMap encE)) := by
            show World.ownsRow _ _ _ _ _ _ _
            simpa using OQ.out
          obtain ⟨z1, z2, z3⟩ := own_at OQ2.out (i := m') (x := z) (by rw [← hA']; exact get_mid)
          obtain ⟨x1, x2, x3⟩ := own_at OQ2.out (i := m' + 1) (x := x) (by
            rw [← hA']; simp)
          have hm1 : m' + 1 < k + 1 := by simp at hAl; omega
          have HA' : Hid (A'.length = m') := hA'
          clear OQ hA' hAm hAl
          have q0 : (0 : Int) ≤ (m' : Int) + 1 := by omega
          have q1 : (m' : Int) + 1 < (k : Int) + 1 := by omega
          have q2 : (0 : Int) ≤ (m' : Int) := by omega
          have q3 : (m' : Int) < (k : Int) + 1 := by omega
          have q4 : (m' : Int) + 1 > 0 := by omega
          have q5 : IntKind.i64.wrap (m' : Int) = m' := wrap_id64 (by omega) (by omega)
          have q6 : IntKind.i64.wrap ((m' : Int) + 1 - 1) = m' := by rw [Int.add_sub_cancel]; exact q5
          have hgl : g < wr.heap.size := World.block_lt_of_cell? wr _ z1
          have KEEP : Hid (∀ V, Below wr.heap.size wr V → V.cell? ⟨g, m' * 3, none⟩ = some (.int .i64 z.1) ∧ V.cell? ⟨g, m' * 3 + 1, none⟩ = some (.int .i64 z.2.1) ∧ V.cell? ⟨g, m' * 3 + 2, none⟩ = some (.int .i64 z.2.2) ∧ V.cell? ⟨g, (m' + 1) * 3, none⟩ = some (.int .i64 x.1) ∧ V.cell? ⟨g, (m' + 1) * 3 + 1, none⟩ = some (.int .i64 x.2.1) ∧ V.cell? ⟨g, (m' + 1) * 3 + 2, none⟩ = some (.int .i64 x.2.2)) := fun V hV => ⟨(hV.cell (p := ⟨g, m' * 3, none⟩) hgl).trans z1, (hV.cell (p := ⟨g, m' * 3 + 1, none⟩) hgl).trans z2, (hV.cell (p := ⟨g, m' * 3 + 2, none⟩) hgl).trans z3, (hV.cell (p := ⟨g, (m' + 1) * 3, none⟩) hgl).trans x1, (hV.cell (p := ⟨g, (m' + 1) * 3 + 1, none⟩) hgl).trans x2, (hV.cell (p := ⟨g, (m' + 1) * 3 + 2, none⟩) hgl).trans x3⟩
          clear z1 z2 z3 x1 x2 x3
          go_wp2_with fail
          go_region_held3 (fun V => V.cell? ⟨g, m' * 3, none⟩ = some (.int .i64 z.1) ∧ V.cell? ⟨g, m' * 3 + 1, none⟩ = some (.int .i64 z.2.1) ∧ V.cell? ⟨g, m' * 3 + 2, none⟩ = some (.int .i64 z.2.2) ∧ V.cell? ⟨g, (m' + 1) * 3, none⟩ = some (.int .i64 x.1) ∧ V.cell? ⟨g, (m' + 1) * 3 + 1, none⟩ = some (.int .i64 x.2.1) ∧ V.cell? ⟨g, (m' + 1) * 3 + 2, none⟩ = some (.int .i64 x.2.2)) (first | exact KEEP.out _ ((Below.refl _ _).drew) | (refine KEEP.out _ (below_undrew ?_); assumption)) (first | (go_at_call 72; refine (ahead_any x z _).mono ?_; rintro e w1 ⟨rfl, hb1⟩))
          rename_i hh
          have B1 : Hid (Below wr.heap.size wr w1) := below_undrew hb1
          clear hh hb1
          have O1 : Hid (w1.ownsRow w.heap.size 67 3 (.slice (some ⟨g, 0, none⟩) (k + 1) c) (k + 1) ((A' ++ z :: x :: B).flatMap encE)) := own_below OQ2.out B1.out (Nat.le_refl _)
          have hs1 := B1.out.size
          by_cases hlt2 : ltE x z
          · have hd : ltEb x z = true := ltEb_true.2 hlt2
            rw [hd]
            obtain ⟨e1, e2, e3, e4, e5, e6⟩ := KEEP.out w1 B1.out
            have hg1 : g < w1.heap.size := by omega
            clear KEEP hd
            go_upto_region 10 with fail
            have W2F : Hid (∃ bx, bx ≠ g ∧ bx = w1.heap.size ∧ ∀ (o : Obj), o = .cells #[.int .i64 x.1, .int .i64 x.2.1, .int .i64 x.2.2] 67 → (w1.alloc o).ownsRow w.heap.size 67 3 (.slice (some ⟨g, 0, none⟩) (k + 1) c) (k + 1) ((A' ++ z :: x :: B).flatMap encE) ∧ Below w.heap.size w (w1.alloc o) ∧
              (w1.alloc o).cell? ⟨bx, 0, none⟩ = some (.int .i64 x.1) ∧ (w1.alloc o).cell? ⟨bx, 1, none⟩ = some (.int .i64 x.2.1) ∧ (w1.alloc o).cell? ⟨bx, 2, none⟩ = some (.int .i64 x.2.2)) :=
              ⟨w1.heap.size, by omega, rfl, fun o ho => by
                subst ho
                refine ⟨O1.out.alloc _, (HBQ.out.trans (B1.out.mono hsq)).alloc (by omega) _, ?_, ?_, ?_⟩
                · rw [cell_of_row _ _ _ _ _ _ (heap_alloc_new w1 _)]; rfl
                · rw [cell_of_row _ _ _ _ _ _ (heap_alloc_new w1 _)]; rfl
                · rw [cell_of_row _ _ _ _ _ _ (heap_alloc_new w1 _)]; rfl⟩
            obtain ⟨bx, hbx, ebx, hW2⟩ := W2F.out
            obtain ⟨ow2, bw2, t0, t1, t2⟩ := hW2 _ rfl
            rw [← ebx]
            generalize w1.alloc (.cells #[.int .i64 x.1, .int .i64 x.2.1, .int .i64 x.2.2] 67) = w2 at *
            have hz : (A' ++ z :: x :: B)[m']? = some z := by rw [← HA'.out]; exact get_mid
            have hxx : (A' ++ z :: x :: B)[m' + 1]? = some x := by rw [← HA'.out]; simp
            have hlen3 : m' + 1 < (A' ++ z :: x :: B).length := by have := HA'.out; simp; omega
            obtain ⟨z1, z2, z3⟩ := own_at ow2 hz
            obtain ⟨x1, x2, x3⟩ := own_at ow2 hxx
            have fz : ∀ j, w2.frozen? ⟨g, j, none⟩ = false := fun j => frozenK ow2 j
            have s1 : (w2.setCell ⟨g, (m' + 1) * 3, none⟩ (.int .i64 z.1)).cell? ⟨g, (m' + 1) * 3 + 1, none⟩ = some (.int .i64 x.2.1) := (cell_far (by omega)).trans x2
            have s2 : ((w2.setCell ⟨g, (m' + 1) * 3, none⟩ (.int .i64 z.1)).setCell ⟨g, (m' + 1) * 3 + 1, none⟩ (.int .i64 z.2.1)).cell? ⟨g, (m' + 1) * 3 + 2, none⟩ = some (.int .i64 x.2.2) := ((cell_far (by omega)).trans (cell_far (by omega))).trans x3
            have OW2 : Hid (w2.ownsRow w.heap.size 67 3 (.slice (some ⟨g, 0, none⟩) (k + 1) c) (k + 1) ((A' ++ z :: x :: B).flatMap encE)) := ow2
            have BW2 : Hid (Below w.heap.size w w2) := bw2
            have T0 : Hid (w2.cell? ⟨bx, 0, none⟩ = some (.int .i64 x.1) ∧ w2.cell? ⟨bx, 1, none⟩ = some (.int .i64 x.2.1) ∧ w2.cell? ⟨bx, 2, none⟩ = some (.int .i64 x.2.2)) := ⟨t0, t1, t2⟩
            clear hz hxx ow2 bw2 hW2 W2F t0 t1 t2 ebx O1 e1 e2 e3 e4 e5 e6
            go_upto_region 11 with fail
            have hE : (((w2.setCell ⟨g, (m' + 1) * 3, none⟩ (.int .i64 z.1)).setCell ⟨g, (m' + 1) * 3 + 1, none⟩ (.int .i64 z.2.1)).setCell ⟨g, (m' + 1) * 3 + 2, none⟩ (.int .i64 z.2.2)) = putE w2 g ((m' + 1) * 3) z := rfl
            rw [hE]
            have O3 : Hid ((putE w2 g ((m' + 1) * 3) z).ownsRow w.heap.size 67 3 (.slice (some ⟨g, 0, none⟩) (k + 1) c) (k + 1) ((A' ++ z :: z :: B).flatMap encE)) := by
              have := own_put OW2.out hlen3 z
              rw [show (A' ++ z :: x :: B).set (m' + 1) z = A' ++ z :: z :: B by rw [← HA'.out]; simp] at this
              exact this
            have B3 : Hid (Below w.heap.size w (putE w2 g ((m' + 1) * 3) z)) := below_put BW2.out hgw z
            have t0 : (putE w2 g ((m' + 1) * 3) z).cell? ⟨bx, 0, none⟩ = some (.int .i64 x.1) := (put_cell hbx).trans T0.out.1
            have t1 : (putE w2 g ((m' + 1) * 3) z).cell? ⟨bx, 1, none⟩ = some (.int .i64 x.2.1) := (put_cell hbx).trans T0.out.2.1
            have t2 : (putE w2 g ((m' + 1) * 3) z).cell? ⟨bx, 2, none⟩ = some (.int .i64 x.2.2) := (put_cell hbx).trans T0.out.2.2
            clear hE s1 s2 fz z1 z2 z3 x1 x2 x3 OW2 BW2 T0
            generalize putE w2 g ((m' + 1) * 3) z = w3 at *
            have hz : (A' ++ z :: z :: B)[m']? = some z := by rw [← HA'.out]; exact get_mid
            have hlen4 : m' < (A' ++ z :: z :: B).length := by have := HA'.out; simp; omega
            obtain ⟨z1, z2, z3⟩ := own_at O3.out hz
            have fz : ∀ j, w3.frozen? ⟨g, j, none⟩ = false := fun j => frozenK O3.out j
            have s1 : (w3.setCell ⟨g, m' * 3, none⟩ (.int .i64 x.1)).cell? ⟨g, m' * 3 + 1, none⟩ = some (.int .i64 z.2.1) := (cell_far (by omega)).trans z2
            have s2 : ((w3.setCell ⟨g, m' * 3, none⟩ (.int .i64 x.1)).setCell ⟨g, m' * 3 + 1, none⟩ (.int .i64 x.2.1)).cell? ⟨g, m' * 3 + 2, none⟩ = some (.int .i64 z.2.2) := ((cell_far (by omega)).trans (cell_far (by omega))).trans z3
            have O4 : Hid ((putE w3 g (m' * 3) x).ownsRow w.heap.size 67 3 (.slice (some ⟨g, 0, none⟩) (k + 1) c) (k + 1) ((A' ++ x :: z :: B).flatMap encE)) := by
              have := own_put O3.out hlen4 x
              rw [show (A' ++ z :: z :: B).set m' x = A' ++ x :: z :: B by rw [← HA'.out]; exact set_mid] at this
              exact this
            have B4 : Hid (Below w.heap.size w (putE w3 g (m' * 3) x)) := below_put B3.out hgw x
            have HB2 : Hid (∀ y ∈ z :: B, ltE x y) := fun y hy => by
              rcases List.mem_cons.1 hy with rfl | hy
              · exact hlt2
              · exact HBX.out y hy
            have HAB2 : Hid (A' ++ z :: B = s) := by
              show _ = _
              rw [← HAB.out]; simp
            clear hz hlen3 hlen4
            go_wp2_with fail
            go_roundw
            case rel => exact ⟨A', z :: B, m', HAB2.out, by go_num, HA'.out, HB2.out, O4.out, B4.out⟩
            case measure => simp [intOf]
          · have hd : ltEb x z = false := ltEb_false.2 hlt2
            have HIN : Hid (InO (A' ++ [z] ++ x :: B)) := put_sorted (by rw [HAB.out]; exact HSO.out) HBX.out (by
              intro y hy
              simp at hy
              subst hy
              exact hlt2)
            have HPE : Hid ((A' ++ [z] ++ x :: B).Perm (es.take (k + 1))) := by
              show List.Perm _ _
              rw [HX.out]; exact put_perm HAB.out HP.out
            have HL : Hid ((A' ++ [z] ++ x :: B).length = k + 1) := by
              show _ = _
              have := congrArg List.length HAB.out; simp at this; simp; omega
            have HR2 : Hid (A' ++ [z] ++ x :: B = A' ++ z :: x :: B) := by show _ = _; simp
            rw [hd]
            clear KEEP hd
            go_wp2_with fail
            go_roundw
            case rel => exact ⟨k + 1, A' ++ [z] ++ x :: B, by omega, by go_num, by rw [HL.out, HR2.out]; exact O1.out, HPE.out, HIN.out, HBQ.out.trans (B1.out.mono hsq)⟩
            case measure => simp [intOf]; omega
    · have ek : es.take k = es := List.take_of_length_le (by omega)
      have HE : Hid (s = sortE es) := sorted_uniq (by have := HP.out; rwa [ek] at this) HSO.out
      have O2 : Hid (wr.ownsRow w.heap.size 67 3 u3 (sortE es).length ((sortE es).flatMap encE)) := by
        show World.ownsRow _ _ _ _ _ _ _
        rw [← HE.out]; exact OW.out
      clear ek hsl
      go_wp2_with fail
      go_ret
      exact ⟨_, rfl, O2.out, HB.out⟩
end Go.Proofs.Ytacpicnihgggaaa

namespace Go.Proofs.Ytacpicnihgggaaa
open Go.ChangeShapes Go.WideShapes Go.ChangeAt Go.RowKit

def inB (v a b : Int) : Bool := decide (a ≤ v) && decide (v ≤ b)
set_option maxHeartbeats 400000 in
theorem in_any (v a b : Int) (w : World) :
    Calls Try.prog 54 #[.int .i64 v, .int .i64 a, .int .i64 b] w fun e w' => e = .returned (.bool (inB v a b)) ∧ w' = w := by
  unfold inB
  by_cases h0 : a ≤ v
  · by_cases h1 : v ≤ b
    · have e1 : decide (v ≤ b) = true := by simpa using h1
      have e0 : decide (a ≤ v) = true := by simpa using h0
      rw [e0, e1]
      go_enter Try.func54, Try.ntmps54
      go_wp2
      go_ret
      exact ⟨rfl, rfl⟩
    · have e1 : decide (v ≤ b) = false := by simpa using h1
      have e0 : decide (a ≤ v) = true := by simpa using h0
      rw [e0, e1]
      go_enter Try.func54, Try.ntmps54
      go_wp2
      go_ret
      exact ⟨rfl, rfl⟩
  · have e0 : decide (a ≤ v) = false := by simpa using h0
    rw [e0]
    go_enter Try.func54, Try.ntmps54
    go_wp2
    go_ret
    exact ⟨rfl, rfl⟩

theorem in_yes {v a b : Int} (h : a ≤ v ∧ v ≤ b) : inB v a b = true := by simp [inB, h.1, h.2]
theorem in_no {v a b : Int} (h : ¬ (a ≤ v ∧ v ≤ b)) : inB v a b = false := by
  unfold inB
  by_cases h1 : a ≤ v
  · have h2 : ¬ v ≤ b := fun h2 => h ⟨h1, h2⟩
    simp [h1, h2]
  · simp [h1]
end Go.Proofs.Ytacpicnihgggaaa

namespace Go.Proofs.Ytacpicnihgggaaa
open Go.ChangeShapes Go.WideShapes Go.ChangeAt Go.RowKit

/-- What the document's own test says of an edge. -/
theorem out_in (n : Int) (e : Ed) : outE n e = (!inB e.1 0 (n - 1) || !inB e.2.1 0 (n - 1) || !inB e.2.2 0 1099511627776) := by
  unfold outE inB
  have h1 : decide (e.1 ≤ n - 1) = decide (e.1 < n) := by congr 1; exact propext ⟨fun _ => by omega, fun _ => by omega⟩
  have h2 : decide (e.2.1 ≤ n - 1) = decide (e.2.1 < n) := by congr 1; exact propext ⟨fun _ => by omega, fun _ => by omega⟩
  rw [h1, h2, Bool.or_assoc, Bool.or_assoc, Bool.or_assoc]
  congr 2
  by_cases h3 : e.2.2 < 0
  · have h4 : ¬ 0 ≤ e.2.2 := by omega
    simp [h3, h4]
  · have h4 : 0 ≤ e.2.2 := by omega
    by_cases h5 : 1099511627776 < e.2.2
    · have h6 : ¬ e.2.2 ≤ 1099511627776 := by omega
      simp [h3, h4, h5, h6]
    · have h6 : e.2.2 ≤ 1099511627776 := by omega
      simp [h3, h4, h5, h6]

set_option maxHeartbeats 2000000 in
set_option maxRecDepth 100000 in
theorem fault_walk (v : Value) (es : List Ed) (n : Int) (w : World) (h : EdR w v es) :
    Calls Try.prog 52 #[.agg #[.int .i64 n, v]] w fun e w' => e = .returned (.int .i64 (faultE n es)) ∧ Below w.heap.size w w' := by
  have HR : Hid (EdR w v es) := h
  obtain ⟨a, cap, rfl, hc, hm, _, _⟩ := h
  unfold maxLen at hm
  by_cases hn : 0 ≤ n ∧ n ≤ 200
  · have i0 := in_yes hn
    by_cases h2 : 600 < es.length
    · rw [fault_size (by omega)]
      have h2' : (600 : Int) < (es.length : Int) := by omega
      go_enter Try.func52, Try.ntmps52
      go_wp2_with (go_at_call 54; refine (in_any _ _ _ _).mono ?_; rw [i0]; rintro e w1 ⟨rfl, rfl⟩)
      go_ret
      exact ⟨rfl, below_alloc _ _⟩
    · have h2' : ¬ (600 : Int) < (es.length : Int) := by omega
      have HF : Hid (∀ b : Bool, es.any (outE n) = b → faultE n es = if b then 2 else 0) := fun b hb => fault_any (by omega) b hb
      generalize faultE n es = fe at *
      have hw1 : IntKind.i64.wrap (n - 1) = n - 1 := wrap_id64 (by omega) (by omega)
      go_enter Try.func52, Try.ntmps52
      go_wp2_with (go_at_call 54; refine (in_any _ _ _ _).mono ?_; rw [i0]; rintro e w1 ⟨rfl, rfl⟩)
      go_loopw [3] (fun i wr => ∃ k : Nat, k ≤ es.length ∧ i = .int .i64 k ∧ (es.take k).any (outE n) = false ∧ Below (w.heap.size + 1) (w.alloc (.cells #[.int .i64 n, .slice a es.length cap] 24)) wr) (fun i _ => es.length - (intOf i).toNat)
      case atStart => exact ⟨0, by omega, rfl, rfl, Below.refl _ _⟩
      case round =>
        obtain ⟨k, hk, rfl, hno, hbel⟩ := hrel
        have HNO : Hid ((es.take k).any (outE n) = false) := hno
        obtain ⟨b0, b1⟩ := gbox_cells hbel
        have HB : Hid (Below w.heap.size w wr) := box_below hbel
        have HB' : Hid (Below (w.heap.size + 1) (w.alloc (.cells #[.int .i64 n, .slice a es.length cap] 24)) wr) := hbel
        have hsr : w.heap.size + 1 ≤ wr.heap.size := by have := hbel.size; simpa using this
        clear hno hbel
        by_cases hlt : k < es.length
        · obtain ⟨b, off, cap', e1, _, _, lt, hv⟩ := EdR.at (HR.out.below HB.out (Nat.le_refl _)) (by omega)
          injection e1 with e1 _ e3
          subst e1 e3
          obtain ⟨x, hx⟩ := getE hlt
          obtain ⟨c1, c2, c3⟩ := hv k x hx
          have HX : Hid (es[k]? = some x) := hx
          have HO := out_in n x
          clear hv hx
          obtain ⟨xf, xt, xc⟩ := x
          simp only at c1 c2 c3 HO
          have q0 : ∀ X, (wr.alloc X).cell? ⟨w.heap.size, 0, none⟩ = some (.int .i64 n) := fun X => ((below_alloc wr X).cell (p := ⟨w.heap.size, 0, none⟩) (show w.heap.size < wr.heap.size by omega)).trans b0
          cases j1 : inB xf 0 (n - 1)
          · have HA : Hid (es.any (outE n) = true) := any_hit HX.out (by rw [HO, j1]; rfl)
            go_wp2_with (go_at_call 54; refine (in_any _ _ _ _).mono ?_; rw [j1]; rintro e w1 ⟨rfl, rfl⟩)
            go_ret
            exact ⟨by rw [HF.out _ HA.out]; rfl, HB.out.trans ((below_alloc _ _).mono (by omega))⟩
          · cases j2 : inB xt 0 (n - 1)
            · have HA : Hid (es.any (outE n) = true) := any_hit HX.out (by rw [HO, j1, j2]; rfl)
              go_wp2_with (go_at_call 54; refine (in_any _ _ _ _).mono ?_; (first | rw [j1] | rw [j2]); rintro e w1 ⟨rfl, rfl⟩)
              go_ret
              exact ⟨by rw [HF.out _ HA.out]; rfl, HB.out.trans ((below_alloc _ _).mono (by omega))⟩
            · cases j3 : inB xc 0 1099511627776
              · have HA : Hid (es.any (outE n) = true) := any_hit HX.out (by rw [HO, j1, j2, j3]; rfl)
                go_wp2_with (go_at_call 54; refine (in_any _ _ _ _).mono ?_; (first | rw [j1] | rw [j2] | rw [j3]); rintro e w1 ⟨rfl, rfl⟩)
                go_ret
                exact ⟨by rw [HF.out _ HA.out]; rfl, HB.out.trans ((below_alloc _ _).mono (by omega))⟩
              · have HN2 : Hid ((es.take (k + 1)).any (outE n) = false) := any_step HX.out HNO.out (by rw [HO, j1, j2, j3]; rfl)
                go_wp2_with (go_at_call 54; refine (in_any _ _ _ _).mono ?_; (first | rw [j1] | rw [j2] | rw [j3]); rintro e w1 ⟨rfl, rfl⟩)
                go_roundw
                case rel => exact ⟨k + 1, by omega, by go_num, HN2.out, HB'.out.trans ((below_alloc _ _).mono (by omega))⟩
                case measure => simp [intOf]; omega
        · have ek : k = es.length := by omega
          have HA : Hid (es.any (outE n) = false) := any_miss (by rw [← ek]; exact HNO.out)
          clear ek
          go_wp2_with fail
          go_ret
          exact ⟨by rw [HF.out _ HA.out]; rfl, HB.out⟩
  · have i0 := in_no hn
    rw [fault_size (by omega)]
    go_enter Try.func52, Try.ntmps52
    go_wp2_with (go_at_call 54; refine (in_any _ _ _ _).mono ?_; rw [i0]; rintro e w1 ⟨rfl, rfl⟩)
    go_ret
    exact ⟨rfl, below_alloc _ _⟩
end Go.Proofs.Ytacpicnihgggaaa

namespace Go.Proofs.Ytacpicnihgggaaa
set_option maxRecDepth 100000
open Go.ChangeShapes Go.WideShapes Go.ChangeAt Go.RowKit

/-- What is had of the two boxes of a graph in a later world. -/
def Box2 (w V : World) (n : Int) (v : Value) : Prop :=
  V.cell? ⟨w.heap.size, 0, none⟩ = some (.int .i64 n) ∧ V.cell? ⟨w.heap.size, 1, none⟩ = some v ∧ V.cell? ⟨w.heap.size + 1, 0, none⟩ = some (.int .i64 0) ∧ V.cell? ⟨w.heap.size + 1, 1, none⟩ = some (.slice none 0 0) ∧ V.frozen? ⟨w.heap.size + 1, 0, none⟩ = false ∧ V.frozen? ⟨w.heap.size + 1, 1, none⟩ = false
theorem box2 {w V : World} {n : Int} {v : Value} (h : Below (w.heap.size + 2) ((w.alloc (.cells #[.int .i64 n, v] 24)).alloc (.cells #[.int .i64 0, .slice none 0 0] 24)) V) : Box2 w V n v := by
  obtain ⟨q0, q1, q2, q3⟩ := gbox2 h
  obtain ⟨q4, q5⟩ := gbox1 h
  exact ⟨q4, q5, q0, q1, q2, q3⟩

theorem box1_put {V : World} {b : Nat} {n m : Int} {v u : Value} (h : V.cell? ⟨b, 0, none⟩ = some (.int .i64 n) ∧ V.cell? ⟨b, 1, none⟩ = some v) :
    ((V.setCell ⟨b + 1, 0, none⟩ (.int .i64 m)).setCell ⟨b + 1, 1, none⟩ u).cell? ⟨b, 0, none⟩ = some (.int .i64 n) ∧ ((V.setCell ⟨b + 1, 0, none⟩ (.int .i64 m)).setCell ⟨b + 1, 1, none⟩ u).cell? ⟨b, 1, none⟩ = some v := by
  have ne : ∀ i j, (⟨b + 1, i, none⟩ : Addr) ≠ ⟨b, j, none⟩ := fun i j e => by injection e with e; omega
  exact ⟨((World.cell?_setCell_other _ _ _ _ (ne _ _)).trans (World.cell?_setCell_other _ _ _ _ (ne _ _))).trans h.1, ((World.cell?_setCell_other _ _ _ _ (ne _ _)).trans (World.cell?_setCell_other _ _ _ _ (ne _ _))).trans h.2⟩
theorem refOrder_sl (v : Value) (es : List Ed) (w : World) (h : EdR w v es) (hl : es.length ≤ 600) :
    Calls Try.prog 53 #[v] w fun e w' => ∃ a n c, e = .returned (.slice a n c) ∧ w'.ownsRow w.heap.size 67 3 (.slice a n c) (sortE es).length ((sortE es).flatMap encE) ∧ Below w.heap.size w w' :=
  (refOrder_any v es w h hl).mono fun e w' ⟨v', he, ho, hb⟩ => by
    obtain ⟨a, c, e', _⟩ := RowK.own encE_len ho
    subst e'
    exact ⟨_, _, _, he, ho, hb⟩
end Go.Proofs.Ytacpicnihgggaaa

namespace Go.Proofs.Ytacpicnihgggaaa
set_option maxRecDepth 100000
open Go.ChangeShapes Go.WideShapes Go.ChangeAt Go.RowKit
attribute [local go_sem ↓] exec_append

set_option maxHeartbeats 2000000 in
set_option maxRecDepth 100000 in
theorem refReversed_any (v : Value) (es : List Ed) (n : Int) (w : World) (h : EdR w v es) :
    Calls Try.prog 29 #[.agg #[.int .i64 n, v]] w fun e w' => ∃ v', e = .returned (.tuple #[.agg #[.int .i64 (okN (faultE n es) n), v'], .int .i64 (faultE n es)]) ∧
      w'.ownsRow w.heap.size 67 3 v' (okL (faultE n es) (sortE (es.map turnE))).length ((okL (faultE n es) (sortE (es.map turnE))).flatMap encE) ∧ Below w.heap.size w w' := by
  have HR : Hid (EdR w v es) := h
  obtain ⟨a, cap, rfl⟩ := h.shape
  clear h
  have HCK : Hid (∀ X, EdR X (.slice a es.length cap) es → Calls Try.prog 52 #[.agg #[.int .i64 n, .slice a es.length cap]] X fun e w' => e = .returned (.int .i64 (faultE n es)) ∧ Below X.heap.size X w') := fun X hX => fault_walk _ es n X hX
  by_cases hf : faultE n es = 0
  · have hle : es.length ≤ 600 := (fault_ok hf).2.2.1
    rw [hf, okN_yes, okL_yes]
    rw [hf] at HCK
    clear hf
    go_enter Try.func29, Try.ntmps29
    go_wp2_with fail
    refine (HCK.out _ ?_).mono ?_
    · exact HR.out.below ((below_alloc w _).alloc (by simp) _) (Nat.le_refl _)
    rintro e w1 ⟨rfl, hb1⟩
    have B1 : Hid (Below (w.heap.size + 2) ((w.alloc (.cells #[.int .i64 n, .slice a es.length cap] 24)).alloc (.cells #[.int .i64 0, .slice none 0 0] 24)) w1) := by
      show Below _ _ _
      simpa using hb1
    have hs1 : w.heap.size + 2 ≤ w1.heap.size := by have := B1.out.size; simpa using this
    clear hb1 HCK
    go_wp2_with fail
    go_loopw [5, 6] (fun u i wr => ∃ k : Nat, k ≤ es.length ∧ i = .int .i64 k ∧ wr.ownsRow (w.heap.size + 2) 67 3 u ((es.take k).map turnE).length (((es.take k).map turnE).flatMap encE) ∧ Below (w.heap.size + 2) ((w.alloc (.cells #[.int .i64 n, .slice a es.length cap] 24)).alloc (.cells #[.int .i64 0, .slice none 0 0] 24)) wr) (fun _ i _ => es.length - (intOf i).toNat)
    case atStart => exact ⟨0, by omega, rfl, World.ownsRow_nil _ _ _ _, B1.out⟩
    case round =>
      obtain ⟨k, hk, rfl, hown, hbel⟩ := hrel
      have OW : Hid (wr.ownsRow (w.heap.size + 2) 67 3 u5 ((es.take k).map turnE).length (((es.take k).map turnE).flatMap encE)) := hown
      have HB : Hid (Below (w.heap.size + 2) ((w.alloc (.cells #[.int .i64 n, .slice a es.length cap] 24)).alloc (.cells #[.int .i64 0, .slice none 0 0] 24)) wr) := hbel
      have hsr : w.heap.size + 2 ≤ wr.heap.size := by have := hbel.size; simpa using this
      obtain ⟨q4, q5⟩ := gbox1 hbel
      clear hown hbel B1 hs1
      by_cases hlt : k < es.length
      · obtain ⟨b, off, cap', e1, hcc, hmm, lt, hv⟩ := EdR.at (HR.out.below (below_two HB.out) (Nat.le_refl _)) (by omega)
        injection e1 with e1 _ e3
        subst e1 e3
        obtain ⟨x, hx⟩ := getE hlt
        obtain ⟨c1, c2, c3⟩ := hv k x hx
        have HT : Hid ((es.take (k + 1)).map turnE = (es.take k).map turnE ++ [turnE x]) := by show _ = _; rw [take_snoc hx, List.map_append]; rfl
        have hlen : ((es.take k).map turnE).length ≤ 600 := by simp; omega
        have p0 : (0 : Int) ≤ (k : Int) := by omega
        have p1 : (k : Int) < (es.length : Int) := by omega
        obtain ⟨ua, un, uc, rfl⟩ : ∃ a n c, u5 = .slice a n c := by obtain ⟨a, c, e, _⟩ := RowK.own encE_len OW.out; exact ⟨_, _, _, e⟩
        clear hv hx hcc hmm
        go_wp2_with fail
        have hsz : (wr.alloc (.cells #[.int .i64 (turnE x).1, .int .i64 (turnE x).2.1, .int .i64 (turnE x).2.2] 67)).drew.heap.size = wr.heap.size + 1 := by simp
        obtain ⟨g, gc, w2, a1, a2, a3, hown2, hb2, _⟩ := app_newK kE (w := (wr.alloc (.cells #[.int .i64 (turnE x).1, .int .i64 (turnE x).2.1, .int .i64 (turnE x).2.2] 67)).drew) 22 (w.heap.size + 2) (.slice ua un uc) ((es.take k).map turnE) ((OW.out.alloc _).drew) wr.heap.size (turnE x) #[.int .i64 (turnE x).1, .int .i64 (turnE x).2.1, .int .i64 (turnE x).2.2] rfl (0, 0) (heap_alloc_new wr _) (by simp only [kE]; omega) (by unfold maxLen; omega) (by rw [hsz]; omega)
        have hlk : ((es.take k).map turnE).length = k := by simp; omega
        rw [hlk] at a2 hown2
        unfold kE turnE at a1 a2 a3
        simp only at a1 a2 a3
        have O2 : Hid (w2.ownsRow (w.heap.size + 2) 67 3 (.slice (some ⟨g, 0, none⟩) (k + 1) gc) ((es.take (k + 1)).map turnE).length (((es.take (k + 1)).map turnE).flatMap encE)) := by
          show World.ownsRow _ _ _ _ _ _ _
          rw [HT.out]; exact hown2
        have HB2 : Hid (Below (w.heap.size + 2) ((w.alloc (.cells #[.int .i64 n, .slice (some ⟨b, off, none⟩) es.length cap] 24)).alloc (.cells #[.int .i64 0, .slice none 0 0] 24)) w2) := ((HB.out.alloc hsr _).drew).trans hb2
        clear hown2 hb2 hsz hlk
        go_region
        go_wp2_with fail
        go_roundw
        case rel => exact ⟨k + 1, by omega, by go_num, O2.out, HB2.out⟩
        case measure => simp [intOf]; omega
      · have ek : es.take k = es := List.take_of_length_le (by omega)
        have O1 : Hid (wr.ownsRow (w.heap.size + 2) 67 3 u5 (es.map turnE).length ((es.map turnE).flatMap encE)) := by have := OW.out; rwa [ek] at this
        have HR1 : Hid (EdR wr u5 (es.map turnE)) := RowK.own encE_len O1.out
        have hml : (es.map turnE).length ≤ 600 := by simp; omega
        have KEEP : Hid (∀ V, Below wr.heap.size wr V → Box2 w V n (.slice a es.length cap)) := fun V hV => box2 (HB.out.trans (hV.mono hsr))
        have KEEP1 : Hid (∀ V, Below wr.heap.size wr V → V.cell? ⟨w.heap.size, 0, none⟩ = some (.int .i64 n) ∧ V.cell? ⟨w.heap.size, 1, none⟩ = some (.slice a es.length cap)) := fun V hV => ⟨(KEEP.out V hV).1, (KEEP.out V hV).2.1⟩
        clear ek OW O1
        go_upto_region 9 with fail
        go_region_held3 (fun V => V.cell? ⟨w.heap.size, 0, none⟩ = some (.int .i64 n) ∧ V.cell? ⟨w.heap.size, 1, none⟩ = some (.slice a es.length cap)) (first | exact KEEP1.out _ ((Below.refl _ _).drew) | (refine KEEP1.out _ (below_undrew ?_); assumption) | (refine box1_put (KEEP1.out _ (below_undrew ?_)); assumption)) (first | (go_at_call 53; refine (refOrder_sl _ (es.map turnE) _ (HR1.out.below (Below.refl _ _).drew (Nat.le_refl _)) hml).mono ?_; rintro e w2 ⟨va, vn, vc, rfl, hown2, hb2⟩; obtain ⟨_, _, k0, k1, k2, k3⟩ := KEEP.out _ (below_undrew hb2)))
        rename_i hh
        have B2 : Hid (Below wr.heap.size wr w2) := below_undrew hb2
        have O2 : Hid (w2.ownsRow wr.heap.size 67 3 (.slice va vn vc) (sortE (es.map turnE)).length ((sortE (es.map turnE)).flatMap encE)) := hown2
        have BB : Hid (Below (w.heap.size + 2) ((w.alloc (.cells #[.int .i64 n, .slice a es.length cap] 24)).alloc (.cells #[.int .i64 0, .slice none 0 0] 24)) w2) := HB.out.trans (B2.out.mono hsr)
        clear hh hb2 hown2 KEEP KEEP1
        go_wp2_with fail
        obtain ⟨r0, r1⟩ := gput_cells (n := n) (v := .slice va vn vc) k0 k1
        have hb : ∀ (p : Addr), p.block = w.heap.size + 1 → p.block < wr.heap.size := fun p hp => by omega
        refine bodyPost_ret (v := .tuple #[.agg #[.int .i64 n, .slice va vn vc], .int .i64 0]) (by simp [results, Try.results29, go_sem, r0, r1]) rfl ⟨_, rfl, ?_, ?_⟩
        · exact own_lower (RowK.setBelow (RowK.setBelow O2.out (hb _ rfl) _) (hb _ rfl) _) (by omega)
        · exact ((below_two BB.out).setCell (Nat.le_succ _) _).setCell (Nat.le_succ _) _
  · have hne : (faultE n es != 0) = true := by simpa using hf
    rw [okN_no hf, okL_no hf]
    generalize faultE n es = fe at *
    clear hf
    go_enter Try.func29, Try.ntmps29
    go_wp2_with fail
    refine (HCK.out _ ?_).mono ?_
    · exact HR.out.below ((below_alloc w _).alloc (by simp) _) (Nat.le_refl _)
    rintro e w1 ⟨rfl, hb1⟩
    have B1 : Hid (Below (w.heap.size + 2) ((w.alloc (.cells #[.int .i64 n, .slice a es.length cap] 24)).alloc (.cells #[.int .i64 0, .slice none 0 0] 24)) w1) := by
      show Below _ _ _
      simpa using hb1
    clear hb1 HCK
    obtain ⟨q0, q1, q2, q3⟩ := gbox2 B1.out
    go_wp2_with fail
    obtain ⟨r0, r1⟩ := gput_cells (n := 0) (v := .slice none 0 0) q0 q1
    refine bodyPost_ret (v := .tuple #[.agg #[.int .i64 0, .slice none 0 0], .int .i64 fe]) (by simp [results, Try.results29, go_sem, r0, r1]) rfl ⟨_, rfl, ?_, ?_⟩
    · exact World.ownsRow_nil _ _ _ _
    · exact ((below_two B1.out).setCell (Nat.le_succ _) _).setCell (Nat.le_succ _) _
end Go.Proofs.Ytacpicnihgggaaa

namespace Go.Proofs.Ytacpicnihgggaaa
set_option maxRecDepth 100000
open Go.ChangeShapes Go.WideShapes Go.ChangeAt Go.RowKit
attribute [local go_sem ↓] exec_append

set_option maxHeartbeats 2000000 in
set_option maxRecDepth 100000 in
theorem hopsOf_any (v : Value) (es : List Ed) (z : Int) (w : World) (h : EdR w v es) (hl : es.length ≤ 600) :
    Calls Try.prog 32 #[v, .int .i64 z] w fun e w' => ∃ v', e = .returned v' ∧ w'.ownsRow w.heap.size 87 2 v' (hopsL (sortE es) z).length ((hopsL (sortE es) z).flatMap encH) ∧ Below w.heap.size w w' := by
  have HC : Hid (∀ X, EdR X v es → Calls Try.prog 53 #[v] X fun e w' => ∃ a n c, e = .returned (.slice a n c) ∧ w'.ownsRow X.heap.size 67 3 (.slice a n c) (sortE es).length ((sortE es).flatMap encE) ∧ Below X.heap.size X w') := fun X hX => refOrder_sl v es X hX hl
  have HR : Hid (EdR w v es) := h
  obtain ⟨a, cap, rfl⟩ := h.shape
  have hsl : (sortE es).length ≤ 600 := by rw [sortE_len]; exact hl
  clear h
  generalize sortE es = s at *
  go_enter Try.func32, Try.ntmps32
  go_wp2_with fail
  refine (HC.out _ HR.out).mono ?_
  rintro e wl ⟨sa, sn, sc, rfl, hown, hbl⟩
  have HL : Hid (EdR wl (.slice sa sn sc) s) := RowK.own encE_len hown
  obtain ⟨qa, qc, e, _, hcap, _⟩ := HL.out
  injection e with e1 e2 e3
  subst e1 e2 e3
  unfold maxLen at hcap
  have BL : Hid (Below w.heap.size w wl) := hbl
  have hwl := BL.out.size
  clear hown hbl HC
  go_wp2_with fail
  go_loopw [6, 7] (fun u i wr => ∃ k : Nat, k ≤ s.length ∧ i = .int .i64 k ∧ wr.ownsRow wl.heap.size 87 2 u (hopsL (s.take k) z).length ((hopsL (s.take k) z).flatMap encH) ∧ Below wl.heap.size wl wr) (fun _ i _ => s.length - (intOf i).toNat)
  case atStart => exact ⟨0, by omega, rfl, World.ownsRow_nil _ _ _ _, Below.refl _ _⟩
  case round =>
    obtain ⟨k, hk, rfl, hown, hbel⟩ := hrel
    have OW : Hid (wr.ownsRow wl.heap.size 87 2 u6 (hopsL (s.take k) z).length ((hopsL (s.take k) z).flatMap encH)) := hown
    have HB : Hid (Below wl.heap.size wl wr) := hbel
    have hsr := hbel.size
    clear hown hbel
    by_cases hlt : k < s.length
    · obtain ⟨b, off, cap', e1, _, _, lt, hv⟩ := EdR.at (HL.out.below HB.out (Nat.le_refl _)) (by omega)
      injection e1 with e1 _ e3
      subst e1 e3
      obtain ⟨x, hx⟩ := getE hlt
      obtain ⟨c1, c2, c3⟩ := hv k x hx
      have hlen : (hopsL (s.take k) z).length ≤ 600 := by have := hops_len (s.take k) z; simp at this; omega
      have p0 : (0 : Int) ≤ (k : Int) := by omega
      have p1 : (k : Int) < (s.length : Int) := by omega
      cases hxz : (x.1 == z)
      · have HN : Hid (hopsL (s.take (k + 1)) z = hopsL (s.take k) z) := hops_no hx hxz
        clear hv hx
        go_wp2_with fail
        go_roundw
        case rel => exact ⟨k + 1, by omega, by go_num, by rw [HN.out]; exact OW.out, HB.out⟩
        case measure => simp [intOf]; omega
      · have HN : Hid (hopsL (s.take (k + 1)) z = hopsL (s.take k) z ++ [(x.2.1, x.2.2)]) := hops_yes hx hxz
        obtain ⟨ua, un, uc, rfl⟩ : ∃ a n c, u6 = .slice a n c := by obtain ⟨a, c, e, _⟩ := RowK.own encH_len OW.out; exact ⟨_, _, _, e⟩
        clear hv hx
        generalize hopsL (s.take k) z = f at *
        go_wp2_with fail
        have hsz : (wr.alloc (.cells #[.int .i64 x.2.1, .int .i64 x.2.2] 87)).drew.heap.size = wr.heap.size + 1 := by simp
        obtain ⟨g, gc, w2, a1, a2, a3, hown2, hb2, _⟩ := app_newK kH (w := (wr.alloc (.cells #[.int .i64 x.2.1, .int .i64 x.2.2] 87)).drew) 49 wl.heap.size (.slice ua un uc) f ((OW.out.alloc _).drew) wr.heap.size (x.2.1, x.2.2) #[.int .i64 x.2.1, .int .i64 x.2.2] rfl (0, 0) (heap_alloc_new wr _) (by simp only [kH]; omega) (by unfold maxLen; omega) (by rw [hsz]; omega)
        unfold kH at a1 a2 a3
        simp only at a1 a2 a3
        have O2 : Hid (w2.ownsRow wl.heap.size 87 2 (.slice (some ⟨g, 0, none⟩) (f.length + 1) gc) (hopsL (s.take (k + 1)) z).length ((hopsL (s.take (k + 1)) z).flatMap encH)) := by
          show World.ownsRow _ _ _ _ _ _ _
          rw [HN.out]; exact hown2
        have B2 : Hid (Below wl.heap.size wl w2) := ((HB.out.alloc hsr _).drew).trans hb2
        clear hown2 hb2 hsz
        go_region
        go_wp2_with fail
        go_roundw
        case rel => exact ⟨k + 1, by omega, by go_num, O2.out, B2.out⟩
        case measure => simp [intOf]; omega
    · have ek : s.take k = s := List.take_of_length_le (by omega)
      have O2 : Hid (wr.ownsRow wl.heap.size 87 2 u6 (hopsL s z).length ((hopsL s z).flatMap encH)) := by have := OW.out; rwa [ek] at this
      clear ek OW
      go_wp2_with fail
      go_ret
      exact ⟨_, rfl, own_lower O2.out hwl, BL.out.trans (HB.out.mono hwl)⟩

end Go.Proofs.Ytacpicnihgggaaa

namespace Go.Proofs.Ytacpicnihgggaaa
set_option maxRecDepth 100000
open Go.ChangeShapes Go.WideShapes Go.ChangeAt Go.RowKit

theorem mod_next {j k : Nat} (hk : 1 ≤ k ∧ k ≤ 8) : (j % k + 1 = k → (j + 1) % k = 0) ∧ (j % k + 1 ≠ k → (j + 1) % k = j % k + 1) := by
  rcases upto8 hk with h' | h' | h' | h' | h' | h' | h' | h' <;> subst h' <;> omega

set_option maxHeartbeats 1000000 in
set_option maxRecDepth 100000 in
theorem ownerOf_any (v n k : Int) (w : World) (hn : -9223372036854775808 ≤ n ∧ n ≤ 9223372036854775807) :
    Calls Try.prog 55 #[.int .i64 v, .int .i64 n, .int .i64 k] w fun e w' => e = .returned (.tuple #[.int .i64 (okN (errO v n n k) (v % k)), .int .i64 (errO v n n k)]) ∧ w' = w := by
  by_cases hN : 0 ≤ n ∧ n ≤ 200
  · have i1 := in_yes hN
    by_cases hK : 1 ≤ k ∧ k ≤ 8
    · have i2 := in_yes hK
      have hw1 : IntKind.i64.wrap (n - 1) = n - 1 := wrap_id64 (by omega) (by omega)
      by_cases hV : 0 ≤ v ∧ v ≤ n - 1
      · have i3 := in_yes hV
        rw [errO_ok (by omega) (by omega), okN_yes]
        obtain ⟨K, rfl⟩ : ∃ m : Nat, k = m := ⟨k.toNat, by omega⟩
        obtain ⟨V, rfl⟩ : ∃ m : Nat, v = m := ⟨v.toNat, by omega⟩
        have hk : 1 ≤ K ∧ K ≤ 8 := by omega
        have HR : Hid ((V : Int) % (K : Int) = ((V % K : Nat) : Int)) := by show _ = _; exact (Int.natCast_emod V K).symm
        have HS : Hid (∀ j, (j % K + 1 = K → (j + 1) % K = 0) ∧ (j % K + 1 ≠ K → (j + 1) % K = j % K + 1)) := fun j => mod_next hk
        have HLT : Hid (∀ j, j % K < K) := fun j => Nat.mod_lt _ (by omega)
        rw [HR.out]
        go_enter Try.func55, Try.ntmps55
        go_wp2_with (go_at_call 54; refine (in_any _ _ _ _).mono ?_; (first | rw [i1] | rw [i2] | rw [i3]); rintro e w1 ⟨rfl, hw⟩; replace hw := hw.symm; subst hw)
        go_loopw [8, 9] (fun u i wr => ∃ j : Nat, j ≤ V ∧ i = .int .i64 j ∧ u = .int .i64 ((j % K : Nat) : Int) ∧ wr = w) (fun _ i _ => V - (intOf i).toNat)
        case atStart => exact ⟨0, by omega, rfl, by simp, rfl⟩
        case round =>
          obtain ⟨j, hj, rfl, rfl, rfl⟩ := hrel
          obtain ⟨s1, s2⟩ := HS.out j
          have hlt := HLT.out j
          by_cases hjV : j < V
          · by_cases hz : j % K + 1 = K
            · have HZ : Hid ((j + 1) % K = 0) := s1 hz
              have hz2 : (((j % K : Nat) : Int) + 1 == (K : Int)) = true := by simp; omega
              clear s1 s2 hz
              generalize j % K = r at *
              go_wp2_with fail
              go_roundw
              case rel => exact ⟨j + 1, by omega, by go_num, by rw [HZ.out]; rfl, trivial⟩
              case measure => simp [intOf]; omega
            · have HZ : Hid ((j + 1) % K = j % K + 1) := s2 hz
              have hz2 : (((j % K : Nat) : Int) + 1 == (K : Int)) = false := by simp; omega
              clear s1 s2 hz
              generalize j % K = r at *
              go_wp2_with fail
              go_roundw
              case rel => exact ⟨j + 1, by omega, by go_num, by rw [HZ.out]; rfl, trivial⟩
              case measure => simp [intOf]; omega
          · obtain rfl : j = V := by omega
            clear s1 s2
            obtain ⟨r, hr⟩ : ∃ r, j % K = r := ⟨_, rfl⟩
            have HQ : Hid (j % K = r) := hr
            rw [hr]
            clear hr
            go_wp2_with fail
            go_ret2
            exact ⟨by rw [HQ.out] <;> rfl, rfl⟩
      · have i3 := in_no hV
        rw [errO_range (by omega) (by omega), okN_no (by omega)]
        go_enter Try.func55, Try.ntmps55
        go_wp2_with (go_at_call 54; refine (in_any _ _ _ _).mono ?_; (first | rw [i1] | rw [i2] | rw [i3]); rintro e w1 ⟨rfl, rfl⟩)
        go_ret2
        exact ⟨rfl, rfl⟩
    · have i2 := in_no hK
      rw [errO_size (by omega), okN_no (by omega)]
      go_enter Try.func55, Try.ntmps55
      go_wp2_with (go_at_call 54; refine (in_any _ _ _ _).mono ?_; (first | rw [i1] | rw [i2]); rintro e w1 ⟨rfl, rfl⟩)
      go_ret2
      exact ⟨rfl, rfl⟩
  · have i1 := in_no hN
    rw [errO_size (by omega), okN_no (by omega)]
    go_enter Try.func55, Try.ntmps55
    go_wp2_with (go_at_call 54; refine (in_any _ _ _ _).mono ?_; (first | rw [i1]); rintro e w1 ⟨rfl, rfl⟩)
    go_ret2
    exact ⟨rfl, rfl⟩

set_option maxHeartbeats 1000000 in
set_option maxRecDepth 100000 in
theorem mineOf_any (a n k : Int) (w : World) (hk : -9223372036854775808 ≤ k ∧ k ≤ 9223372036854775807) :
    Calls Try.prog 30 #[.int .i64 a, .int .i64 n, .int .i64 k] w fun e w' => ∃ v', e = .returned (.tuple #[v', .int .i64 (errO a k n k)]) ∧
      w'.ownsRow w.heap.size 3 1 v' (okL (errO a k n k) (mineL a.toNat n.toNat k.toNat)).length ((okL (errO a k n k) (mineL a.toNat n.toNat k.toNat)).flatMap encI) ∧ Below w.heap.size w w' := by
  by_cases hN : 0 ≤ n ∧ n ≤ 200
  · have i1 := in_yes hN
    by_cases hK : 1 ≤ k ∧ k ≤ 8
    · have i2 := in_yes hK
      have hw1 : IntKind.i64.wrap (k - 1) = k - 1 := wrap_id64 (by omega) (by omega)
      by_cases hA : 0 ≤ a ∧ a ≤ k - 1
      · have i3 := in_yes hA
        rw [errO_ok (by omega) (by omega), okL_yes]
        obtain ⟨K, rfl⟩ : ∃ m : Nat, k = m := ⟨k.toNat, by omega⟩
        obtain ⟨A, rfl⟩ : ∃ m : Nat, a = m := ⟨a.toNat, by omega⟩
        obtain ⟨N, rfl⟩ : ∃ m : Nat, n = m := ⟨n.toNat, by omega⟩
        rw [Int.toNat_natCast, Int.toNat_natCast, Int.toNat_natCast]
        have hk8 : 1 ≤ K ∧ K ≤ 8 := by omega
        have haK : A < K := by omega
        have HO : Hid (∀ (j : Nat) X, j < N → Calls Try.prog 55 #[.int .i64 j, .int .i64 N, .int .i64 K] X fun e w' => e = .returned (.tuple #[.int .i64 ((j % K : Nat) : Int), .int .i64 0]) ∧ w' = X) := fun j X hj => by
          have := ownerOf_any j N K X (by omega)
          rwa [errO_ok (by omega) (by omega), okN_yes, ← Int.natCast_emod] at this
        have HH : Hid (∀ j, j % K = A → mineL A (j + 1) K = mineL A j K ++ [(j : Int)]) := fun j hj => mine_hit hk8 hj
        have HM : Hid (∀ j, j % K ≠ A → mineL A (j + 1) K = mineL A j K) := fun j hj => mine_miss hk8 haK hj
        have H0 : Hid (mineL A 0 K = []) := mine_none hk8
        have HLn : Hid (∀ j, (mineL A j K).length ≤ j) := fun j => by rw [mineL_len]; exact cnt_le hk8
        go_enter Try.func30, Try.ntmps30
        go_wp2_with (go_at_call 54; refine (in_any _ _ _ _).mono ?_; (first | rw [i1] | rw [i2] | rw [i3]); rintro e w1 ⟨rfl, hw⟩; replace hw := hw.symm; subst hw)
        clear i1 i2 i3
        go_loopw [8, 9] (fun u i wr => ∃ j : Nat, j ≤ N ∧ i = .int .i64 j ∧ wr.ownsRow w.heap.size 3 1 u (mineL A j K).length ((mineL A j K).flatMap encI) ∧ Below w.heap.size w wr) (fun _ i _ => N - (intOf i).toNat)
        case atStart => exact ⟨0, by omega, rfl, by rw [H0.out]; exact World.ownsRow_nil _ _ _ _, Below.refl _ _⟩
        case round =>
          obtain ⟨j, hj, rfl, hown, hbel⟩ := hrel
          have OW : Hid (wr.ownsRow w.heap.size 3 1 u8 (mineL A j K).length ((mineL A j K).flatMap encI)) := hown
          have HB : Hid (Below w.heap.size w wr) := hbel
          have hsr := hbel.size
          have hll := HLn.out j
          have HHj : Hid (j % K = A → mineL A (j + 1) K = mineL A j K ++ [(j : Int)]) := HH.out j
          have HMj : Hid (j % K ≠ A → mineL A (j + 1) K = mineL A j K) := HM.out j
          clear hown hbel
          by_cases hlt : j < N
          · have HOj : Hid (Calls Try.prog 55 #[.int .i64 j, .int .i64 N, .int .i64 K] wr fun e w' => e = .returned (.tuple #[.int .i64 ((j % K : Nat) : Int), .int .i64 0]) ∧ w' = wr) := HO.out j wr hlt
            by_cases hz : j % K = A
            · have HN2 : Hid (mineL A (j + 1) K = mineL A j K ++ [(j : Int)]) := HHj.out hz
              have hz2 : (((j % K : Nat) : Int) == (A : Int)) = true := by simp; omega
              clear hz HHj HMj HH HM HO
              generalize mineL A j K = f at *
              generalize j % K = r at *
              go_wp2_with fail
              refine HOj.out.mono ?_
              rintro e w2 ⟨rfl, hw⟩
              replace hw := hw.symm
              subst hw
              go_wp2_with (at_builtin; refine wpList_append_newK kI rfl _ _ rfl w.heap.size _ f rfl (OW.out.alloc _) _ (j : Int) rfl #[.int .i64 j] rfl (0, 0) (heap_alloc_new _ _) (by simp [kI]; omega) (by unfold maxLen; omega) (by simp; omega) ?_)
              intro g c w3 hown3 hb3 _
              have O3 : Hid (w3.ownsRow w.heap.size 3 1 (.slice (some ⟨g, 0, none⟩) (f.length + 1) c) (mineL A (j + 1) K).length ((mineL A (j + 1) K).flatMap encI)) := by
                show World.ownsRow _ _ _ _ _ _ _
                rw [HN2.out, flat_snoc, List.length_append]; exact hown3
              have B3 : Hid (Below w.heap.size w w3) := (HB.out.alloc hsr _).trans hb3
              clear hown3 hb3
              go_wp2_with fail
              go_roundw
              case rel => exact ⟨j + 1, by omega, by go_num, O3.out, B3.out⟩
              case measure => simp [intOf]; omega
            · have HN2 : Hid (mineL A (j + 1) K = mineL A j K) := HMj.out hz
              have hz2 : (((j % K : Nat) : Int) == (A : Int)) = false := by simp; omega
              clear hz HHj HMj HH HM HO
              generalize j % K = r at *
              go_wp2_with fail
              refine HOj.out.mono ?_
              rintro e w2 ⟨rfl, hw⟩
              replace hw := hw.symm
              subst hw
              go_wp2_with fail
              go_roundw
              case rel => exact ⟨j + 1, by omega, by go_num, by rw [HN2.out]; exact OW.out, HB.out⟩
              case measure => simp [intOf]; omega
          · obtain rfl : j = N := by omega
            clear HHj HMj HH HM HO
            go_wp2_with fail
            go_ret2
            exact ⟨_, rfl, OW.out, HB.out⟩
      · have i3 := in_no hA
        rw [errO_range (by omega) (by omega), okL_no (by omega)]
        go_enter Try.func30, Try.ntmps30
        go_wp2_with (go_at_call 54; refine (in_any _ _ _ _).mono ?_; (first | rw [i1] | rw [i2] | rw [i3]); rintro e w1 ⟨rfl, rfl⟩)
        go_ret2
        exact ⟨_, rfl, World.ownsRow_nil _ _ _ _, Below.refl _ _⟩
    · have i2 := in_no hK
      rw [errO_size (by omega), okL_no (by omega)]
      go_enter Try.func30, Try.ntmps30
      go_wp2_with (go_at_call 54; refine (in_any _ _ _ _).mono ?_; (first | rw [i1] | rw [i2]); rintro e w1 ⟨rfl, rfl⟩)
      go_ret2
      exact ⟨_, rfl, World.ownsRow_nil _ _ _ _, Below.refl _ _⟩
  · have i1 := in_no hN
    rw [errO_size (by omega), okL_no (by omega)]
    go_enter Try.func30, Try.ntmps30
    go_wp2_with (go_at_call 54; refine (in_any _ _ _ _).mono ?_; (first | rw [i1]); rintro e w1 ⟨rfl, rfl⟩)
    go_ret2
    exact ⟨_, rfl, World.ownsRow_nil _ _ _ _, Below.refl _ _⟩
end Go.Proofs.Ytacpicnihgggaaa

namespace Go.Proofs.Ytacpicnihgggaaa
open Go.ChangeShapes Go.WideShapes Go.ChangeAt Go.RowKit

set_option maxHeartbeats 400000 in
set_option maxRecDepth 100000 in
theorem summed_row (b off cap : Nat) (xs : List Int) (w : World) (hm : xs.length ≤ maxLen) (hx : ∀ x ∈ xs, 0 ≤ x ∧ x ≤ 255)
    (hcell : ∀ i, i < xs.length → w.cell? ⟨b, off + i, none⟩ = some (.int .u8 (xs.getD i 0))) :
    Calls Try.prog 57 #[.slice (some ⟨b, off, none⟩) xs.length cap] w fun e w' => e = .returned (.int .u32 (crc xs)) ∧ w' = w := by
  unfold maxLen at hm
  have HC : Hid (∀ i, i < xs.length → w.cell? ⟨b, off + i, none⟩ = some (.int .u8 (xs.getD i 0))) := hcell
  have HX : Hid (∀ x ∈ xs, 0 ≤ x ∧ x ≤ 255) := hx
  clear hcell hx
  go_enter Try.func57, Try.ntmps57
  go_wp2_with fail
  go_loop [3, 4] (fun n i => ∃ (k : Nat), k ≤ xs.length ∧ i = .int .i64 k ∧ n = .int .u32 (runR 4294967295 (xs.take k))) (fun _ i => xs.length - (intOf i).toNat)
  case atStart => exact ⟨0, by omega, rfl, rfl⟩
  case round =>
    obtain ⟨k, hk, rfl, rfl⟩ := hrel
    have hr := runR_lt (xs.take k) 4294967295 (by omega) (fun x hx => HX.out x (List.mem_of_mem_take hx))
    by_cases hlt : k < xs.length
    · have hck := HC.out k hlt
      have hxb := HX.out (xs.getD k 0) (by rw [List.getD_eq_getElem?_getD, List.getElem?_eq_getElem hlt]; exact List.getElem_mem hlt)
      have HN : Hid (runR 4294967295 (xs.take (k + 1)) = eight (runR 4294967295 (xs.take k) ^^^ (xs.getD k 0).toNat)) := by
        show _ = _
        rw [take_snocI hlt, runR_snoc]
      generalize runR 4294967295 (xs.take k) = r at *
      obtain ⟨x, hxe⟩ : ∃ x : Nat, xs.getD k 0 = (x : Int) := ⟨_, (Int.toNat_of_nonneg hxb.1).symm⟩
      rw [hxe] at hck hxb HN
      clear hxe
      have h8 : x < 256 := by omega
      clear hxb
      go_wp2_with fail
      go_loop [3, 5, 6] (fun s c j => ∃ (m S C : Nat), m ≤ 8 ∧ j = .int .i64 m ∧ s = .int .u32 S ∧ c = .int .u32 C ∧ S < 4294967296 ∧ C = x / 2 ^ m ∧ S ^^^ C = shN m (r ^^^ x)) (fun _ _ j => 8 - (intOf j).toNat)
      case atStart => exact ⟨0, r, x, by omega, rfl, rfl, rfl, hr, by simp, rfl⟩
      case round =>
        obtain ⟨m, S, C, hm8, rfl, rfl, rfl, hS, hC, hi⟩ := hrel
        have hC8 : C < 256 := by rw [hC]; exact Nat.lt_of_le_of_lt (Nat.div_le_self _ _) h8
        have HI : Hid (S ^^^ C = shN m (r ^^^ x)) := hi
        have HCC : Hid (C = x / 2 ^ m) := hC
        have HC2 : Hid (C / 2 = x / 2 ^ (m + 1)) := by show _ = _; rw [hC, Nat.div_div_eq_div_mul, Nat.pow_succ]
        clear hi hC
        have hxp := xorP (S / 2) (by omega)
        have hxp' : bits .xor .u32 ((S : Int) / 2) 3988292384 = ((S / 2 ^^^ 3988292384 : Nat) : Int) := hxp
        have HA := bit_apart S C
        have HB : Hid (sh (S ^^^ C) = (if (S + C) % 2 = 1 then S / 2 ^^^ 3988292384 else S / 2) ^^^ C / 2) := HA
        clear HA hxp
        by_cases hm1 : m < 8
        · by_cases hodd : (S + C) % 2 = 1
          · have HB2 : Hid (sh (S ^^^ C) = (S / 2 ^^^ 3988292384) ^^^ C / 2) := by show _ = _; rw [HB.out, if_pos hodd]
            have hlt2 := xor_lt (show S / 2 < 4294967296 by omega) (show 3988292384 < 4294967296 by omega)
            have ho : (IntKind.u32.wrap ((S : Int) + (C : Int)) % 2 == 1) = true := by rw [IntKind.wrap_u32']; simp; omega
            clear HB
            generalize S / 2 ^^^ 3988292384 = q at *
            go_wp2_with fail
            go_round
            case rel => exact ⟨m + 1, q, C / 2, by omega, by go_num, rfl, by simp, hlt2, HC2.out, by show _ = sh (shN m (r ^^^ x)); rw [← HI.out, HB2.out]⟩
            case measure => simp [intOf]; omega
          · have HB2 : Hid (sh (S ^^^ C) = S / 2 ^^^ C / 2) := by show _ = _; rw [HB.out, if_neg hodd]
            have ho : (IntKind.u32.wrap ((S : Int) + (C : Int)) % 2 == 1) = false := by rw [IntKind.wrap_u32']; simp; omega
            clear HB
            go_wp2_with fail
            go_round
            case rel => exact ⟨m + 1, S / 2, C / 2, by omega, by go_num, by simp, by simp, by omega, HC2.out, by show _ = sh (shN m (r ^^^ x)); rw [← HI.out, HB2.out]⟩
            case measure => simp [intOf]; omega
        · have HF : Hid (S = eight (r ^^^ x)) := by
            show _ = shN 8 (r ^^^ x)
            have e : m = 8 := by omega
            subst e
            have hc0 : C = 0 := by rw [HCC.out]; omega
            rw [← HI.out, hc0, Nat.xor_zero]
          clear HB
          go_wp2_with fail
          go_round
          case rel => exact ⟨k + 1, by omega, by go_num, by rw [HN.out, HF.out]; rfl⟩
          case measure => simp [intOf]; omega
    · have HQ : Hid (crc xs = 4294967295 - runR 4294967295 (xs.take k)) := by
        show _ = _
        rw [← ones_sub hr, List.take_of_length_le (by omega)]; rfl
      generalize runR 4294967295 (xs.take k) = r at *
      have hx32 : IntKind.u32.wrap (4294967295 - (r : Int)) = ((4294967295 - r : Nat) : Int) := by rw [IntKind.wrap_u32']; omega
      generalize 4294967295 - r = q at *
      go_wp2_with fail
      go_ret
      exact ⟨by rw [HQ.out]; rfl, rfl⟩
set_option maxRecDepth 100000 in
theorem summed_empty (a : Option Addr) (cap : Nat) (w : World) :
    Calls Try.prog 57 #[.slice a 0 cap] w fun e w' => e = .returned (.int .u32 0) ∧ w' = w := by
  go_enter Try.func57, Try.ntmps57
  go_wp2_with fail
  refine wp_loop_rounds 1 ?_
  rw [rounds_succ]
  go_wp2
  go_ret
  exact ⟨rfl, rfl⟩

theorem summed_any (v : Value) (xs : List Int) (w : World) (h : Reads .u8 w v xs) (hx : ∀ x ∈ xs, 0 ≤ x ∧ x ≤ 255) :
    Calls Try.prog 57 #[v] w fun e w' => e = .returned (.int .u32 (crc xs)) ∧ w' = w := by
  by_cases hn : 0 < xs.length
  · obtain ⟨b, off, cap, rfl, hc, hm, _, hcell⟩ := h.plain hn
    exact summed_row b off cap xs w (Nat.le_trans hc hm) hx hcell
  · have : xs = [] := List.eq_nil_of_length_eq_zero (by omega)
    subst this
    obtain ⟨a, cap, rfl, _, _⟩ := h.empty
    refine (summed_empty a cap w).mono ?_
    rintro e w' ⟨rfl, rfl⟩
    exact ⟨rfl, rfl⟩
end Go.Proofs.Ytacpicnihgggaaa

namespace Go.Proofs.Ytacpicnihgggaaa
open Go.ChangeShapes Go.WideShapes Go.ChangeAt Go.RowKit

set_option maxHeartbeats 400000 in
set_option maxRecDepth 100000 in
theorem wrapped_any (v : Value) (xs : List Int) (w : World) (h : Reads .u8 w v xs) (hx : ∀ x ∈ xs, 0 ≤ x ∧ x ≤ 255) (hl : xs.length ≤ 20000) :
    Calls Try.prog 34 #[v] w fun e w' =>
      ∃ v', e = .returned (.tuple #[v', .int .i64 0]) ∧ w'.ownsRow w.heap.size 5 1 v' (wrap xs).length ((wrap xs).map (Value.int .u8)) ∧ Below w.heap.size w w' := by
  have HR : Hid (Reads .u8 w v xs) := h
  have HX : Hid (∀ x ∈ xs, 0 ≤ x ∧ x ≤ 255) := hx
  have HB : Hid (∀ x ∈ put xs.length ++ xs, 0 ≤ x ∧ x ≤ 255) := head_bytes hx hl
  have pl := put_len (xs.length : Int)
  have HS : Hid (wrap xs = (put xs.length ++ xs) ++ four (crc (put xs.length ++ xs))) := rfl
  have hcr := crc_lt HB.out
  obtain ⟨a, cap, rfl, _, _, _, _⟩ := h
  clear hx
  go_enter Try.func34, Try.ntmps34
  go_wp2_with fail
  refine (packed_any 9 (xs.length : Int) _ (by omega) (lt_128_10 (by omega)) (by omega)).mono ?_
  rintro e w1 ⟨v1, rfl, hown1, hbel1⟩
  have O1 : Hid (w1.ownsRow w.heap.size 5 1 v1 (put xs.length).length ((put xs.length).map (Value.int .u8))) := hown1
  have B1 : Hid (Below w.heap.size w w1) := hbel1
  clear hown1 hbel1
  generalize put (xs.length : Int) = hd at *
  go_wp2_with fail
  go_loopw [4, 5] (fun v i wr => ∃ k : Nat, k ≤ xs.length ∧ i = .int .i64 k ∧ wr.ownsRow w.heap.size 5 1 v (hd ++ xs.take k).length ((hd ++ xs.take k).map (Value.int .u8)) ∧ Below w.heap.size w wr) (fun _ i _ => xs.length - (intOf i).toNat)
  case atStart => exact ⟨0, by omega, rfl, by simpa using O1.out, B1.out⟩
  case round =>
    obtain ⟨k, hk, rfl, hown, hbel⟩ := hrel
    have hs := hbel.size
    by_cases hlt : k < xs.length
    · obtain ⟨b, off, cap', e1, hc, hm, hb, hcell⟩ := (HR.out.below hbel (Nat.le_refl _)).plain (by omega)
      injection e1 with e1 _ e3
      subst e1 e3
      have hck := hcell k hlt
      have HTk : Hid (xs.take (k + 1) = xs.take k ++ [xs.getD k 0]) := take_snocI hlt
      have hlen : (hd ++ xs.take k).length ≤ 20010 := by simp; omega
      generalize xs.getD k 0 = x at *
      have OW : Hid (wr.ownsRow w.heap.size 5 1 u4 (hd ++ xs.take k).length ((hd ++ xs.take k).map (Value.int .u8))) := hown
      clear hown
      have HA : Hid (hd ++ xs.take (k + 1) = (hd ++ xs.take k) ++ [x]) := by show _ = _; rw [HTk.out]; simp
      clear HTk
      generalize hd ++ xs.take k = f at *
      clear hcell
      go_wp2_with (at_builtin; refine wpList_append_reads rfl _ _ rfl w.heap.size _ f rfl (OW.out.alloc _) _ [x] rfl (reads_block (xs := [x]) (heap_alloc_new _ _) (by simp [maxLen])) (by simp; omega) (by simp; omega) ?_)
      intro v2 w2 hown2 hbel2 _
      have B2 : Hid (Below w.heap.size w w2) := (hbel.alloc hs _).trans hbel2
      have O2 : Hid (w2.ownsRow w.heap.size 5 1 v2 (hd ++ xs.take (k + 1)).length ((hd ++ xs.take (k + 1)).map (Value.int .u8))) := by show World.ownsRow _ _ _ _ _ _ _; rw [HA.out]; simpa using hown2
      clear hown2 hbel2 hbel
      go_wp2
      go_roundw
      case rel => exact ⟨k + 1, by omega, by go_num, O2.out, B2.out⟩
      case measure => simp [intOf]; omega
    · have ek : xs.take k = xs := List.take_of_length_le (by omega)
      rw [ek] at hown
      clear ek
      have O2 : Hid (wr.ownsRow w.heap.size 5 1 u4 (hd ++ xs).length ((hd ++ xs).map (Value.int .u8))) := hown
      have B2 : Hid (Below w.heap.size w wr) := hbel
      clear hown hbel
      have hll : (hd ++ xs).length ≤ 20010 := by simp; omega
      generalize hd ++ xs = f at *
      go_wp2_with fail
      refine (summed_any _ f _ (reads_own O2.out) HB.out).mono ?_
      rintro e w3 ⟨rfl, rfl⟩
      have hc4 : (four (crc f)).length = 4 := rfl
      have R4 : Hid (Reads .u8 (w3.alloc (.cells ((four (crc f)).map (Value.int .u8)).toArray 5)) (.slice (some ⟨w3.heap.size, 0, none⟩) 4 4) (four (crc f))) := reads_block (heap_alloc_new _ _) (by simp [hc4, maxLen])
      have O5 : Hid ((w3.alloc (.cells ((four (crc f)).map (Value.int .u8)).toArray 5)).ownsRow w.heap.size 5 1 u4 f.length (f.map (Value.int .u8))) := O2.out.alloc _
      have B5 : Hid (Below w.heap.size w (w3.alloc (.cells ((four (crc f)).map (Value.int .u8)).toArray 5))) := B2.out.alloc hs _
      simp only [four, List.map_cons, List.map_nil] at R4 O5 B5
      go_wp2_with (at_builtin; refine wpList_append_reads rfl _ _ rfl w.heap.size _ f rfl O5.out _ (four (crc f)) rfl R4.out (by simp [hc4]; omega) (by simp; omega) ?_)
      intro v6 w6 hown6 hbel6 _
      have O6 : Hid (w6.ownsRow w.heap.size 5 1 v6 (wrap xs).length ((wrap xs).map (Value.int .u8))) := by show World.ownsRow _ _ _ _ _ _ _; rw [HS.out]; simpa [hc4] using hown6
      have B6 : Hid (Below w.heap.size w w6) := B5.out.trans hbel6
      clear hown6 hbel6
      go_wp2
      go_ret2
      exact ⟨v6, rfl, O6.out, B6.out⟩

theorem wrapped_over (a : Option Addr) (n cap : Nat) (w : World) (hl : 20000 < n) :
    Calls Try.prog 34 #[.slice a n cap] w fun e w' => e = .returned (.tuple #[.slice none 0 0, .int .i64 1]) ∧ w' = w := by
  go_enter Try.func34, Try.ntmps34
  go_wp2_with fail
  go_ret2
  exact ⟨rfl, rfl⟩
end Go.Proofs.Ytacpicnihgggaaa
