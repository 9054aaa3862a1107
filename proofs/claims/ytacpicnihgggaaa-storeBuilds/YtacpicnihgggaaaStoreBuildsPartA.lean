/-
  Contract of store.allHops.
  Contract of owner.check.
  Contract of owner.Mine.
  A region that draws its order, whose last operation waits for all others: the others in whatever order, then that one. (So the last one may store into what the others have read.)
  Calls in a region that draws its order: one whose result is told by a relation, one that gives up by a panic.
  Contract of store.Build.
  Contract of pacelineref.Packed: it returns the bytes of P1.1 in memory of its own; nothing else is written.
  Contract of pacelineref.GapsOf: it returns the bytes and the error that P1.5 names; nothing that was there is written.
  Contract of the document's own hopBytes.
-/
import Derived.Test.YtacpicnihgggaaaNumsWalk
import Derived.Test.YtacpicnihgggaaaHopsLib
import Derived.Deep.CutRange
import Derived.Test.YtacpicnihgggaaaOwnerMath
import Derived.Test.YtacpicnihgggaaaRowNew
import Derived.Test.YtacpicnihgggaaaRowBase
import Derived.Deep.RegionHeld3
import Derived.Test.YtacpicnihgggaaaBuildMath
import Derived.Shelf.Abstract
import Derived.Test.YtacpicnihgggaaaPutWalk
import Derived.Test.YtacpicnihgggaaaGapsWalk
import Derived.Test.YtacpicnihgggaaaRowCore
import Derived.Laws.AppendOwnNone
import Derived.Test.YtacpicnihgggaaaHopsPut

namespace Go.Proofs.Ytacpicnihgggaaa
set_option maxRecDepth 100000
open Go.ChangeShapes Go.WideShapes Go.ChangeAt Go.RowKit
attribute [local go_sem ↓] exec_append

/-- A table of lists of hops: each grows by itself. -/
structure Tbl (w : World) (base g n : Nat) (vs : List Value) (f : List (List Hp)) : Prop where
  row : w.ownsRow base 49 1 (.slice (some ⟨g, 0, none⟩) n n) n vs
  lv : vs.length = n
  lf : f.length = n
  el : ∀ (j : Nat) (u : Value) (l : List Hp), vs[j]? = some u → f[j]? = some l → w.ownsRow base 87 2 u l.length (l.flatMap encH)
  ap : ∀ (i j : Nat) (u v : Value), i ≠ j → vs[i]? = some u → vs[j]? = some v → Apt u v
theorem Tbl.kept {w w' : World} {base g n : Nat} {vs : List Value} {f : List (List Hp)} (h : Tbl w base g n vs f) (hk : Kept (fun _ => False) w w') : Tbl w' base g n vs f :=
  ⟨hk.own h.row fun _ _ h => h, h.lv, h.lf, fun j u l hu hl => hk.own (h.el j u l hu hl) fun _ _ h => h, h.ap⟩
theorem Tbl.own {w : World} {base g n : Nat} {vs : List Value} {f : List (List Hp)} (h : Tbl w base g n vs f) : OwnLs w base (.slice (some ⟨g, 0, none⟩) n n) f :=
  ⟨vs, by rw [h.lv, h.lf], by rw [h.lf]; exact h.row, h.el⟩
theorem Tbl.cell {w : World} {base g n j : Nat} {vs : List Value} {f : List (List Hp)} {u : Value} (h : Tbl w base g n vs f) (hu : vs[j]? = some u) : w.cell? ⟨g, j, none⟩ = some u := by
  have := h.row.cells rfl j u hu
  rwa [addr_add] at this
/-- One of the lists has grown. -/
theorem Tbl.put {w w' : World} {base g n j g' m c : Nat} {vs : List Value} {f : List (List Hp)} {u : Value} {l : List Hp} {x : Hp} (h : Tbl w base g n vs f) (hu : vs[j]? = some u) (hl : f[j]? = some l)
    (hg : w.grownBy w' u.ownBlock) (ho : w'.ownsRow base 87 2 (.slice (some ⟨g', 0, none⟩) m c) (l ++ [x]).length ((l ++ [x]).flatMap encH)) (hli : u.ownBlock = some g' ∨ g' = w.heap.size) :
    Tbl (w'.setCell ⟨g, j, none⟩ (.slice (some ⟨g', 0, none⟩) m c)) base g n (vs.set j (.slice (some ⟨g', 0, none⟩) m c)) (f.set j (l ++ [x])) ∧ w'.cell? ⟨g, j, none⟩ = some u ∧ w'.frozen? ⟨g, j, none⟩ = false := by
  have hel := h.el j u l hu hl
  have hrow : w'.ownsRow base 49 1 (.slice (some ⟨g, 0, none⟩) n n) n vs := h.row.kept hg (own_apart h.row hel (by decide))
  have hgb : ∃ cur, w'.heap[g]? = some (.cells cur 49 (0, 0)) := by
    rcases hrow.2 with ⟨hv, _⟩ | ⟨g2, c2, cur, hv, _, hgg, _⟩
    · cases hv
    · injection hv with hv
      injection hv with hv
      injection hv with hv
      subst hv
      exact ⟨cur, hgg⟩
  obtain ⟨cur, hgb⟩ := hgb
  have hjn : j < vs.length := (List.getElem?_eq_some_iff.1 hu).1
  refine ⟨⟨own_setRow hrow, by rw [List.length_set]; exact h.lv, by rw [List.length_set]; exact h.lf, ?_, ?_⟩, ?_, frozenK hrow j⟩
  · intro i v k hv hk
    have kb := Kept.box w' g j (.slice (some ⟨g', 0, none⟩) m c)
    by_cases hij : j = i
    · subst hij
      rw [List.getElem?_set_self hjn] at hv
      rw [List.getElem?_set_self (by rw [h.lf, ← h.lv]; exact hjn)] at hk
      injection hv with hv
      injection hk with hk
      subst hv hk
      exact kb.own ho fun q hq => own_block ho hq hgb (by decide)
    · rw [List.getElem?_set_ne hij] at hv hk
      have h1 := h.el i v k hv hk
      have h2 := h1.kept hg (h.ap i j v u (fun e => hij e.symm) hv hu).or
      exact kb.own h2 fun q hq => own_block h2 hq hgb (by decide)
  · intro i k a b hik ha hb
    by_cases h1 : j = i
    · subst h1
      rw [List.getElem?_set_self hjn] at ha
      injection ha with ha
      subst ha
      rw [List.getElem?_set_ne hik] at hb
      have hkf : k < f.length := by rw [h.lf, ← h.lv]; exact (List.getElem?_eq_some_iff.1 hb).1
      exact (h.ap j k u b hik hu hb).grown hli (h.el k b f[k] hb (List.getElem?_eq_getElem hkf))
    · rw [List.getElem?_set_ne h1] at ha
      by_cases h2 : j = k
      · subst h2
        rw [List.getElem?_set_self hjn] at hb
        injection hb with hb
        subst hb
        have hif : i < f.length := by rw [h.lf, ← h.lv]; exact (List.getElem?_eq_some_iff.1 ha).1
        exact ((h.ap j i u a (fun e => hik e.symm) hu ha).grown hli (h.el i a f[i] ha (List.getElem?_eq_getElem hif))).symm
      · rw [List.getElem?_set_ne h2] at hb
        exact h.ap i k a b hik ha hb
  · have := hrow.cells rfl j u hu
    rwa [addr_add] at this
theorem made_nil (m : Nat) : (madeCells (Value.slice none 0 0).cells (m * 1)).toList = List.replicate m (.slice none 0 0) := by
  simp [madeCells, Value.cells]
  refine List.ext_getElem? fun v => ?_
  rcases Nat.lt_or_ge v m with hv | hv
  · rw [List.getElem?_map, List.getElem?_range hv, List.getElem?_replicate, if_pos hv]
    simp [Nat.mod_one]
  · rw [List.getElem?_eq_none (by simpa using hv), List.getElem?_eq_none (by simpa using hv)]
/-- make([][]api.Hop, m). -/
theorem make_tbl (w : World) (m : Nat) (hm : m ≤ 1000000) :
    ∃ w', (Instr.makeSlice 34 (.int .i64 (m : Int)) (.int .i64 (m : Int))).run Try.prog w = .ok (.slice (some ⟨w.heap.size, 0, none⟩) m m) w' ∧ Tbl w' w.heap.size w.heap.size m (List.replicate m (.slice none 0 0)) (List.replicate m []) ∧ Below w.heap.size w w' := by
  obtain ⟨i0, hi, hz0, hz1, hz2⟩ := info_parts Try.infoL
  obtain ⟨w', h1, h2, h3⟩ := run_makeSlice_full (P := Try.prog) w w.heap.size 34 49 i0 (.slice none 0 0) 1 Try.underlying34 hi hz0 hz1 .i64 .i64 m (by omega) (by rw [hz2]; omega) (by unfold maxLen; omega) (Nat.le_refl _)
  rw [made_nil] at h2
  refine ⟨w', h1, ⟨h2, by simp, by simp, fun j u l hu hl => ?_, fun i j u v _ hu _ => ?_⟩, (Below.refl _ _).grown h3 (Nat.le_refl _) (fun k hk => by cases hk)⟩
  · rw [List.getElem?_replicate] at hu hl
    split at hu
    · injection hu with hu
      rw [if_pos (by assumption)] at hl
      injection hl with hl
      subst hu hl
      exact World.ownsRow_nil _ _ _ _
    · cases hu
  · rw [List.getElem?_replicate] at hu
    split at hu
    · injection hu with hu
      subst hu
      exact Apt.nil _
    · cases hu

/-- The hops of all vertices. -/
def tblF (n : Nat) (es : List Ed) : List (List Hp) := (List.range n).map fun (v : Nat) => hopsL es (v : Int)
theorem tblF_at {n v : Nat} {es : List Ed} (h : v < n) : (tblF n es)[v]? = some (hopsL es (v : Int)) := by simp [tblF, h]
theorem tblF_nil (n : Nat) : tblF n [] = List.replicate n [] := by
  refine List.ext_getElem? fun v => ?_
  rcases Nat.lt_or_ge v n with hv | hv
  · rw [tblF_at hv, List.getElem?_replicate, if_pos hv]; rfl
  · rw [List.getElem?_eq_none (by simpa [tblF] using hv), List.getElem?_eq_none (by simpa using hv)]
theorem tblF_step {n k j : Nat} {es : List Ed} {x : Ed} (hx : es[k]? = some x) (hj : x.1 = (j : Int)) (hn : j < n) : tblF n (es.take (k + 1)) = (tblF n (es.take k)).set j (hopsL (es.take k) (j : Int) ++ [(x.2.1, x.2.2)]) := by
  have hlen : (tblF n (es.take k)).length = n := by simp [tblF]
  refine List.ext_getElem? fun v => ?_
  rcases Nat.lt_or_ge v n with hv | hv
  · rw [tblF_at hv]
    by_cases e : j = v
    · subst e
      rw [List.getElem?_set_self (by omega), hops_yes hx (by simp [hj])]
    · rw [List.getElem?_set_ne e, tblF_at hv, hops_no hx (by rw [hj]; simp; omega)]
  · rw [List.getElem?_eq_none (by simpa [tblF] using hv), List.getElem?_eq_none (by rw [List.length_set]; omega)]

set_option maxHeartbeats 2000000 in
set_option maxRecDepth 100000 in
theorem allHops_any (v : Value) (es : List Ed) (n : Nat) (w : World) (h : EdR w v es) (hn : n ≤ 200) (hl : es.length ≤ 600) (hin : ∀ e ∈ es, 0 ≤ e.1 ∧ e.1 < (n : Int)) :
    Calls Try.prog 25 #[.agg #[.int .i64 n, v]] w fun e w' => ∃ v', e = .returned v' ∧ OwnLs w' w.heap.size v' (tblF n es) ∧ Below w.heap.size w w' := by
  have HR : Hid (EdR w v es) := h
  have HI : Hid (∀ e ∈ es, 0 ≤ e.1 ∧ e.1 < (n : Int)) := hin
  obtain ⟨a, cap, rfl, _, hm, _⟩ := h
  unfold maxLen at hm
  clear hin
  have B0 : Hid (Below w.heap.size w (w.alloc (.cells #[.int .i64 n, .slice a es.length cap] 24)) ∧ (w.alloc (.cells #[.int .i64 n, .slice a es.length cap] 24)).heap[w.heap.size]? = some (.cells #[.int .i64 n, .slice a es.length cap] 24 (0, 0))) := ⟨below_alloc _ _, heap_alloc_new w _⟩
  go_enter Try.func25, Try.ntmps25
  go_upto_region 1 with fail
  generalize w.alloc (.cells #[.int .i64 n, .slice a es.length cap] 24) = w0 at *
  obtain ⟨hb0, hx0⟩ := B0.out
  have c0 : w0.cell? ⟨w.heap.size, 0, none⟩ = some (.int .i64 n) := by rw [cell_of_row _ _ _ _ _ _ hx0]; rfl
  have hlt0 := (Array.getElem?_eq_some_iff.1 hx0).1
  obtain ⟨w1, hmk, htb, hb1⟩ := make_tbl w0 n (by omega)
  have c1 : w1.cell? ⟨w.heap.size, 1, none⟩ = some (.slice a es.length cap) := by rw [(hb1.cell (p := ⟨w.heap.size, 1, none⟩) hlt0), cell_of_row _ _ _ _ _ _ hx0]; rfl
  have hs0 := hb0.size
  have HB1 : Hid (Below w.heap.size w w1) := hb0.trans (hb1.mono hs0)
  have TB : Hid (Tbl w1 w0.heap.size w0.heap.size n (List.replicate n (.slice none 0 0)) (tblF n [])) := by
    show Tbl _ _ _ _ _ _
    rw [tblF_nil]; exact htb
  have hs1 := HB1.out.size
  clear hb0 hx0 htb hb1 B0
  go_wp2_with fail
  generalize w0.heap.size = G at *
  have hs3 : G < w1.heap.size := by
    have := TB.out.row.lt G rfl
    exact this.2
  go_loopw [12] (fun i wr => ∃ (k : Nat) (vs : List Value), k ≤ es.length ∧ i = .int .i64 k ∧ Tbl wr G G n vs (tblF n (es.take k)) ∧ Below w.heap.size w wr ∧ w1.heap.size ≤ wr.heap.size) (fun i _ => es.length - (intOf i).toNat)
  case atStart => exact ⟨0, _, by omega, rfl, TB.out, HB1.out, Nat.le_refl _⟩
  case round =>
    obtain ⟨k, vs, hk, rfl, htb, hbel, hsw⟩ := hrel
    have TR : Hid (Tbl wr G G n vs (tblF n (es.take k))) := htb
    have HB : Hid (Below w.heap.size w wr) := hbel
    have hsr := hbel.size
    clear htb hbel TB HB1 c0 c1 hmk
    by_cases hlt : k < es.length
    · obtain ⟨b, off, cap', e1, _, _, lt, hv⟩ := EdR.at (HR.out.below HB.out (Nat.le_refl _)) (by omega)
      injection e1 with e1 _ e3
      subst e1 e3
      obtain ⟨x, hx⟩ := getE hlt
      obtain ⟨d1, d2, d3⟩ := hv k x hx
      have hxi := HI.out x (List.mem_of_getElem? hx)
      obtain ⟨j, hj⟩ : ∃ j : Nat, x.1 = j := ⟨x.1.toNat, by omega⟩
      have hjn : j < n := by omega
      have HT : Hid (tblF n (es.take (k + 1)) = (tblF n (es.take k)).set j (hopsL (es.take k) (j : Int) ++ [(x.2.1, x.2.2)])) := tblF_step hx hj hjn
      obtain ⟨u, hu⟩ := getX (show j < vs.length by rw [TR.out.lv]; exact hjn)
      have hfl := tblF_at (es := es.take k) hjn
      have hel := TR.out.el j u _ hu hfl
      obtain ⟨ua, un, uc, rfl⟩ : ∃ a n c, u = .slice a n c := by obtain ⟨a, c, e, _⟩ := RowK.own encH_len hel; exact ⟨_, _, _, e⟩
      have hll : (hopsL (es.take k) (j : Int)).length ≤ 600 := by have := hops_len (es.take k) (j : Int); simp at this; omega
      obtain ⟨x1, x2, x3⟩ := x
      simp only at *
      subst hj
      have p0 : (0 : Int) ≤ (k : Int) := by omega
      have p1 : (k : Int) < (es.length : Int) := by omega
      have q0 : (0 : Int) ≤ (j : Int) := by omega
      have q1 : (j : Int) < (n : Int) := by omega
      have HU : Hid (vs[j]? = some (.slice ua un uc)) := hu
      have HFL : Hid ((tblF n (es.take k))[j]? = some (hopsL (es.take k) (j : Int))) := hfl
      clear hv hx hfl hu hel
      generalize hopsL (es.take k) (j : Int) = f at *
      go_upto_region 5 with fail
      have W1 : Hid (Tbl (wr.alloc (.cells #[.int .i64 (j : Int), .int .i64 x2, .int .i64 x3] 67)) G G n vs (tblF n (es.take k)) ∧ Below w.heap.size w (wr.alloc (.cells #[.int .i64 (j : Int), .int .i64 x2, .int .i64 x3] 67)) ∧ (wr.alloc (.cells #[.int .i64 (j : Int), .int .i64 x2, .int .i64 x3] 67)).heap[wr.heap.size]? = some (.cells #[.int .i64 (j : Int), .int .i64 x2, .int .i64 x3] 67 (0, 0)) ∧ w1.heap.size ≤ (wr.alloc (.cells #[.int .i64 (j : Int), .int .i64 x2, .int .i64 x3] 67)).heap.size) := ⟨TR.out.kept ((Kept.refl _ _).alloc _), HB.out.alloc hsr _, heap_alloc_new wr _, by simp; omega⟩
      generalize wr.alloc (.cells #[.int .i64 (j : Int), .int .i64 x2, .int .i64 x3] 67) = w2 at *
      generalize wr.heap.size = bx at *
      obtain ⟨TR2, HB2, bx2, hs2⟩ := W1.out
      have k0 : w2.cell? ⟨bx, 0, none⟩ = some (.int .i64 (j : Int)) := by rw [cell_of_row _ _ _ _ _ _ bx2]; rfl
      have k1 : w2.cell? ⟨bx, 1, none⟩ = some (.int .i64 x2) := by rw [cell_of_row _ _ _ _ _ _ bx2]; rfl
      have k2 : w2.cell? ⟨bx, 2, none⟩ = some (.int .i64 x3) := by rw [cell_of_row _ _ _ _ _ _ bx2]; rfl
      have k3 := TR2.cell HU.out
      have hbx := (Array.getElem?_eq_some_iff.1 bx2).1
      have hG2 : G < w2.heap.size := by omega
      have m0 : ∀ X, (w2.alloc X).cell? ⟨bx, 0, none⟩ = some (.int .i64 (j : Int)) := fun X => ((below_alloc w2 X).cell (p := ⟨bx, 0, none⟩) hbx).trans k0
      have m1 : ∀ X, (w2.alloc X).cell? ⟨G, j, none⟩ = some (.slice ua un uc) := fun X => ((below_alloc w2 X).cell (p := ⟨G, j, none⟩) hG2).trans k3
      have hel := TR2.el j _ f HU.out HFL.out
      have hs4 := HB2.size
      obtain ⟨g5, c5, w5, hrun, ho5, hgr5, hli5⟩ := run_append_newL kH (w := (w2.alloc (.cells #[.int .i64 x2, .int .i64 x3] 87)).drew) 49 G (.slice ua un uc) f ((hel.alloc _).drew) w2.heap.size (x2, x3) #[.int .i64 x2, .int .i64 x3] rfl (0, 0) (heap_alloc_new w2 _) (by simp only [kH]; omega) (by unfold maxLen; omega) (by show G ≤ (w2.alloc _).heap.size; simp; omega)
      obtain ⟨a1, a2, a3⟩ := appOk_of hrun
      have TR3 : Tbl (w2.alloc (.cells #[.int .i64 x2, .int .i64 x3] 87)).drew G G n vs (tblF n (es.take k)) := TR2.kept ((Kept.refl _ _).alloc _).drew
      obtain ⟨T5, k4, k5⟩ := TR3.put HU.out HFL.out hgr5 ho5 hli5
      have T6 : Hid (Tbl (w5.setCell ⟨G, j, none⟩ (.slice (some ⟨g5, 0, none⟩) (f.length + 1) c5)) G G n (vs.set j (.slice (some ⟨g5, 0, none⟩) (f.length + 1) c5)) (tblF n (es.take (k + 1)))) := by
        show Tbl _ _ _ _ _ _
        rw [HT.out]; exact T5
      have HB6 : Hid (Below w.heap.size w (w5.setCell ⟨G, j, none⟩ (.slice (some ⟨g5, 0, none⟩) (f.length + 1) c5))) := by
        have h5 : Below w.heap.size w w5 := ((HB2.alloc hs4 _).drew).trans ((Below.refl _ _).grown hgr5 (by show w.heap.size ≤ (w2.alloc _).heap.size; simp; omega) (fun q hq => by have := own_ge hel hq; omega))
        exact h5.setCell (p := ⟨G, j, none⟩) (by show w.heap.size ≤ G; omega) _
      have hs6 : w1.heap.size ≤ (w5.setCell ⟨G, j, none⟩ (.slice (some ⟨g5, 0, none⟩) (f.length + 1) c5)).heap.size := by
        rw [size_setCell]
        have h1 := hgr5.size
        have h2 : (w2.alloc (.cells #[.int .i64 x2, .int .i64 x3] 87)).drew.heap.size = w2.heap.size + 1 := by simp
        omega
      have m2 : w5.cell? ⟨bx, 0, none⟩ = some (.int .i64 (j : Int)) := by
        have hb5 : w5.heap[bx]? = some (.cells #[.int .i64 (j : Int), .int .i64 x2, .int .i64 x3] 67 (0, 0)) := by
          rw [hgr5.block bx (by show bx < (w2.alloc _).heap.size; simp; omega) (fun e => own_block hel e.symm bx2 (by decide) rfl)]
          exact ((below_alloc w2 _).block bx hbx).trans bx2
        rw [cell_of_row _ _ _ _ _ _ hb5]; rfl
      unfold kH at a1 a2 a3
      simp only at a1 a2 a3
      clear W1 TR HB TR2 HB2 bx2 hel hrun ho5 hgr5 hli5 TR3 T5 d1 d2 d3
      go_region
      generalize w5.setCell ⟨G, j, none⟩ (.slice (some ⟨g5, 0, none⟩) (f.length + 1) c5) = w6 at *
      clear a1 a2 a3 m0 m1 m2 k0 k1 k2 k3 k4 k5
      go_wp2_with fail
      go_roundw
      case rel => exact ⟨k + 1, _, by omega, by go_num, T6.out, HB6.out, hs6⟩
      case measure => simp [intOf]; omega
    · have ek : es.take k = es := List.take_of_length_le (by omega)
      rw [ek] at TR
      clear ek
      go_wp2_with fail
      go_ret
      exact ⟨_, rfl, TR.out.own.lower (by omega), HB.out⟩
end Go.Proofs.Ytacpicnihgggaaa

namespace Go.Proofs.Ytacpicnihgggaaa
set_option maxRecDepth 100000
open Go.ChangeShapes Go.WideShapes Go.ChangeAt Go.RowKit

set_option maxHeartbeats 400000 in
theorem ownCheck_any (i many n k : Int) (w : World) :
    Calls Try.prog 45 #[.int .i64 i, .int .i64 many, .int .i64 n, .int .i64 k] w fun e w' => e = .returned (.int .i64 (errO i many n k)) ∧ w' = w := by
  by_cases h1 : n < 0
  · rw [errO_size (by omega)]
    go_enter Try.func45, Try.ntmps45
    go_wp2
    go_ret
    exact ⟨rfl, rfl⟩
  · by_cases h2 : 200 < n
    · rw [errO_size (by omega)]
      go_enter Try.func45, Try.ntmps45
      go_wp2
      go_ret
      exact ⟨rfl, rfl⟩
    · by_cases h3 : k < 1
      · rw [errO_size (by omega)]
        go_enter Try.func45, Try.ntmps45
        go_wp2
        go_ret
        exact ⟨rfl, rfl⟩
      · by_cases h4 : 8 < k
        · rw [errO_size (by omega)]
          go_enter Try.func45, Try.ntmps45
          go_wp2
          go_ret
          exact ⟨rfl, rfl⟩
        · by_cases h5 : i < 0
          · rw [errO_range (by omega) (by omega)]
            go_enter Try.func45, Try.ntmps45
            go_wp2
            go_ret
            exact ⟨rfl, rfl⟩
          · by_cases h6 : many ≤ i
            · rw [errO_range (by omega) (by omega)]
              go_enter Try.func45, Try.ntmps45
              go_wp2
              go_ret
              exact ⟨rfl, rfl⟩
            · rw [errO_ok (by omega) (by omega)]
              go_enter Try.func45, Try.ntmps45
              go_wp2
              go_ret
              exact ⟨rfl, rfl⟩

end Go.Proofs.Ytacpicnihgggaaa

namespace Go.Proofs.Ytacpicnihgggaaa
set_option maxRecDepth 100000
open Go.ChangeShapes Go.WideShapes Go.ChangeAt Go.RowKit

set_option maxHeartbeats 1000000 in
set_option maxRecDepth 100000 in
theorem mine_any (a n k : Int) (w : World) :
    Calls Try.prog 20 #[.int .i64 a, .int .i64 n, .int .i64 k] w fun e w' => ∃ v', e = .returned (.tuple #[v', .int .i64 (errO a k n k)]) ∧
      w'.ownsRow w.heap.size 3 1 v' (okL (errO a k n k) (mineL a.toNat n.toNat k.toNat)).length ((okL (errO a k n k) (mineL a.toNat n.toNat k.toNat)).flatMap encI) ∧ Below w.heap.size w w' := by
  have HC : Hid (∀ X, Calls Try.prog 45 #[.int .i64 a, .int .i64 k, .int .i64 n, .int .i64 k] X fun e w' => e = .returned (.int .i64 (errO a k n k)) ∧ w' = X) := fun X => ownCheck_any a k n k X
  by_cases hf : errO a k n k = 0
  · obtain ⟨⟨hn0, hn1, hk0, hk1⟩, ha0, ha1⟩ := errO_inv hf
    rw [hf] at HC ⊢
    rw [okL_yes]
    obtain ⟨N, rfl⟩ : ∃ m : Nat, n = m := ⟨n.toNat, by omega⟩
    obtain ⟨K, rfl⟩ : ∃ m : Nat, k = m := ⟨k.toNat, by omega⟩
    obtain ⟨A, rfl⟩ : ∃ m : Nat, a = m := ⟨a.toNat, by omega⟩
    rw [Int.toNat_natCast, Int.toNat_natCast, Int.toNat_natCast]
    have hk : 1 ≤ K ∧ K ≤ 8 := by omega
    have haK : A < K := by omega
    have HM : Hid (∀ j, j < cntO A N K ↔ A + j * K < N) := fun j => cnt_more hk haK
    have HL : Hid (mineT A K (cntO A N K) = mineL A N K) := rfl
    have hcn : cntO A N K ≤ N := cnt_le hk
    clear hf hn0 hk0 hk1 ha0 ha1
    generalize mineL A N K = ML at *
    generalize cntO A N K = cn at *
    go_enter Try.func20, Try.ntmps20
    go_wp2_with fail
    refine (HC.out _).mono ?_
    rintro e w1 ⟨rfl, rfl⟩
    clear HC
    go_wp2_with fail
    go_loopw [9, 10] (fun u v wr => ∃ j : Nat, j ≤ cn ∧ v = .int .i64 ((A + j * K : Nat) : Int) ∧ wr.ownsRow w1.heap.size 3 1 u (mineT A K j).length ((mineT A K j).flatMap encI) ∧ Below w1.heap.size w1 wr) (fun _ v _ => N - (intOf v).toNat)
    case atStart => exact ⟨0, by omega, by simp, World.ownsRow_nil _ _ _ _, Below.refl _ _⟩
    case round =>
      obtain ⟨j, hj, rfl, hown, hbel⟩ := hrel
      have OW : Hid (wr.ownsRow w1.heap.size 3 1 u9 (mineT A K j).length ((mineT A K j).flatMap encI)) := hown
      have HB : Hid (Below w1.heap.size w1 wr) := hbel
      have hsr := hbel.size
      have HJ := HM.out j
      have HN2 : Hid (mineT A K (j + 1) = mineT A K j ++ [((A + j * K : Nat) : Int)]) := mineT_next A K j
      have hlen : (mineT A K j).length = j := mineT_len A K j
      have hlen2 : (mineT A K j).length ≤ 200 := by omega
      have HV : Hid ((A + (j + 1) * K : Nat) = A + j * K + K) := by show _ = _; rw [Nat.add_mul]; omega
      clear hown hbel
      by_cases hlt : j < cn
      · have hv : A + j * K < N := HJ.1 hlt
        clear HJ hlen
        generalize A + j * K = V at *
        generalize mineT A K j = f at *
        go_wp2_with (at_builtin; refine wpList_append_newK kI rfl _ _ rfl w1.heap.size _ f rfl (OW.out.alloc _) _ (V : Int) rfl #[.int .i64 V] rfl (0, 0) (heap_alloc_new _ _) (by simp [kI]; omega) (by unfold maxLen; omega) (by simp; omega) ?_)
        intro g c w3 hown3 hb3 _
        have O3 : Hid (w3.ownsRow w1.heap.size 3 1 (.slice (some ⟨g, 0, none⟩) (f.length + 1) c) (mineT A K (j + 1)).length ((mineT A K (j + 1)).flatMap encI)) := by
          show World.ownsRow _ _ _ _ _ _ _
          rw [HN2.out, flat_snoc, List.length_append]; exact hown3
        have B3 : Hid (Below w1.heap.size w1 w3) := (HB.out.alloc hsr _).trans hb3
        clear hown3 hb3
        go_wp2_with fail
        go_roundw
        case rel => exact ⟨j + 1, by omega, by rw [HV.out]; go_num, O3.out, B3.out⟩
        case measure => simp [intOf]; omega
      · have hv : ¬ A + j * K < N := fun h => hlt (HJ.2 h)
        obtain rfl : j = cn := by omega
        rw [HL.out] at OW
        clear HJ hlen hlen2 HN2 HV
        generalize A + j * K = V at *
        go_wp2_with fail
        go_ret2
        exact ⟨_, rfl, OW.out, HB.out⟩
  · have hne : (errO a k n k != 0) = true := by simpa using hf
    rw [okL_no hf]
    generalize errO a k n k = fe at *
    clear hf
    go_enter Try.func20, Try.ntmps20
    go_wp2_with fail
    refine (HC.out _).mono ?_
    rintro e w1 ⟨rfl, rfl⟩
    go_wp2_with fail
    go_ret2
    exact ⟨_, rfl, World.ownsRow_nil _ _ _ _, Below.refl _ _⟩
end Go.Proofs.Ytacpicnihgggaaa

namespace Go.Proofs.Ytacpicnihgggaaa
set_option maxRecDepth 100000
open Go.RowKit

/-- What the others must come to. -/
def postLast (P : Program) (o : Oper) (Q : Exit → Act → World → Prop) : Exit → Act → World → Prop
  | .normal, a, w => o.wp P a w (fun a' w' => Q .normal a' w') Q
  | e, a, w => Q e a w

/-- Each of the others waits for earlier ones alone; the last one waits for all. -/
def lastOK (md : Region.Mode) (ops : Array Oper) (o : Oper) : Bool :=
  o.guard.isNone && (List.range ops.size).all fun i =>
    (match ops[i]? with
      | some x => x.guard.isNone && x.after.toList.all (fun e => !Region.binds md e || decide (e.on < i))
      | none => false) && o.after.toList.any (fun e => Region.binds md e && e.on == i)
def lastIn (md : Region.Mode) (n : Nat) (o : Oper) : Bool := o.after.toList.all fun e => !Region.binds md e || decide (e.on < n)

section
variable {P : Program} {md : Region.Mode} {ops : Array Oper} {o : Oper} {Q : Exit → Act → World → Prop}

theorem wp_postLast {x : Oper} {a : Act} {w : World} {K : Act → World → Prop} (h : x.wp P a w K (postLast P o Q)) : x.wp P a w K Q := by
  unfold Oper.wp at *
  generalize (execOp a.eval x).run P w = r at *
  cases r with
  | ok n w' => cases n <;> exact h
  | halt e w' => cases e <;> exact h
theorem letsOut_postLast (h : LetsOut (postLast P o Q)) : LetsOut Q := h

theorem lastOK_guard (h : lastOK md ops o = true) : o.guard = none := by
  unfold lastOK at h
  rw [Bool.and_eq_true] at h
  simpa using h.1
theorem lastOK_at (h : lastOK md ops o = true) {i : Nat} {x : Oper} (hx : ops[i]? = some x) : x.guard = none ∧ (∀ e ∈ x.after, Region.binds md e = true → e.on < i) ∧ ∃ e ∈ o.after, Region.binds md e = true ∧ e.on = i := by
  unfold lastOK at h
  rw [Bool.and_eq_true] at h
  have hi : i < ops.size := (Array.getElem?_eq_some_iff.1 hx).1
  have := List.all_eq_true.1 h.2 i (List.mem_range.2 hi)
  rw [hx] at this
  simp only [Bool.and_eq_true] at this
  obtain ⟨⟨h1, h2⟩, h3⟩ := this
  refine ⟨by simpa using h1, fun e he hb => ?_, ?_⟩
  · have := List.all_eq_true.1 h2 e (Array.mem_toList_iff.2 he)
    rw [hb] at this
    simpa using this
  · obtain ⟨e, he, hb⟩ := List.any_eq_true.1 h3
    simp only [Bool.and_eq_true, beq_iff_eq] at hb
    exact ⟨e, Array.mem_toList_iff.1 he, hb.1, hb.2⟩

theorem getD_push_lt {l : Array Bool} {b d : Bool} {j : Nat} (h : j < l.size) : (l.push b).getD j d = l.getD j d := by
  simp [Array.getD, Array.getElem_push_lt h, h, Nat.lt_succ_of_lt h]
theorem getD_push_eq {l : Array Bool} {b d : Bool} : (l.push b).getD l.size d = b := by simp [Array.getD]
theorem getD_dflt {l : Array Bool} {j : Nat} (h : j < l.size) (d d' : Bool) : l.getD j d = l.getD j d' := by simp [Array.getD, h]

theorem ready_push {l : Array Bool} {b : Bool} (hs : l.size = ops.size) (h : lastOK md ops o = true) {j : Nat} (hj : j < ops.size) : j ∈ Region.ready md (ops.push o) (l.push b) ↔ j ∈ Region.ready md ops l := by
  rw [mem_ready, mem_ready, getD_push_lt (by omega)]
  have e : (ops.push o)[j]? = ops[j]? := by simp [Array.getElem?_push, Nat.ne_of_lt hj]
  rw [e]
  refine and_congr_right fun _ => ⟨?_, ?_⟩
  · rintro ⟨x, hx, ha⟩
    refine ⟨x, hx, fun e he hb => ?_⟩
    have := (lastOK_at h hx).2.1 e he hb
    have h2 := ha e he hb
    rwa [getD_push_lt (by omega)] at h2
  · rintro ⟨x, hx, ha⟩
    refine ⟨x, hx, fun e he hb => ?_⟩
    have := (lastOK_at h hx).2.1 e he hb
    rw [getD_push_lt (by omega)]
    exact ha e he hb
/-- Where nothing may come up, all have. -/
theorem ready_all {l : Array Bool} (hs : l.size = ops.size) (h : lastOK md ops o = true) (h0 : Region.ready md ops l = []) : ∀ j, j < ops.size → l.getD j false = true := by
  intro j
  induction j using Nat.strongRecOn with
  | _ j ih =>
    intro hj
    cases hl : l.getD j false
    · exfalso
      have : j ∈ Region.ready md ops l := by
        rw [mem_ready]
        refine ⟨by rw [getD_dflt (by omega) true false]; exact hl, ops[j], by simp [hj], fun e he hb => ?_⟩
        have := (lastOK_at h (Array.getElem?_eq_getElem hj)).2.1 e he hb
        exact ih e.on this (by omega)
      rw [h0] at this
      cases this
    · rfl
theorem ready_last {l : Array Bool} (hs : l.size = ops.size) (hin : lastIn md ops.size o = true) (hall : ∀ j, j < ops.size → l.getD j false = true) : ops.size ∈ Region.ready md (ops.push o) (l.push false) := by
  rw [mem_ready]
  refine ⟨by rw [← hs]; exact getD_push_eq, o, by simp, fun e he hb => ?_⟩
  have := List.all_eq_true.1 hin e (Array.mem_toList_iff.2 he)
  rw [hb] at this
  have hlt : e.on < ops.size := by simpa using this
  rw [getD_push_lt (by omega)]
  exact hall e.on hlt
theorem last_ready {l : Array Bool} (hs : l.size = ops.size) (h : lastOK md ops o = true) (hr : ops.size ∈ Region.ready md (ops.push o) (l.push false)) : Region.ready md ops l = [] := by
  rw [mem_ready] at hr
  obtain ⟨_, x, hx, ha⟩ := hr
  have ex : x = o := by simpa using hx.symm
  subst ex
  refine List.eq_nil_iff_forall_not_mem.2 fun j hj => ?_
  rw [mem_ready] at hj
  obtain ⟨h1, y, hy, _⟩ := hj
  have hjn : j < ops.size := (Array.getElem?_eq_some_iff.1 hy).1
  obtain ⟨_, _, e, he, hb, hon⟩ := lastOK_at h hy
  have := ha e he hb
  rw [hon, getD_push_lt (by omega), getD_dflt (by omega) false true, h1] at this
  cases this
theorem ready_done {l : Array Bool} (hs : l.size = ops.size) (h : lastOK md ops o = true) (h0 : Region.ready md ops l = []) : Region.ready md (ops.push o) (l.push true) = [] := by
  refine List.eq_nil_iff_forall_not_mem.2 fun j hj => ?_
  rcases Nat.lt_or_ge j ops.size with hlt | hge
  · rw [ready_push hs h hlt, h0] at hj; cases hj
  · rw [mem_ready] at hj
    obtain ⟨h1, y, hy, _⟩ := hj
    have hjn := (Array.getElem?_eq_some_iff.1 hy).1
    have ej : j = l.size := by simp at hjn; omega
    rw [ej, getD_push_eq] at h1
    cases h1

theorem wpAny_end {l : Array Bool} {a : Act} {w : World} (h0 : Region.ready md ops l = []) (h : Q .normal a w) : ∀ fuel, wpAny P md ops Q fuel l a w
  | 0 => ⟨h0, h⟩
  | _ + 1 => ⟨fun _ => h, by rw [h0]; simp⟩

theorem wpOp_last {l : Array Bool} {a : Act} {w : World} (hs : l.size = ops.size) (h : lastOK md ops o = true) (h0 : Region.ready md ops l = []) (hq : postLast P o Q .normal a w) (fuel : Nat) :
    wpOp P (ops.push o) Q ops.size (wpAny P md (ops.push o) Q fuel ((l.push false).setIfInBounds ops.size true)) a w := by
  unfold wpOp
  have e : (ops.push o)[ops.size]? = some o := by simp
  simp only [e]
  have hw : Region.wanted o (yielded (ops.push o) a.tmps) = true := by simp [Region.wanted, lastOK_guard h]
  rw [if_pos hw]
  refine .inl (Oper.wp_mono (fun a' w' h' => ?_) hq)
  have e2 : (l.push false).setIfInBounds ops.size true = l.push true := by
    rw [← hs]
    refine Array.ext_getElem? fun i => ?_
    rw [Array.getElem?_setIfInBounds, Array.getElem?_push, Array.getElem?_push]
    by_cases hi : l.size = i
    · subst hi; simp
    · simp [hi, Ne.symm hi]
  rw [e2]
  exact wpAny_end (ready_done hs h h0) h' _

theorem wpAny_last (h : lastOK md ops o = true) (hin : lastIn md ops.size o = true) : ∀ (fuel : Nat) (l : Array Bool) (a : Act) (w : World), l.size = ops.size →
    wpAny P md ops (postLast P o Q) fuel l a w → wpAny P md (ops.push o) Q (fuel + 1) (l.push false) a w := by
  intro fuel
  induction fuel with
  | zero =>
    intro l a w hs hp
    obtain ⟨h0, hq⟩ := hp
    refine ⟨fun h1 => ?_, fun i hi => ?_⟩
    · have := ready_last hs hin (ready_all hs h h0)
      rw [h1] at this; cases this
    · rcases Nat.lt_or_ge i ops.size with hlt | hge
      · rw [ready_push hs h hlt, h0] at hi; cases hi
      · have ei : i = ops.size := by
          obtain ⟨_, y, hy, _⟩ := mem_ready.1 hi
          have := (Array.getElem?_eq_some_iff.1 hy).1
          simp at this; omega
        subst ei
        exact wpOp_last hs h h0 hq _
  | succ fuel ih =>
    intro l a w hs hp
    obtain ⟨hq, hop⟩ := hp
    refine ⟨fun h1 => ?_, fun i hi => ?_⟩
    · have h0 : Region.ready md ops l = [] := List.eq_nil_iff_forall_not_mem.2 fun j hj => by
        have hjn : j < ops.size := by
          obtain ⟨_, y, hy, _⟩ := mem_ready.1 hj
          exact (Array.getElem?_eq_some_iff.1 hy).1
        have := (ready_push (b := false) hs h hjn).2 hj
        rw [h1] at this; cases this
      have := ready_last hs hin (ready_all hs h h0)
      rw [h1] at this; cases this
    · rcases Nat.lt_or_ge i ops.size with hlt | hge
      · have hi0 := (ready_push hs h hlt).1 hi
        have h1 := hop i hi0
        unfold wpOp at h1 ⊢
        have e : (ops.push o)[i]? = some ops[i] := by simp [Array.getElem?_push, Nat.ne_of_lt hlt, hlt]
        have e0 : ops[i]? = some ops[i] := by simp [hlt]
        simp only [e]
        simp only [e0] at h1
        have hg := (lastOK_at h e0).1
        have hw : ∀ t, Region.wanted ops[i] t = true := fun t => by simp [Region.wanted, hg]
        rw [if_pos (hw _)] at h1 ⊢
        have e2 : (l.push false).setIfInBounds i true = (l.setIfInBounds i true).push false := by
          refine Array.ext_getElem? fun j => ?_
          rw [Array.getElem?_setIfInBounds, Array.getElem?_push, Array.getElem?_push, Array.getElem?_setIfInBounds, Array.size_setIfInBounds, Array.size_push]
          by_cases hj : i = j
          · subst hj
            have h1 : i < l.size := by omega
            have h2 : i < l.size + 1 := by omega
            have h3 : ¬ i = l.size := by omega
            simp [h1, h2, h3]
          · simp [hj]
        rw [e2]
        rcases h1 with h1 | ⟨h1, h2⟩
        · exact .inl (wp_postLast (Oper.wp_mono (fun a' w' h' => ih _ a' w' (by simpa using hs) h') h1))
        · exact .inr ⟨h1, letsOut_postLast h2⟩
      · have ei : i = ops.size := by
          obtain ⟨_, y, hy, _⟩ := mem_ready.1 hi
          have := (Array.getElem?_eq_some_iff.1 hy).1
          simp at this; omega
        subst ei
        have h0 := last_ready hs h hi
        exact wpOp_last hs h h0 (hq h0) _

/-- The law. -/
theorem region_last {id : Nat} {a : Act} {w : World} {S : World → Prop} (hm : P.follows .mixedOrders = true) (h : lastOK .any ops o = true) (hin : lastIn .any ops.size o = true)
    (hp : wpAnyH P .any ops (postLast P o Q) S ops.size (Array.replicate ops.size false) a w.drew) : (Code.region id (ops.push o) true).wp P Q a w := by
  refine wp_region_any hm ?_
  have e1 : (ops.push o).size = ops.size + 1 := by simp
  have e2 : Array.replicate (ops.size + 1) false = (Array.replicate ops.size false).push false := Array.replicate_succ
  rw [e1, e2]
  exact wpAny_last h hin _ _ _ _ (by simp) (wpAny_of_held _ _ _ _ hp)
/-- An operation is taken first; its slot is named. -/
theorem takeH {S : World → Prop} {i : Nat} {oi : Oper} {v : Value} {d : Tmp} {fuel : Nat} {listed : Array Bool} {a : Act} {w : World} (hi : ops[i]? = some oi) (hd : oi.dst = some d)
    (hs : Region.noSelect ops = true) (hf : Region.free md ops listed i = true) (hr : (Region.ready md ops listed).contains i = true)
    (hQ : ∀ c a w, Q (.panic c) (a.put (some d) v) w → Q (.panic c) a w) (hw : Region.wanted oi (yielded ops a.tmps) = true) (hy : ∀ w, S w → (execOp a.eval oi).run P w = .ok (.value v) w) (hS : S w)
    (h : wpAnyH P md ops Q S fuel (listed.setIfInBounds i true) (a.put (some d) v) w) : wpAnyH P md ops Q S (fuel + 1) listed a w :=
  wpAnyH_take hi hs hf hr (by rw [hd]; exact hQ) (.inl ⟨hw, hy⟩) hS (by rw [hd]; exact h)
/-- Just one operation may come up, and is carried out; S is had again behind it. -/
theorem oneH {S : World → Prop} {i : Nat} {oi : Oper} {fuel : Nat} {listed : Array Bool} {a : Act} {w : World} (hi : ops[i]? = some oi) (hr : Region.ready md ops listed = [i]) (hg : oi.guard = none)
    (h : oi.wp P a w (fun a' w' => S w' ∧ wpAnyH P md ops Q S fuel (listed.setIfInBounds i true) a' w') Q) : wpAnyH P md ops Q S (fuel + 1) listed a w := by
  refine wpAnyH_all hr (by simp) fun j hj => ?_
  obtain rfl : j = i := by simpa using hj
  unfold wpOp
  simp only [hi]
  rw [if_pos (by simp [Region.wanted, hg])]
  exact .inl h
/-- A call that leaves the world as it was. -/
theorem call_same {oi : Oper} {a : Act} {w : World} {K : Act → World → Prop} {d : Tmp} {f : FuncId} {xs : Array Operand} {ats : Array TypeId} (hd : oi.dst = some d) (hop : oi.op = Op.call { callee := Callee.value (.func f), args := xs, argTypes := ats })
    (he : ∀ args w, (callFunc f args).run P w = .ok (.enter f args) w) {vs : Array Value} (hxs : xs.map a.eval = vs) {v : Value} (hc : Calls P f vs w fun e w' => e = .returned v ∧ w' = w) (hK : K (a.put (some d) v) w) : oi.wp P a w K Q := by
  unfold Oper.wp
  have hr : (execOp a.eval oi).run P w = .ok (.enter f vs) w := by
    have h2 : xs.map a.eval = vs := hxs
    simp [execOp, hop, resolve, invoke, Act.eval, Deferred.ofValue]
    have h3 := he (xs.map a.eval) w
    rw [h2] at h3
    rw [← h2] at h3 ⊢
    exact h3
  rw [hr, Oper.upon_enter]
  exact hc.mono (by rintro e w' ⟨rfl, rfl⟩; rw [hd]; exact hK)
/-- An append whose run is known. -/
theorem call_append {oi : Oper} {a : Act} {w w' : World} {K : Act → World → Prop} {d : Tmp} {s x : Operand} {t : TypeId} (hd : oi.dst = some d) (hop : oi.op = Op.call { callee := Callee.builtin Builtin.append, args := #[s, x], argTypes := #[t, t] })
    {v v2 v' : Value} (hs : a.eval s = v) (hx : a.eval x = v2) (hrun : (Builtin.append_ #[t, t] oi.type #[v, v2]).run P w = .ok v' w') (hK : K (a.put (some d) v') w') : oi.wp P a w K Q := by
  unfold Oper.wp
  simp [execOp, hop, resolve, invoke, builtin, hs, hx, hrun, Result.andThen]
  rw [Oper.upon_value, hd]
  exact hK
/-- An operation whose run is known. -/
theorem op_run {oi : Oper} {a : Act} {w w' : World} {K : Act → World → Prop} {d : Tmp} {v' : Value} (hd : oi.dst = some d) (hrun : (execOp a.eval oi).run P w = .ok (.value v') w') (hK : K (a.put (some d) v') w') : oi.wp P a w K Q := by
  unfold Oper.wp
  rw [hrun, Oper.upon_value, hd]
  exact hK
/-- The same for a region that is written out. -/
theorem region_lastF {id : Nat} {a : Act} {w : World} {S : World → Prop} (hm : P.follows .mixedOrders = true) (hf : ops.pop.push ops.back! = ops) (h : lastOK .any ops.pop ops.back! = true) (hin : lastIn .any ops.pop.size ops.back! = true)
    (hp : wpAnyH P .any ops.pop (postLast P ops.back! Q) S ops.pop.size (Array.replicate ops.pop.size false) a w.drew) : (Code.region id ops true).wp P Q a w := by
  have := region_last (id := id) hm h hin hp
  rwa [hf] at this
end
end Go.Proofs.Ytacpicnihgggaaa

namespace Go.Proofs.Ytacpicnihgggaaa
set_option maxRecDepth 100000
open Go.RowKit

section
variable {P : Program} {Q : Exit → Act → World → Prop}
/-- A call, its result and its world taken up. -/
theorem call_gets {oi : Oper} {a : Act} {w : World} {K : Act → World → Prop} {d : Tmp} {f : FuncId} {xs : Array Operand} {ats : Array TypeId} (hd : oi.dst = some d) (hop : oi.op = Op.call { callee := Callee.value (.func f), args := xs, argTypes := ats })
    (he : ∀ args w, (callFunc f args).run P w = .ok (.enter f args) w) {vs : Array Value} (hxs : xs.map a.eval = vs) {R : Value → World → Prop} (hc : Calls P f vs w fun e w' => ∃ v, e = .returned v ∧ R v w') (hK : ∀ v w', R v w' → K (a.put (some d) v) w') : oi.wp P a w K Q := by
  unfold Oper.wp
  have hr : (execOp a.eval oi).run P w = .ok (.enter f vs) w := by
    have h2 : xs.map a.eval = vs := hxs
    simp [execOp, hop, resolve, invoke, Act.eval, Deferred.ofValue]
    have h3 := he (xs.map a.eval) w
    rw [h2] at h3
    rw [← h2] at h3 ⊢
    exact h3
  rw [hr, Oper.upon_enter]
  exact hc.mono (by rintro e w' ⟨v, rfl, h⟩; rw [hd]; exact hK _ _ h)
/-- A call that gives up. -/
theorem call_up {oi : Oper} {a : Act} {w : World} {K : Act → World → Prop} {f : FuncId} {xs : Array Operand} {ats : Array TypeId} (hop : oi.op = Op.call { callee := Callee.value (.func f), args := xs, argTypes := ats })
    (he : ∀ args w, (callFunc f args).run P w = .ok (.enter f args) w) {vs : Array Value} (hxs : xs.map a.eval = vs) {R : World → Prop} {c : List PanicEntry} (hc : Calls P f vs w fun e w' => e = .panicked c ∧ R w') (hQ : ∀ w', R w' → Q (.panic c) a w') : oi.wp P a w K Q := by
  unfold Oper.wp
  have hr : (execOp a.eval oi).run P w = .ok (.enter f vs) w := by
    have h2 : xs.map a.eval = vs := hxs
    simp [execOp, hop, resolve, invoke, Act.eval, Deferred.ofValue]
    have h3 := he (xs.map a.eval) w
    rw [h2] at h3
    rw [← h2] at h3 ⊢
    exact h3
  rw [hr, Oper.upon_enter]
  exact hc.mono (by rintro e w' ⟨rfl, h⟩; exact hQ _ h)
end
end Go.Proofs.Ytacpicnihgggaaa

namespace Go.Proofs.Ytacpicnihgggaaa
set_option maxRecDepth 100000
open Go.ChangeShapes Go.WideShapes Go.ChangeAt Go.RowKit

/-- The box of a graph. -/
def GX (w : World) (q : Nat) (n : Int) (v : Value) : Prop := w.heap[q]? = some (.cells #[.int .i64 n, v] 24 (0, 0))
theorem GX.cells {w : World} {q : Nat} {n : Int} {v : Value} (h : GX w q n v) : w.cell? ⟨q, 0, none⟩ = some (.int .i64 n) ∧ w.cell? ⟨q, 1, none⟩ = some v := ⟨by rw [cell_of_row _ _ _ _ _ _ h]; rfl, by rw [cell_of_row _ _ _ _ _ _ h]; rfl⟩
theorem GX.below {w w' : World} {q B : Nat} {n : Int} {v : Value} (h : GX w q n v) (hb : Below B w w') (hB : w.heap.size ≤ B) : GX w' q n v := by
  unfold GX at *
  rw [hb.block q (Nat.lt_of_lt_of_le (Array.getElem?_eq_some_iff.1 h).1 hB)]
  exact h
/-- What Build comes to. -/
def BldP (w w' : World) (r : List Int × Int) (e : Ending) : Prop := ∃ v', e = .returned (.tuple #[v', .int .i64 r.2]) ∧ w'.ownsRow w.heap.size 5 1 v' r.1.length (r.1.map (Value.int .u8)) ∧ Below w.heap.size w w'

set_option maxHeartbeats 4000000 in
set_option maxRecDepth 100000 in
theorem build_any (v : Value) (es : List Ed) (n wk k : Int) (w : World) (h : EdR w v es) :
    Calls Try.prog 9 #[.agg #[.int .i64 n, v], .int .i64 wk, .int .i64 k] w fun e w' => BldP w w' (buildF wk k n es) e := by
  have HR : Hid (EdR w v es) := h
  obtain ⟨a, cap, rfl⟩ := h.shape
  clear h
  have HCK : Hid (∀ X, EdR X (.slice a es.length cap) es → Calls Try.prog 24 #[.agg #[.int .i64 n, .slice a es.length cap]] X fun e w' => ∃ v', e = .returned (.tuple #[.agg #[.int .i64 (okN (faultE n es) n), v'], .int .i64 (faultE n es)]) ∧ w'.ownsRow X.heap.size 67 3 v' (okL (faultE n es) (sortE es)).length ((okL (faultE n es) (sortE es)).flatMap encE) ∧ Below X.heap.size X w') := fun X hX => sorted_any _ es n X hX
  have G0 : Hid (GX (w.alloc (.cells #[.int .i64 n, .slice a es.length cap] 24)) w.heap.size n (.slice a es.length cap) ∧ Below w.heap.size w (w.alloc (.cells #[.int .i64 n, .slice a es.length cap] 24)) ∧ EdR (w.alloc (.cells #[.int .i64 n, .slice a es.length cap] 24)) (.slice a es.length cap) es) := ⟨heap_alloc_new w _, below_alloc _ _, HR.out.below (below_alloc _ _) (Nat.le_refl _)⟩
  by_cases hf : faultE n es = 0
  · rw [hf, okN_yes, okL_yes] at HCK
    have HCR : Hid (∀ X, EdR X (.slice a es.length cap) es → Calls Try.prog 19 #[.agg #[.int .i64 n, .slice a es.length cap]] X fun e w' => ∃ v', e = .returned (.tuple #[.agg #[.int .i64 n, v'], .int .i64 0]) ∧ w'.ownsRow X.heap.size 67 3 v' (sortE (es.map turnE)).length ((sortE (es.map turnE)).flatMap encE) ∧ Below X.heap.size X w') := fun X hX => by
      have := reverse_any (.slice a es.length cap) es n X hX
      rwa [hf, okN_yes, okL_yes] at this
    obtain ⟨hn0, hn1, hle, _⟩ := fault_ok hf
    have HSI : Hid (∀ e ∈ sortE es, 0 ≤ e.1 ∧ e.1 < n) := fun e he => ⟨(sortE_in hf e he).1, (sortE_in hf e he).2.1⟩
    have HTI : Hid (∀ e ∈ sortE (es.map turnE), 0 ≤ e.1 ∧ e.1 < n) := fun e he => ⟨(sortE_in (turn_fault hf) e he).1, (sortE_in (turn_fault hf) e he).2.1⟩
    have HGS : Hid (∀ v, GoodH (hopsL (sortE es) v)) := fun v => good_hops hf v
    have HGT : Hid (∀ v, GoodH (hopsL (sortE (es.map turnE)) v)) := fun v => good_hops (turn_fault hf) v
    have hls : (sortE es).length ≤ 600 := by rw [sortE_len]; exact hle
    have hlt' : (sortE (es.map turnE)).length ≤ 600 := by rw [sortE_len, List.length_map]; exact hle
    have HMN : Hid (∀ X, Calls Try.prog 20 #[.int .i64 wk, .int .i64 n, .int .i64 k] X fun e w' => ∃ v', e = .returned (.tuple #[v', .int .i64 (errO wk k n k)]) ∧ w'.ownsRow X.heap.size 3 1 v' (okL (errO wk k n k) (mineL wk.toNat n.toNat k.toNat)).length ((okL (errO wk k n k) (mineL wk.toNat n.toNat k.toNat)).flatMap encI) ∧ Below X.heap.size X w') := fun X => mine_any wk n k X
    by_cases he : errO wk k n k = 0
    · obtain ⟨⟨_, _, hk1, hk8⟩, hw0, hwk⟩ := errO_inv he
      have HOK : Hid ((payB wk k n es).length ≤ 20000 → buildF wk k n es = (wrap (payB wk k n es), 0)) := build_ok hf he
      have HOV : Hid (¬ (payB wk k n es).length ≤ 20000 → buildF wk k n es = ([], 1)) := build_over hf he
      have HPB : Hid (∀ x ∈ payB wk k n es, 0 ≤ x ∧ x ≤ 255) := payB_bytes hf he
      have HPY : Hid (payB wk k n es = numsB [wk, k, n] ++ bodyB (sortE es) (sortE (es.map turnE)) (mineL wk.toNat n.toNat k.toNat)) := rfl
      have hML : (mineL wk.toNat n.toNat k.toNat).length ≤ 200 := by rw [mineL_len]; exact Nat.le_trans (cnt_le (by omega)) (by omega)
      have HMI : Hid (∀ x ∈ mineL wk.toNat n.toNat k.toNat, 0 ≤ x ∧ x < n) := fun x hx => by
        unfold mineL at hx
        obtain ⟨i, hi, rfl⟩ := List.mem_map.1 hx
        have h1 : i < cntO wk.toNat n.toNat k.toNat := by simpa using hi
        rw [cnt_more (by omega) (by omega)] at h1
        omega
      rw [he, okL_yes] at HMN
      obtain ⟨N, rfl⟩ : ∃ m : Nat, n = m := ⟨n.toNat, by omega⟩
      have HA : Hid (∀ (X : World) (v : Value) (ss : List Ed), EdR X v ss → ss.length ≤ 600 → (∀ e ∈ ss, 0 ≤ e.1 ∧ e.1 < (N : Int)) → Calls Try.prog 25 #[.agg #[.int .i64 (N : Int), v]] X fun e w' => ∃ v', e = .returned v' ∧ OwnLs w' X.heap.size v' (tblF N ss) ∧ Below X.heap.size X w') := fun X v ss h1 h2 h3 => allHops_any v ss N X h1 (by omega) h2 h3
      clear hf he
      generalize buildF wk k N es = res at *
      generalize payB wk k N es = pay at *
      generalize mineL wk.toNat (N : Int).toNat k.toNat = ML at *
      generalize sortE es = ss at *
      generalize sortE (es.map turnE) = tt at *
      go_enter Try.func9, Try.ntmps9
      go_upto_region 1 with fail
      generalize w.alloc (.cells #[.int .i64 (N : Int), .slice a es.length cap] 24) = w0 at *
      obtain ⟨c0, c1⟩ := G0.out.1.cells
      go_wp2_with fail
      refine (HCK.out w0 G0.out.2.2).mono ?_
      rintro e w1 ⟨sv, rfl, hown, hb1⟩
      obtain ⟨sa, sc, rfl⟩ := (RowK.own encE_len hown).shape
      have Q1 : Hid (GX (w1.alloc (.cells #[.int .i64 (N : Int), .slice sa ss.length sc] 24)) w.heap.size N (.slice a es.length cap) ∧ GX (w1.alloc (.cells #[.int .i64 (N : Int), .slice sa ss.length sc] 24)) w1.heap.size N (.slice sa ss.length sc) ∧ EdR (w1.alloc (.cells #[.int .i64 (N : Int), .slice sa ss.length sc] 24)) (.slice sa ss.length sc) ss ∧ EdR (w1.alloc (.cells #[.int .i64 (N : Int), .slice sa ss.length sc] 24)) (.slice a es.length cap) es ∧ Below w.heap.size w (w1.alloc (.cells #[.int .i64 (N : Int), .slice sa ss.length sc] 24))) :=
        ⟨(G0.out.1.below hb1 (Nat.le_refl _)).below (below_alloc _ _) (Nat.le_refl _), heap_alloc_new w1 _, (RowK.own encE_len hown).below (below_alloc _ _) (Nat.le_refl _), (G0.out.2.2.below hb1 (Nat.le_refl _)).below (below_alloc _ _) (Nat.le_refl _), (G0.out.2.1.trans (hb1.mono (by have := G0.out.2.1.size; omega))).alloc (by have := G0.out.2.1.size; have := hb1.size; omega) _⟩
      clear hown hb1 HCK G0 HR c0 c1
      go_upto_region 4 with fail
      generalize w1.alloc (.cells #[.int .i64 (N : Int), .slice sa ss.length sc] 24) = w2 at *
      generalize w1.heap.size = SB at *
      obtain ⟨c0, c1⟩ := Q1.out.1.cells
      go_wp2_with fail
      refine (HMN.out w2).mono ?_
      rintro e w3 ⟨mv, rfl, hown, hb3⟩
      obtain ⟨ma, mc, rfl⟩ := (RowK.own encI_len hown).shape
      have Q2 : Hid (GX w3 w.heap.size N (.slice a es.length cap) ∧ GX w3 SB N (.slice sa ss.length sc) ∧ EdR w3 (.slice sa ss.length sc) ss ∧ EdR w3 (.slice a es.length cap) es ∧ InR w3 (.slice ma ML.length mc) ML ∧ Below w.heap.size w w3) :=
        ⟨Q1.out.1.below hb3 (Nat.le_refl _), Q1.out.2.1.below hb3 (Nat.le_refl _), Q1.out.2.2.1.below hb3 (Nat.le_refl _), Q1.out.2.2.2.1.below hb3 (Nat.le_refl _), RowK.own encI_len hown, Q1.out.2.2.2.2.trans (hb3.mono Q1.out.2.2.2.2.size)⟩
      clear hown hb3 Q1 HMN c0 c1
      obtain ⟨c0, c1⟩ := Q2.out.1.cells
      go_wp2_with fail
      refine (HCR.out w3 Q2.out.2.2.2.1).mono ?_
      rintro e w4 ⟨rv, rfl, hown, hb4⟩
      obtain ⟨ra, rc, rfl⟩ := (RowK.own encE_len hown).shape
      have Q3 : Hid (GX (w4.alloc (.cells #[.int .i64 (N : Int), .slice ra tt.length rc] 24)) w.heap.size N (.slice a es.length cap) ∧ GX (w4.alloc (.cells #[.int .i64 (N : Int), .slice ra tt.length rc] 24)) SB N (.slice sa ss.length sc) ∧ GX (w4.alloc (.cells #[.int .i64 (N : Int), .slice ra tt.length rc] 24)) w4.heap.size N (.slice ra tt.length rc) ∧ EdR (w4.alloc (.cells #[.int .i64 (N : Int), .slice ra tt.length rc] 24)) (.slice sa ss.length sc) ss ∧ EdR (w4.alloc (.cells #[.int .i64 (N : Int), .slice ra tt.length rc] 24)) (.slice ra tt.length rc) tt ∧ InR (w4.alloc (.cells #[.int .i64 (N : Int), .slice ra tt.length rc] 24)) (.slice ma ML.length mc) ML ∧ Below w.heap.size w (w4.alloc (.cells #[.int .i64 (N : Int), .slice ra tt.length rc] 24))) :=
        ⟨(Q2.out.1.below hb4 (Nat.le_refl _)).below (below_alloc _ _) (Nat.le_refl _), (Q2.out.2.1.below hb4 (Nat.le_refl _)).below (below_alloc _ _) (Nat.le_refl _), heap_alloc_new w4 _, (Q2.out.2.2.1.below hb4 (Nat.le_refl _)).below (below_alloc _ _) (Nat.le_refl _), (RowK.own encE_len hown).below (below_alloc _ _) (Nat.le_refl _), (Q2.out.2.2.2.2.1.below hb4 (Nat.le_refl _)).below (below_alloc _ _) (Nat.le_refl _), (Q2.out.2.2.2.2.2.trans (hb4.mono Q2.out.2.2.2.2.2.size)).alloc (Nat.le_trans Q2.out.2.2.2.2.2.size hb4.size) _⟩
      clear hown hb4 Q2 HCR c0 c1
      go_upto_region 8 with fail
      generalize w4.alloc (.cells #[.int .i64 (N : Int), .slice ra tt.length rc] 24) = w5 at *
      generalize w4.heap.size = RB at *
      have KS : Hid (∀ V, Below w5.heap.size w5 V → V.cell? ⟨SB, 0, none⟩ = some (.int .i64 (N : Int)) ∧ V.cell? ⟨SB, 1, none⟩ = some (.slice sa ss.length sc) ∧ V.cell? ⟨RB, 0, none⟩ = some (.int .i64 (N : Int)) ∧ V.cell? ⟨RB, 1, none⟩ = some (.slice ra tt.length rc)) := fun V hV => ⟨(Q3.out.2.1.below hV (Nat.le_refl _)).cells.1, (Q3.out.2.1.below hV (Nat.le_refl _)).cells.2, (Q3.out.2.2.1.below hV (Nat.le_refl _)).cells.1, (Q3.out.2.2.1.below hV (Nat.le_refl _)).cells.2⟩
      have HSD : Hid (w5.drew.cell? ⟨SB, 0, none⟩ = some (.int .i64 (N : Int)) ∧ w5.drew.cell? ⟨SB, 1, none⟩ = some (.slice sa ss.length sc) ∧ w5.drew.cell? ⟨RB, 0, none⟩ = some (.int .i64 (N : Int)) ∧ w5.drew.cell? ⟨RB, 1, none⟩ = some (.slice ra tt.length rc)) := KS.out _ (Below.refl _ _).drew
      have epk : ∀ args w, (callFunc 25 args).run Try.prog w = .ok (.enter 25 args) w := enters_of Try.func25 (by kernel_rfl) rfl
      refine wp_region_held (S := fun V => V.cell? ⟨SB, 0, none⟩ = some (.int .i64 (N : Int)) ∧ V.cell? ⟨SB, 1, none⟩ = some (.slice sa ss.length sc) ∧ V.cell? ⟨RB, 0, none⟩ = some (.int .i64 (N : Int)) ∧ V.cell? ⟨RB, 1, none⟩ = some (.slice ra tt.length rc)) (by kernel_rfl) ?_
      simp only [List.size_toArray, List.length_cons, List.length_nil, Nat.reduceAdd]
      refine takeH (i := 0) (v := .agg #[.int .i64 (N : Int), .slice sa ss.length sc]) (d := 42) rfl rfl (by kernel_rfl) (by kernel_rfl) (by kernel_rfl) (fun _ _ _ h => h) (by rfl) (fun V hV => by obtain ⟨v1, v2, v3, v4⟩ := hV; go_simp) HSD.out ?_
      simp only [Act.put, List.setIfInBounds_toArray, List.set_cons_zero, List.set_cons_succ]
      refine takeH (i := 2) (v := .agg #[.int .i64 (N : Int), .slice ra tt.length rc]) (d := 44) rfl rfl (by kernel_rfl) (by kernel_rfl) (by kernel_rfl) (fun _ _ _ h => h) (by rfl) (fun V hV => by obtain ⟨v1, v2, v3, v4⟩ := hV; go_simp) HSD.out ?_
      simp only [Act.put, List.setIfInBounds_toArray, List.set_cons_zero, List.set_cons_succ]
      refine oneH (i := 1) rfl (by kernel_rfl) rfl (call_gets (d := 43) (f := 25) (xs := #[.tmp 42]) (ats := #[24]) rfl rfl epk (vs := #[.agg #[.int .i64 (N : Int), .slice sa ss.length sc]]) (by simp [Act.eval]) (HA.out _ _ ss (Q3.out.2.2.2.1.below (Below.refl _ _).drew (Nat.le_refl _)) hls HSI.out) ?_)
      rintro fv w6 ⟨hfo, hb6⟩
      have B6 : Below w5.heap.size w5 w6 := below_undrew hb6
      refine ⟨KS.out _ B6, ?_⟩
      simp only [Act.put, List.setIfInBounds_toArray, List.set_cons_zero, List.set_cons_succ]
      refine oneH (i := 3) rfl (by kernel_rfl) rfl (call_gets (d := 45) (f := 25) (xs := #[.tmp 44]) (ats := #[24]) rfl rfl epk (vs := #[.agg #[.int .i64 (N : Int), .slice ra tt.length rc]]) (by simp [Act.eval]) (HA.out _ _ tt (Q3.out.2.2.2.2.1.below B6 (Nat.le_refl _)) hlt' HTI.out) ?_)
      rintro bv w7 ⟨hbo, hb7⟩
      have B7 : Below w5.heap.size w5 w7 := B6.trans (hb7.mono B6.size)
      refine ⟨KS.out _ B7, ?_⟩
      simp only [Act.put, List.setIfInBounds_toArray, List.set_cons_zero, List.set_cons_succ]
      refine takeH (i := 4) (v := fv) (d := 13) rfl rfl (by kernel_rfl) (by kernel_rfl) (by kernel_rfl) (fun _ _ _ h => h) (by rfl) (fun V hV => by obtain ⟨v1, v2, v3, v4⟩ := hV; go_simp) (KS.out _ B7) ?_
      simp only [Act.put, List.setIfInBounds_toArray, List.set_cons_zero, List.set_cons_succ]
      refine takeH (i := 5) (v := bv) (d := 14) rfl rfl (by kernel_rfl) (by kernel_rfl) (by kernel_rfl) (fun _ _ _ h => h) (by rfl) (fun V hV => by obtain ⟨v1, v2, v3, v4⟩ := hV; go_simp) (KS.out _ B7) ?_
      simp only [Act.put, List.setIfInBounds_toArray, List.set_cons_zero, List.set_cons_succ]
      refine wpAnyH_done (by kernel_rfl) ?_ _
      have Q4 : Hid (GX w7 w.heap.size N (.slice a es.length cap) ∧ LsR w7 fv (tblF N ss) ∧ LsR w7 bv (tblF N tt) ∧ InR w7 (.slice ma ML.length mc) ML ∧ Below w.heap.size w w7) := ⟨Q3.out.1.below B7 (Nat.le_refl _), hfo.reads.below hb7 (Nat.le_refl _), hbo.reads, Q3.out.2.2.2.2.2.1.below B7 (Nat.le_refl _), Q3.out.2.2.2.2.2.2.trans (B7.mono Q3.out.2.2.2.2.2.2.size)⟩
      obtain ⟨fa, fc, rfl⟩ : ∃ a c, fv = .slice a (tblF N ss).length c := by obtain ⟨a, c, e, _⟩ := hfo.reads; exact ⟨a, c, e⟩
      obtain ⟨ba, bc, rfl⟩ : ∃ a c, bv = .slice a (tblF N tt).length c := by obtain ⟨a, c, e, _⟩ := hbo.reads; exact ⟨a, c, e⟩
      clear hfo hb6 hbo hb7 B6 B7 KS HSD HA Q3
      show Exit.then _ _ _ _ _
      obtain ⟨c0, c1⟩ := Q4.out.1.cells
      have hs7 := Q4.out.2.2.2.2.size
      go_wp2_with fail
      have Q5 : Hid (LsR (w7.alloc (.cells #[.int .i64 wk, .int .i64 k, .int .i64 (N : Int)] 3)) (.slice fa (tblF N ss).length fc) (tblF N ss) ∧ LsR (w7.alloc (.cells #[.int .i64 wk, .int .i64 k, .int .i64 (N : Int)] 3)) (.slice ba (tblF N tt).length bc) (tblF N tt) ∧ InR (w7.alloc (.cells #[.int .i64 wk, .int .i64 k, .int .i64 (N : Int)] 3)) (.slice ma ML.length mc) ML ∧ Below w.heap.size w (w7.alloc (.cells #[.int .i64 wk, .int .i64 k, .int .i64 (N : Int)] 3)) ∧ (w7.alloc (.cells #[.int .i64 wk, .int .i64 k, .int .i64 (N : Int)] 3)).ownsRow w7.heap.size 3 1 (.slice (some ⟨w7.heap.size, 0, none⟩) 3 3) [wk, k, (N : Int)].length ([wk, k, (N : Int)].flatMap encI)) :=
        ⟨Q4.out.2.1.below (below_alloc _ _) (Nat.le_refl _), Q4.out.2.2.1.below (below_alloc _ _) (Nat.le_refl _), Q4.out.2.2.2.1.below (below_alloc _ _) (Nat.le_refl _), Q4.out.2.2.2.2.alloc hs7 _, rfl, .inr ⟨w7.heap.size, 3, #[.int .i64 wk, .int .i64 k, .int .i64 (N : Int)], rfl, Nat.le_refl _, heap_alloc_new w7 _, by simp, by simp [maxLen], by simp, rfl⟩⟩
      generalize (w7.alloc (.cells #[.int .i64 wk, .int .i64 k, .int .i64 (N : Int)] 3)) = w8 at *
      generalize w7.heap.size = NB at *
      have hs8 := Q5.out.2.2.2.1.size
      have hN3 : ∀ m ∈ [wk, k, (N : Int)], 0 ≤ m ∧ m ≤ 1099511627776 := fun m hm => by simp only [List.mem_cons, List.not_mem_nil, or_false] at hm; omega
      clear c0 c1 Q4
      refine (appendNumbers_any w8.heap.size NB _ _ [] [wk, k, (N : Int)] w8 (World.ownsRow_nil _ _ _ _) Q5.out.2.2.2.2 hN3 (by simp) (Nat.le_refl _)).mono ?_
      rintro e w9 ⟨nv, rfl, hown9, hb9⟩
      have O9 : Hid (w9.ownsRow w8.heap.size 5 1 nv (numsB [wk, k, (N : Int)]).length ((numsB [wk, k, (N : Int)]).map (Value.int .u8))) := by
        show World.ownsRow _ _ _ _ _ _ _
        simpa using hown9
      have B9 : Hid (Below w8.heap.size w8 w9) := hb9
      have hP0 : (numsB [wk, k, (N : Int)]).length ≤ 30 := by have := numsB_len [wk, k, (N : Int)]; simpa using this
      clear hown9 hb9 hN3
      generalize numsB [wk, k, (N : Int)] = P0 at *
      generalize hBS : w8.heap.size = BS at *
      have hmc : mc ≤ maxLen := by obtain ⟨_, _, e, _, h, _⟩ := Q5.out.2.2.1; injection e with _ _ e3; rw [e3]; exact h
      unfold maxLen at hmc
      go_wp2_with fail
      go_loopw [15, 54] (fun s i wr => ∃ kk : Nat, kk ≤ ML.length ∧ i = .int .i64 kk ∧ wr.ownsRow BS 5 1 s (P0 ++ bodyB ss tt (ML.take kk)).length ((P0 ++ bodyB ss tt (ML.take kk)).map (Value.int .u8)) ∧ Below BS w8 wr) (fun _ i _ => ML.length - (intOf i).toNat)
      case atStart => exact ⟨0, by omega, rfl, by simpa [bodyB] using O9.out, B9.out⟩
      case round =>
        obtain ⟨kk, hkk, rfl, hown, hbel⟩ := hrel
        have OW : Hid (wr.ownsRow BS 5 1 u15 (P0 ++ bodyB ss tt (ML.take kk)).length ((P0 ++ bodyB ss tt (ML.take kk)).map (Value.int .u8))) := hown
        have HB : Hid (Below BS w8 wr) := hbel
        have hsr : BS ≤ wr.heap.size := by have := hbel.size; omega
        clear hown hbel O9 B9
        by_cases hlt : kk < ML.length
        · obtain ⟨x, hx⟩ := getX hlt
          have hxi := HMI.out x (List.mem_of_getElem? hx)
          obtain ⟨j, rfl⟩ : ∃ j : Nat, x = j := ⟨x.toNat, by omega⟩
          have HT : Hid (P0 ++ bodyB ss tt (ML.take (kk + 1)) = (P0 ++ bodyB ss tt (ML.take kk)) ++ hopsB (hopsL ss (j : Int)) ++ hopsB (hopsL tt (j : Int))) := by show _ = _; rw [take_snoc hx, bodyB_snoc]; simp
          have hbl := bodyB_len hls hlt' (ML.take kk)
          have hbl2 : (P0 ++ bodyB ss tt (ML.take kk)).length ≤ 5000000 := by rw [List.length_append]; rw [List.length_take] at hbl; omega
          obtain ⟨mb, mo, mc', e1, _, _, mlt, hmv⟩ := InR.at (Q5.out.2.2.1.below HB.out (by omega)) (by omega)
          injection e1 with e1 _ e3
          subst e1 e3
          have d1 := hmv kk (j : Int) hx
          have htl : (tblF N ss).length = N := by simp [tblF]
          have htl2 : (tblF N tt).length = N := by simp [tblF]
          have hjN : j < N := by omega
          obtain ⟨fb, fo, fc', e1, flt, _, _, hfv⟩ := (Q5.out.1.below HB.out (by omega)).at (by omega)
          injection e1 with e1 _ e3
          subst e1 e3
          obtain ⟨fu, f1, f2⟩ := hfv j _ (tblF_at hjN)
          obtain ⟨fua, fuc, rfl⟩ := f2.shape
          have F2 : Hid (HpR wr (.slice fua (hopsL ss (j : Int)).length fuc) (hopsL ss (j : Int))) := f2
          have hhl := hops_len ss (j : Int)
          have hhl2 := hops_len tt (j : Int)
          have HGJ : Hid (GoodH (hopsL ss (j : Int))) := HGS.out _
          have HGJ2 : Hid (GoodH (hopsL tt (j : Int))) := HGT.out _
          have i1 : (0 : Int) ≤ (kk : Int) := by omega
          have i2 : (kk : Int) < (ML.length : Int) := by omega
          have i3 : (0 : Int) ≤ (j : Int) := by omega
          have i4 : (j : Int) < ((tblF N ss).length : Int) := by omega
          have i5 : (j : Int) < ((tblF N tt).length : Int) := by omega
          have hhs1 := hopsB_len (hopsL ss (j : Int))
          have hpos2 : 0 < (tblF N tt).length := by omega
          clear hmv hfv f2 hx hbl htl htl2
          generalize P0 ++ bodyB ss tt (ML.take kk) = acc at *
          go_wp2_with fail
          refine (appendHops_any BS _ _ acc (hopsL ss (j : Int)) wr OW.out F2.out HGJ.out (by omega) hsr).mono ?_
          rintro e w10 ⟨v10, rfl, hown10, hb10⟩
          have O10 : Hid (w10.ownsRow BS 5 1 v10 (acc ++ hopsB (hopsL ss (j : Int))).length ((acc ++ hopsB (hopsL ss (j : Int))).map (Value.int .u8))) := hown10
          have HB10 : Hid (Below BS w8 w10) := HB.out.trans hb10
          have hs10 : BS ≤ w10.heap.size := by have := HB10.out.size; omega
          have hal : (acc ++ hopsB (hopsL ss (j : Int))).length ≤ 6000000 := by rw [List.length_append]; omega
          obtain ⟨gb, go', gc', e1, glt, _, _, hgv⟩ := (Q5.out.2.1.below HB10.out (by omega)).at (by omega)
          injection e1 with e1 _ e3
          subst e1 e3
          obtain ⟨gu, g1, g2⟩ := hgv j _ (tblF_at hjN)
          obtain ⟨gua, guc, rfl⟩ := g2.shape
          have G2 : Hid (HpR w10 (.slice gua (hopsL tt (j : Int)).length guc) (hopsL tt (j : Int))) := g2
          clear hown10 hb10 OW HB d1 f1 F2 hgv g2
          generalize hopsB (hopsL ss (j : Int)) = A1 at *
          generalize hacc : acc ++ A1 = acc2 at *
          go_wp2_with fail
          refine (appendHops_any BS _ _ acc2 (hopsL tt (j : Int)) w10 O10.out G2.out HGJ2.out (by omega) hs10).mono ?_
          rintro e w11 ⟨v11, rfl, hown11, hb11⟩
          have O11 : Hid (w11.ownsRow BS 5 1 v11 (P0 ++ bodyB ss tt (ML.take (kk + 1))).length ((P0 ++ bodyB ss tt (ML.take (kk + 1))).map (Value.int .u8))) := by
            show World.ownsRow _ _ _ _ _ _ _
            rw [HT.out]; exact hown11
          have HB11 : Hid (Below BS w8 w11) := HB10.out.trans hb11
          clear hown11 hb11 O10 HB10 g1
          go_wp2_with fail
          go_roundw
          case rel => exact ⟨kk + 1, by omega, by go_num, O11.out, HB11.out⟩
          case measure => simp [intOf]; omega
        · have ek : ML.take kk = ML := List.take_of_length_le (by omega)
          rw [ek, ← HPY.out] at OW
          have RP : Hid (Reads .u8 wr u15 pay) := reads_own OW.out
          obtain ⟨pa, pc, e, _⟩ := RP.out
          subst e
          clear ek OW
          have HBW : Hid (Below w.heap.size w wr) := Q5.out.2.2.2.1.trans (HB.out.mono (by omega))
          have hsw := HBW.out.size
          by_cases hpl : pay.length ≤ 20000
          · have hr := HOK.out hpl
            subst hr
            go_wp2_with fail
            refine (wrap_any _ pay wr RP.out HPB.out hpl).mono ?_
            rintro e w12 ⟨v12, rfl, hown12, hb12⟩
            have O12 : Hid (w12.ownsRow w.heap.size 5 1 v12 (wrap pay).length ((wrap pay).map (Value.int .u8))) := own_lower hown12 hsw
            have HB12 : Hid (Below w.heap.size w w12) := HBW.out.trans (hb12.mono hsw)
            clear hown12 hb12
            go_wp2_with fail
            go_ret2
            exact ⟨_, rfl, O12.out, HB12.out⟩
          · have hr := HOV.out hpl
            subst hr
            go_wp2_with fail
            refine (wrap_over _ pay.length _ wr (by omega)).mono ?_
            rintro e w12 ⟨rfl, rfl⟩
            go_wp2_with fail
            go_ret2
            exact ⟨_, rfl, World.ownsRow_nil _ _ _ _, HBW.out⟩
    · have hr : buildF wk k n es = ([], errO wk k n k) := build_err hf he
      have hne : (errO wk k n k != 0) = true := by simpa using he
      rw [hr]
      rw [okL_no he] at HMN
      generalize errO wk k n k = fe at *
      clear hr he hf HCR HSI HTI HGS HGT
      generalize sortE es = ss at *
      go_enter Try.func9, Try.ntmps9
      go_upto_region 1 with fail
      generalize w.alloc (.cells #[.int .i64 n, .slice a es.length cap] 24) = w0 at *
      obtain ⟨c0, c1⟩ := G0.out.1.cells
      go_wp2_with fail
      refine (HCK.out w0 G0.out.2.2).mono ?_
      rintro e w1 ⟨sv, rfl, hown, hb1⟩
      obtain ⟨sa, sc, rfl⟩ := (RowK.own encE_len hown).shape
      have Q1 : Hid (GX (w1.alloc (.cells #[.int .i64 n, .slice sa ss.length sc] 24)) w.heap.size n (.slice a es.length cap) ∧ Below w.heap.size w (w1.alloc (.cells #[.int .i64 n, .slice sa ss.length sc] 24))) :=
        ⟨(G0.out.1.below hb1 (Nat.le_refl _)).below (below_alloc _ _) (Nat.le_refl _), (G0.out.2.1.trans (hb1.mono (by have := G0.out.2.1.size; omega))).alloc (by have := G0.out.2.1.size; have := hb1.size; omega) _⟩
      clear hown hb1 HCK G0 HR c0 c1
      go_upto_region 4 with fail
      generalize w1.alloc (.cells #[.int .i64 n, .slice sa ss.length sc] 24) = w2 at *
      obtain ⟨c0, c1⟩ := Q1.out.1.cells
      go_wp2_with fail
      refine (HMN.out w2).mono ?_
      rintro e w3 ⟨mv, rfl, hown, hb3⟩
      obtain ⟨ma, mc, rfl⟩ := (RowK.own encI_len hown).shape
      have Q2 : Hid (Below w.heap.size w w3) := Q1.out.2.trans (hb3.mono Q1.out.2.size)
      clear hown hb3
      go_wp2_with fail
      go_ret2
      exact ⟨_, rfl, World.ownsRow_nil _ _ _ _, Q2.out⟩
  · have hr : buildF wk k n es = ([], faultE n es) := build_fault hf
    have hne : (faultE n es != 0) = true := by simpa using hf
    rw [hr]
    rw [okN_no hf, okL_no hf] at HCK
    generalize faultE n es = fe at *
    clear hr hf
    go_enter Try.func9, Try.ntmps9
    go_upto_region 1 with fail
    generalize w.alloc (.cells #[.int .i64 n, .slice a es.length cap] 24) = w0 at *
    obtain ⟨c0, c1⟩ := G0.out.1.cells
    go_wp2_with fail
    refine (HCK.out w0 G0.out.2.2).mono ?_
    rintro e w1 ⟨sv, rfl, hown, hb1⟩
    obtain ⟨sa, sc, rfl⟩ := (RowK.own encE_len hown).shape
    have Q1 : Hid (Below w.heap.size w (w1.alloc (.cells #[.int .i64 0, .slice sa ([] : List Ed).length sc] 24))) := (G0.out.2.1.trans (hb1.mono (by have := G0.out.2.1.size; omega))).alloc (by have := G0.out.2.1.size; have := hb1.size; omega) _
    clear hown hb1
    go_wp2_with fail
    go_ret2
    exact ⟨_, rfl, World.ownsRow_nil _ _ _ _, Q1.out⟩
end Go.Proofs.Ytacpicnihgggaaa

namespace Go.Proofs.Ytacpicnihgggaaa
open Go.ChangeShapes Go.WideShapes Go.ChangeAt Go.RowKit

set_option maxHeartbeats 800000 in
theorem packed_any (f : Nat) : ∀ (n : Int) (w : World), 0 ≤ n → n < 128 ^ (f + 1) → n ≤ 18446744073709551615 →
    Calls Try.prog 31 #[.int .u64 n] w fun e w' =>
      ∃ v', e = .returned v' ∧ w'.ownsRow w.heap.size 5 1 v' (put n).length ((put n).map (Value.int .u8)) ∧ Below w.heap.size w w' := by
  obtain ⟨i0, hi, hz0, hz1, hz2⟩ := info_parts Try.info5
  induction f with
  | zero =>
    intro n w h0 hf h1
    have hn : n < 128 := by simpa using hf
    clear hf
    go_enter Try.func31, Try.ntmps31
    go_wp2_with fail
    go_ret
    refine ⟨_, rfl, ?_, ?_⟩
    · rw [put_small hn]; exact own_new w _ (Nat.le_refl _) n
    · exact (Below.refl _ _).alloc (Nat.le_refl _) _
  | succ f ih =>
    intro n w h0 hf h1
    by_cases hn : n < 128
    · clear hf ih
      go_enter Try.func31, Try.ntmps31
      go_wp2_with fail
      go_ret
      refine ⟨_, rfl, ?_, ?_⟩
      · rw [put_small hn]; exact own_new w _ (Nat.le_refl _) n
      · exact (Below.refl _ _).alloc (Nat.le_refl _) _
    · have hd : n / 128 < 128 ^ (f + 1) := div128_lt (by rw [p128] at hf; exact hf)
      have IH := ih (n / 128) (w.alloc (.cells #[.int .u8 (n % 128 + 128)] 5)) (by omega) hd (by omega)
      have HI : Hid (Calls Try.prog 31 #[.int .u64 (n / 128)] (w.alloc (.cells #[.int .u8 (n % 128 + 128)] 5)) _) := IH
      clear IH ih hf hd
      go_enter Try.func31, Try.ntmps31
      go_wp2_with fail
      refine HI.out.mono ?_
      rintro e w1 ⟨v1, rfl, hown1, hbel1⟩
      have hl := put_len (n / 128)
      have hb1 : Below w.heap.size w w1 := ((Below.refl _ _).alloc (Nat.le_refl _) _).trans (hbel1.mono (by simp))
      have own0 := own_below (own_new w w.heap.size (Nat.le_refl _) (n % 128 + 128)) hbel1 (Nat.le_refl _)
      obtain ⟨g, cap, rfl, hg, hg2, hc, hm, hcell⟩ := own_shape hown1 (by omega)
      have hsz := hb1.size
      have HC : Hid (∀ (j : Nat) (u : Value), (List.map (Value.int IntKind.u8) (put (n / 128)))[j]? = some u → w1.cell? ((⟨g, 0, none⟩ : Addr).add j) = some u) := hcell
      clear HI hown1 hbel1 hcell
      go_wp2_with (at_builtin; refine wpList_append_own _ rfl _ _ 26 rfl w.heap.size 5 i0 (.int .u8 0) 1 1 Try.underlying26 hi hz0 hz1 hz2 rfl (by decide) _ _ _ rfl own0 ⟨g, 0, none⟩ (put (n / 128)).length cap ((put (n / 128)).map (Value.int .u8)) rfl (by simp) HC.out (bytes_oneCell _) ?d3 ?d4 ?d5 ?_)
      case d3 => unfold maxLen; simp; omega
      case d4 => simp; omega
      case d5 => first | omega | (simp; omega)
      intro v' w2 hown' hgrow _
      have hbel2 : Below w.heap.size w w2 := hb1.grown hgrow hsz (fun k hk => by simp [Value.ownBlock] at hk; omega)
      clear HC own0
      go_wp2
      go_ret
      exact ⟨v', rfl, by rw [put_big (by omega) h1]; simpa [Nat.add_comm] using hown', hbel2⟩
end Go.Proofs.Ytacpicnihgggaaa

namespace Go.Proofs.Ytacpicnihgggaaa
open Go.ChangeShapes Go.WideShapes Go.ChangeAt Go.RowKit


def inV (n : Int) : Bool := decide (0 ≤ n ∧ n ≤ 1152921504606846976)
theorem inV_yes {n : Int} (h : 0 ≤ n ∧ n ≤ 1152921504606846976) : inV n = true := by simp [inV, h]
theorem inV_no {n : Int} (h : ¬ (0 ≤ n ∧ n ≤ 1152921504606846976)) : inV n = false := by simp only [inV, decide_eq_false_iff_not]; exact h

set_option maxHeartbeats 400000 in
theorem inV_any (n : Int) (w : World) : Calls Try.prog 54 #[.int .i64 n, .int .i64 0, .int .i64 1152921504606846976] w fun e w' => e = .returned (.bool (inV n)) ∧ w' = w := by
  by_cases h : 0 ≤ n
  · by_cases h2 : n ≤ 1152921504606846976
    · have H : Hid (inV n = true) := inV_yes ⟨h, h2⟩
      go_enter Try.func54, Try.ntmps54
      go_wp2
      go_ret
      exact ⟨ret_bool H.out.symm, rfl⟩
    · have H : Hid (inV n = false) := inV_no (by omega)
      go_enter Try.func54, Try.ntmps54
      go_wp2
      go_ret
      exact ⟨ret_bool H.out.symm, rfl⟩
  · have H : Hid (inV n = false) := inV_no (by omega)
    go_enter Try.func54, Try.ntmps54
    go_wp2
    go_ret
    exact ⟨ret_bool H.out.symm, rfl⟩

set_option maxHeartbeats 1600000 in
set_option maxRecDepth 100000 in
theorem gapsOf_row (a : Option Addr) (cap : Nat) (xs : List Int) (w : World) (h : Reads .i64 w (.slice a xs.length cap) xs) :
    Calls Try.prog 56 #[.slice a xs.length cap] w fun e w' =>
      ∃ c v', e = .returned (.tuple #[v', .int .i64 c]) ∧ Named xs c ∧ w'.ownsRow w.heap.size 5 1 v' (gapsF xs c).length ((gapsF xs c).map (Value.int .u8)) ∧ Below w.heap.size w w' := by
  have HR : Hid (Reads .i64 w (.slice a xs.length cap) xs) := h
  have hm : xs.length ≤ maxLen := by obtain ⟨a', c', hv, h1, h2, _⟩ := h; omega
  unfold maxLen at hm
  clear h
  obtain ⟨i0, hi, hz0, hz1, hz2⟩ := info_parts Try.info5
  by_cases hl : 2000 < xs.length
  · have HN : Hid (Named xs 1) := .inl ⟨rfl, hl⟩
    have HF : Hid (gapsF xs 1 = []) := rfl
    go_enter Try.func56, Try.ntmps56
    go_wp2_with fail
    go_ret2
    exact ⟨1, _, rfl, HN.out, by rw [HF.out]; exact World.ownsRow_nil _ _ _ _, Below.refl _ _⟩
  · have hl2 : xs.length ≤ 2000 := by omega
    clear hl
    go_enter Try.func56, Try.ntmps56
    go_wp2_with fail
    go_loop [4] (fun i => ∃ k : Nat, k ≤ xs.length ∧ i = .int .i64 k ∧ (∀ i, i < k → 0 ≤ xs.getD i 0 ∧ xs.getD i 0 ≤ 1152921504606846976)) (fun i => xs.length - (intOf i).toNat)
    case atStart => exact ⟨0, by omega, rfl, fun i hi => by omega⟩
    case round =>
      obtain ⟨k, hk, rfl, hs⟩ := hrel
      have HS : Hid (∀ i, i < k → 0 ≤ xs.getD i 0 ∧ xs.getD i 0 ≤ 1152921504606846976) := hs
      clear hs
      by_cases hlt : k < xs.length
      · obtain ⟨b, off, cap', hv, _, _, hb, hcell⟩ := HR.out.plain (by omega)
        injection hv with hv1 hv2 hv3
        subst hv1 hv3
        have d1 := hcell k hlt
        have HN : Hid (0 ≤ xs.getD k 0 ∧ xs.getD k 0 ≤ 1152921504606846976 → ∀ i, i < k + 1 → 0 ≤ xs.getD i 0 ∧ xs.getD i 0 ≤ 1152921504606846976) := fun h i hi => by
          by_cases e : i = k
          · rw [e]; exact h
          · exact HS.out i (by omega)
        have HF : Hid (¬ (0 ≤ xs.getD k 0 ∧ xs.getD k 0 ≤ 1152921504606846976) → Named xs 2) := fun h => .inr (.inl ⟨rfl, hl2, fun h2 => h (h2 k hlt)⟩)
        have HZ : Hid (gapsF xs 2 = []) := rfl
        clear hcell hv2
        generalize xs.getD k 0 = x at *
        go_wp2_with fail
        refine (inV_any x _).mono ?_
        rintro e w' ⟨rfl, rfl⟩
        by_cases hx : 0 ≤ x ∧ x ≤ 1152921504606846976
        · have HN2 : Hid _ := HN.out hx
          rw [inV_yes hx]
          clear hx
          go_wp2_with fail
          go_round
          case rel => exact ⟨k + 1, by omega, by go_num, HN2.out⟩
          case measure => simp [intOf]; omega
        · have HF2 : Hid (Named xs 2) := HF.out hx
          rw [inV_no hx]
          clear hx
          go_wp2_with fail
          go_ret2
          exact ⟨2, _, rfl, HF2.out, by rw [HZ.out]; exact World.ownsRow_nil _ _ _ _, Below.refl _ _⟩
      · have HA : Hid (AllIn xs) := fun i hi => HS.out i (by omega)
        clear HS
        go_wp2_with fail
        refine (packed_any 9 _ _ (by omega) (lt_128_10 (by omega)) (by omega)).mono ?_
        rintro e w2 ⟨v2, rfl, hown2, hb2⟩
        have HO : Hid (w2.ownsRow w.heap.size 5 1 v2 (put xs.length).length ((put xs.length).map (Value.int .u8))) := hown2
        clear hown2
        go_wp2_with fail
        go_loopw [5, 6] (fun v i wr => ∃ k : Nat, k ≤ xs.length ∧ i = .int .i64 k ∧ (∀ i, i + 1 < k → xs.getD i 0 ≤ xs.getD (i + 1) 0) ∧ wr.ownsRow w.heap.size 5 1 v (put xs.length ++ gapsTo xs k).length ((put xs.length ++ gapsTo xs k).map (Value.int .u8)) ∧ Below w.heap.size w wr) (fun _ i _ => xs.length - (intOf i).toNat)
        case atStart => exact ⟨0, by omega, rfl, fun i hi => by omega, by simpa [gapsTo] using HO.out, hb2⟩
        case round =>
          obtain ⟨t, ht, rfl, hs, hown, hbel⟩ := hrel
          have HS : Hid (∀ i, i + 1 < t → xs.getD i 0 ≤ xs.getD (i + 1) 0) := hs
          have HW : Hid (wr.ownsRow w.heap.size 5 1 _ (put xs.length ++ gapsTo xs t).length ((put xs.length ++ gapsTo xs t).map (Value.int .u8))) := hown
          have hsz := hbel.size
          clear hs hown
          by_cases htl : t < xs.length
          · obtain ⟨b, off, cap', hv, _, _, hb, hcell⟩ := HR.out.plain (by omega)
            injection hv with hv1 hv2 hv3
            subst hv1 hv3
            have d1 : wr.cell? ⟨b, off + t, none⟩ = some (.int .i64 (xs.getD t 0)) := (hbel.cell (by exact hb)).trans (hcell t htl)
            have hx := HA.out t htl
            have hlen : (put xs.length ++ gapsTo xs t).length ≤ 20010 := by
              have := put_len xs.length
              have := gapsTo_len xs t
              rw [List.length_append]; omega
            have HL : Hid ((put xs.length ++ gapsTo xs t).length ≤ 20010) := hlen
            have HG : Hid (put xs.length ++ gapsTo xs (t + 1) = (put xs.length ++ gapsTo xs t) ++ put (xs.getD t 0 - prev xs t)) := by
              show put xs.length ++ gapsTo xs (t + 1) = _
              rw [gapsTo, List.append_assoc]
            by_cases h0 : 0 < t
            · obtain ⟨j, rfl⟩ : ∃ j, t = j + 1 := ⟨t - 1, by omega⟩
              have d2 : wr.cell? ⟨b, off + j, none⟩ = some (.int .i64 (xs.getD j 0)) := (hbel.cell (by exact hb)).trans (hcell j (by omega))
              have hy := HA.out j (by omega)
              have HP : Hid (prev xs (j + 1) = xs.getD j 0) := by show prev xs (j + 1) = _; simp [prev]
              have HN : Hid (xs.getD j 0 ≤ xs.getD (j + 1) 0 → ∀ i, i + 1 < j + 1 + 1 → xs.getD i 0 ≤ xs.getD (i + 1) 0) := fun h i hi => by
                by_cases e : i = j
                · rw [e]; exact h
                · exact HS.out i (by omega)
              have HB : Hid (xs.getD (j + 1) 0 < xs.getD j 0 → Named xs 3) := fun h => .inr (.inr (.inl ⟨rfl, hl2, HA.out, fun h2 => by have := h2 j htl; omega⟩))
              have HZ : Hid (gapsF xs 3 = []) := rfl
              rw [HP.out] at HG
              clear hcell hv2 hlen
              generalize xs.getD (j + 1) 0 = x at *
              generalize xs.getD j 0 = y at *
              have i1 : (j : Int) + 1 < (xs.length : Int) := by omega
              have i2 : (j : Int) < (xs.length : Int) := by omega
              have i3 : (0 : Int) ≤ (j : Int) := by omega
              by_cases hxy : x < y
              · have HX : Hid (Named xs 3) := HB.out hxy
                have hneg : x - y < 0 := by omega
                go_wp2_with fail
                go_quiet (fail)
                go_wp2_with fail
                go_ret2
                exact ⟨3, _, rfl, HX.out, by rw [HZ.out]; exact World.ownsRow_nil _ _ _ _, below_drewN hbel _⟩
              · have HX : Hid _ := HN.out (by omega)
                have hneg : ¬ x - y < 0 := by omega
                go_wp2_with fail
                go_quiet (fail)
                go_wp2_with fail
                refine (packed_any 9 (x - y) _ (by omega) (lt_128_10 (by omega)) (by omega)).mono ?_
                rintro e w4 ⟨v4, rfl, hown4, hb4⟩
                have lp := put_len (x - y)
                have hb5 : Below w.heap.size w w4 := (below_drewN hbel _).trans (hb4.mono hsz)
                have hown5 : w4.ownsRow w.heap.size 5 1 _ (put xs.length ++ gapsTo xs (j + 1)).length ((put xs.length ++ gapsTo xs (j + 1)).map (Value.int .u8)) := own_below (own_below HW.out (below_drewN (Below.refl wr.heap.size wr) _) (Nat.le_refl _)) hb4 (Nat.le_refl _)
                obtain ⟨g, cc, rfl, hg, hg2, hc, hmm, hcell4⟩ := own_shape hown4 (by omega)
                have HC : Hid (∀ (j : Nat) (u : Value), (List.map (Value.int IntKind.u8) (put (x - y)))[j]? = some u → w4.cell? ((⟨g, 0, none⟩ : Addr).add j) = some u) := hcell4
                have hl5 := HL.out
                clear hown4 hcell4 HW hb4 hbel
                generalize put xs.length ++ gapsTo xs (j + 1) = pre at *
                go_wp2_with (at_builtin; refine wpList_append_own _ rfl _ _ 26 rfl w.heap.size 5 i0 (.int .u8 0) 1 1 Try.underlying26 hi hz0 hz1 hz2 rfl (by decide) _ _ _ rfl hown5 ⟨g, 0, none⟩ (put (x - y)).length cc ((put (x - y)).map (Value.int .u8)) rfl (by simp) HC.out (bytes_oneCell _) ?d3 ?d4 ?d5 ?_)
                case d3 => unfold maxLen; omega
                case d4 => omega
                case d5 => exact hb5.size
                intro v6 w6 hown6 hgrow _
                have hb6 : Below w.heap.size w w6 := hb5.grown hgrow hb5.size (fun k hk => (hown5.lt k hk).1)
                have hw6 : w6.ownsRow w.heap.size 5 1 v6 (put xs.length ++ gapsTo xs (j + 1 + 1)).length ((put xs.length ++ gapsTo xs (j + 1 + 1)).map (Value.int .u8)) := by rw [HG.out]; simpa using hown6
                have HW6 : Hid (w6.ownsRow w.heap.size 5 1 v6 (put xs.length ++ gapsTo xs (j + 1 + 1)).length ((put xs.length ++ gapsTo xs (j + 1 + 1)).map (Value.int .u8))) := hw6
                clear hw6 hown6 hgrow HC hown5 hb5
                go_wp2_with fail
                go_roundw
                case rel => exact ⟨j + 1 + 1, by omega, by go_num, HX.out, HW6.out, hb6⟩
                case measure => simp [intOf]; omega
            · have ht0 : t = 0 := by omega
              subst ht0
              have HP : Hid (prev xs 0 = 0) := rfl
              rw [HP.out, Int.sub_zero] at HG
              rw [Nat.add_zero] at d1
              clear hcell hv2 hlen
              generalize xs.getD 0 0 = x at *
              go_wp2_with fail
              refine (packed_any 9 x _ (by omega) (lt_128_10 (by omega)) (by omega)).mono ?_
              rintro e w4 ⟨v4, rfl, hown4, hb4⟩
              have lp := put_len x
              have hb5 : Below w.heap.size w w4 := hbel.trans (hb4.mono hsz)
              have hown5 : w4.ownsRow w.heap.size 5 1 _ (put xs.length ++ gapsTo xs 0).length ((put xs.length ++ gapsTo xs 0).map (Value.int .u8)) := own_below HW.out hb4 (Nat.le_refl _)
              obtain ⟨g, cc, rfl, hg, hg2, hc, hmm, hcell4⟩ := own_shape hown4 (by omega)
              have HC : Hid (∀ (j : Nat) (u : Value), (List.map (Value.int IntKind.u8) (put x))[j]? = some u → w4.cell? ((⟨g, 0, none⟩ : Addr).add j) = some u) := hcell4
              have hl5 := HL.out
              clear hown4 hcell4 HW hb4 hbel
              generalize put xs.length ++ gapsTo xs 0 = pre at *
              go_wp2_with (at_builtin; refine wpList_append_own _ rfl _ _ 26 rfl w.heap.size 5 i0 (.int .u8 0) 1 1 Try.underlying26 hi hz0 hz1 hz2 rfl (by decide) _ _ _ rfl hown5 ⟨g, 0, none⟩ (put x).length cc ((put x).map (Value.int .u8)) rfl (by simp) HC.out (bytes_oneCell _) ?e3 ?e4 ?e5 ?_)
              case e3 => unfold maxLen; omega
              case e4 => omega
              case e5 => exact hb5.size
              intro v6 w6 hown6 hgrow _
              have hb6 : Below w.heap.size w w6 := hb5.grown hgrow hb5.size (fun k hk => (hown5.lt k hk).1)
              have hw6 : w6.ownsRow w.heap.size 5 1 v6 (put xs.length ++ gapsTo xs (0 + 1)).length ((put xs.length ++ gapsTo xs (0 + 1)).map (Value.int .u8)) := by rw [HG.out]; simpa using hown6
              have HW6 : Hid (w6.ownsRow w.heap.size 5 1 v6 (put xs.length ++ gapsTo xs (0 + 1)).length ((put xs.length ++ gapsTo xs (0 + 1)).map (Value.int .u8))) := hw6
              clear hw6 hown6 hgrow HC hown5 hb5
              go_wp2_with fail
              go_roundw
              case rel => exact ⟨0 + 1, by omega, by go_num, fun i hi => by omega, HW6.out, hb6⟩
              case measure => simp [intOf]; omega
          · have htt : t = xs.length := by omega
            subst htt
            have HN : Hid (Named xs 0) := .inr (.inr (.inr ⟨rfl, hl2, HA.out, fun i hi => HS.out i hi⟩))
            have HF : Hid (gapsF xs 0 = put xs.length ++ gapsTo xs xs.length) := rfl
            go_wp2_with fail
            go_ret2
            exact ⟨0, _, rfl, HN.out, by rw [HF.out]; exact HW.out, hbel⟩

theorem gapsOf_any (v : Value) (xs : List Int) (w : World) (h : Reads .i64 w v xs) :
    Calls Try.prog 56 #[v] w fun e w' =>
      ∃ c v', e = .returned (.tuple #[v', .int .i64 c]) ∧ Named xs c ∧ w'.ownsRow w.heap.size 5 1 v' (gapsF xs c).length ((gapsF xs c).map (Value.int .u8)) ∧ Below w.heap.size w w' := by
  have h2 := h
  obtain ⟨a, cap, rfl, _⟩ := h
  exact gapsOf_row a cap xs w h2
end Go.Proofs.Ytacpicnihgggaaa

namespace Go.Proofs.Ytacpicnihgggaaa
set_option maxRecDepth 100000
open Go.ChangeShapes Go.WideShapes Go.ChangeAt Go.RowKit

set_option maxHeartbeats 2000000 in
set_option maxRecDepth 100000 in
theorem hopBytes_any (v : Value) (l : List Hp) (w : World) (h : HpR w v l) (hg : GoodH l) :
    Calls Try.prog 33 #[v] w fun e w' => ∃ v', e = .returned v' ∧ w'.ownsRow w.heap.size 5 1 v' (hopsB l).length ((hopsB l).map (Value.int .u8)) ∧ Below w.heap.size w w' := by
  have HR : Hid (HpR w v l) := h
  have HG : Hid (GoodH l) := hg
  obtain ⟨la, lc, rfl, _, hm, _⟩ := h
  unfold maxLen at hm
  have hl2 : l.length ≤ 2000 := by have := (named_rises hg.1).2.2; simpa using this
  clear hg
  go_enter Try.func33, Try.ntmps33
  go_wp2_with fail
  go_loopw [3, 4, 5] (fun s t i wr => ∃ k : Nat, k ≤ l.length ∧ i = .int .i64 k ∧ wr.ownsRow w.heap.size 3 1 s ((l.take k).map Prod.fst).length (((l.take k).map Prod.fst).flatMap encI) ∧ wr.ownsRow w.heap.size 5 1 t (numsB ((l.take k).map Prod.snd)).length ((numsB ((l.take k).map Prod.snd)).map (Value.int .u8)) ∧ Below w.heap.size w wr) (fun _ _ i _ => l.length - (intOf i).toNat)
  case atStart => exact ⟨0, by omega, rfl, World.ownsRow_nil _ _ _ _, World.ownsRow_nil _ _ _ _, Below.refl _ _⟩
  case round =>
    obtain ⟨k, hk, rfl, hos, hot, hbel⟩ := hrel
    have OS : Hid (wr.ownsRow w.heap.size 3 1 u3 ((l.take k).map Prod.fst).length (((l.take k).map Prod.fst).flatMap encI)) := hos
    have OT : Hid (wr.ownsRow w.heap.size 5 1 u4 (numsB ((l.take k).map Prod.snd)).length ((numsB ((l.take k).map Prod.snd)).map (Value.int .u8))) := hot
    have HB : Hid (Below w.heap.size w wr) := hbel
    have hsr := hbel.size
    clear hos hot hbel
    by_cases hlt : k < l.length
    · obtain ⟨x, hx⟩ := getX hlt
      obtain ⟨b, off, cap', e1, _, _, ltw, hv⟩ := HpR.at HR.out (by omega)
      injection e1 with e1 _ e3
      subst e1 e3
      obtain ⟨z1, z2⟩ := hv k x hx
      have d1 := (HB.out.cell (p := ⟨b, off + k * 2, none⟩) ltw).trans z1
      have d2 := (HB.out.cell (p := ⟨b, off + k * 2 + 1, none⟩) ltw).trans z2
      clear z1 z2
      have hx2 := HG.out.2 x.2 (List.mem_map.2 ⟨x, List.mem_of_getElem? hx, rfl⟩)
      have HT1 : Hid ((l.take (k + 1)).map Prod.fst = (l.take k).map Prod.fst ++ [x.1]) := by show _ = _; rw [take_snoc hx, List.map_append]; rfl
      have HT2 : Hid (numsB ((l.take (k + 1)).map Prod.snd) = numsB ((l.take k).map Prod.snd) ++ put x.2) := by show _ = _; rw [take_snoc hx, List.map_append]; exact numsB_snoc _ _
      have hk1 : ((l.take k).map Prod.fst).length ≤ 2000 := by simp; omega
      have hk2 : (numsB ((l.take k).map Prod.snd)).length ≤ 20000 := by have := numsB_len ((l.take k).map Prod.snd); rw [List.length_map, List.length_take] at this; omega
      have i1 : (0 : Int) ≤ (k : Int) := by omega
      have i2 : (k : Int) < (l.length : Int) := by omega
      have hpl := put_len x.2
      clear hv hx
      generalize (l.take k).map Prod.fst = f1 at *
      generalize numsB ((l.take k).map Prod.snd) = f2 at *
      obtain ⟨x1, x2⟩ := x
      simp only at *
      have hw : IntKind.u64.wrap x2 = x2 := by rw [IntKind.wrap_u64]; omega
      go_wp2_with (at_builtin; refine wpList_append_newL kI rfl _ _ rfl w.heap.size _ f1 rfl (OS.out.alloc _) wr.heap.size x1 rfl #[.int .i64 x1] rfl (0, 0) (heap_alloc_new _ _) (by simp [kI]; omega) (by unfold maxLen; omega) (by simp; omega) ?_)
      intro g2 c2 w2 hown2 hgr2 hli2
      have OS2 : Hid (w2.ownsRow w.heap.size 3 1 (.slice (some ⟨g2, 0, none⟩) (f1.length + 1) c2) (f1 ++ [x1]).length ((f1 ++ [x1]).flatMap encI)) := by
        show World.ownsRow _ _ _ _ _ _ _
        rw [flat_snoc, List.length_append]; exact hown2
      have OT2 : Hid (w2.ownsRow w.heap.size 5 1 u4 f2.length (f2.map (Value.int .u8))) := (OT.out.alloc _).kept hgr2 (own_apart OT.out OS.out (by decide))
      have HB2 : Hid (Below w.heap.size w w2) := (HB.out.alloc hsr _).trans ((Below.refl _ _).grown hgr2 (by simp; omega) (fun k hk => (own_ge OS.out hk).1))
      have k1 : w2.cell? ⟨b, off + k * 2 + 1, none⟩ = some (.int .i64 x2) := by
        rw [← d2]
        exact (HB2.out.cell (p := ⟨b, off + k * 2 + 1, none⟩) ltw).trans (HB.out.cell (p := ⟨b, off + k * 2 + 1, none⟩) ltw).symm
      have hs2 := HB2.out.size
      clear hown2 hgr2 hli2 OS OT HB d1 d2
      go_wp2_with fail
      refine (packed_any 9 x2 w2 (by omega) (lt_128_10 (by omega)) (by omega)).mono ?_
      rintro e w3 ⟨v3, rfl, hown3, hb3⟩
      have R3 : Hid (Reads .u8 w3 v3 (put x2)) := reads_own hown3
      have OS3 : Hid (w3.ownsRow w.heap.size 3 1 (.slice (some ⟨g2, 0, none⟩) (f1.length + 1) c2) (f1 ++ [x1]).length ((f1 ++ [x1]).flatMap encI)) := own_below OS2.out hb3 (Nat.le_refl _)
      have OT3 : Hid (w3.ownsRow w.heap.size 5 1 u4 f2.length (f2.map (Value.int .u8))) := own_below OT2.out hb3 (Nat.le_refl _)
      have HB3 : Hid (Below w.heap.size w w3) := HB2.out.trans (hb3.mono hs2)
      have hs3 := HB3.out.size
      clear hown3 hb3 OS2 OT2 HB2 k1
      go_wp2_with (at_builtin; refine wpList_append_reads rfl _ _ rfl w.heap.size _ f2 rfl OT3.out _ (put x2) rfl R3.out (by omega) (by omega) ?_)
      intro v4 w4 hown4 hb4 hgr4
      have OT4 : Hid (w4.ownsRow w.heap.size 5 1 v4 (f2 ++ put x2).length ((f2 ++ put x2).map (Value.int .u8))) := by
        show World.ownsRow _ _ _ _ _ _ _
        simpa using hown4
      have OS4 : Hid (w4.ownsRow w.heap.size 3 1 (.slice (some ⟨g2, 0, none⟩) (f1.length + 1) c2) (f1 ++ [x1]).length ((f1 ++ [x1]).flatMap encI)) := OS3.out.kept hgr4 (own_apart OS3.out OT3.out (by decide))
      have HB4 : Hid (Below w.heap.size w w4) := HB3.out.trans hb4
      clear hown4 hb4 hgr4 OS3 OT3 HB3 R3
      go_wp2_with fail
      go_roundw
      case rel => exact ⟨k + 1, by omega, by go_num, by rw [HT1.out]; exact OS4.out, by rw [HT2.out]; exact OT4.out, HB4.out⟩
      case measure => simp [intOf]; omega
    · have ek : l.take k = l := List.take_of_length_le (by omega)
      rw [ek] at OS OT
      clear ek
      have RS : Hid (Reads .i64 wr u3 (l.map Prod.fst)) := reads_own (by have := OS.out; rwa [flatI] at this)
      have HF : Hid (hopsB l = gapsF (l.map Prod.fst) 0 ++ numsB (l.map Prod.snd)) := rfl
      have HGL := gapsF_len (l.map Prod.fst) 0
      have HNL := numsB_len (l.map Prod.snd)
      rw [List.length_map] at HGL HNL
      clear OS
      go_wp2_with fail
      refine (gapsOf_any _ (l.map Prod.fst) _ RS.out).mono ?_
      rintro e w2 ⟨c, v2, rfl, hnm, hown2, hb2⟩
      obtain rfl : c = 0 := hnm.one HG.out.1
      have O2 : Hid (w2.ownsRow w.heap.size 5 1 v2 (gapsF (l.map Prod.fst) 0).length ((gapsF (l.map Prod.fst) 0).map (Value.int .u8))) := own_lower hown2 hsr
      have RT2 : Hid (Reads .u8 w2 u4 (numsB (l.map Prod.snd))) := reads_own (own_below OT.out hb2 (Nat.le_refl _))
      have HB2 : Hid (Below w.heap.size w w2) := HB.out.trans (hb2.mono hsr)
      have hs2 := HB2.out.size
      clear hnm hown2 hb2 OT HB RS
      generalize gapsF (l.map Prod.fst) 0 = G at *
      generalize numsB (l.map Prod.snd) = ws at *
      go_wp2_with (at_builtin; refine wpList_append_reads rfl _ _ rfl w.heap.size _ G rfl O2.out _ ws rfl RT2.out (by omega) (by omega) ?_)
      intro v3 w3 hown3 hb3 hgr3
      have O3 : Hid (w3.ownsRow w.heap.size 5 1 v3 (hopsB l).length ((hopsB l).map (Value.int .u8))) := by
        show World.ownsRow _ _ _ _ _ _ _
        rw [HF.out]; simpa using hown3
      have HB3 : Hid (Below w.heap.size w w3) := HB2.out.trans hb3
      clear hown3 hb3 hgr3
      go_wp2_with fail
      go_ret
      exact ⟨_, rfl, O3.out, HB3.out⟩
end Go.Proofs.Ytacpicnihgggaaa
