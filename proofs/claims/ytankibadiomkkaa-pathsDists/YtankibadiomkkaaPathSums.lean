/-
  Contract of paths.sums.
-/
import Derived.Test.YtankibadiomkkaaPoolMath
import Derived.Test.YtankibadiomkkaaPoolHops
import Derived.Test.YtankibadiomkkaaHopTable
import Derived.Test.YtankibadiomkkaaPathNones
import Derived.Test.YtankibadiomkkaaTipOps
import Derived.Test.YtankibadiomkkaaBoxMem
import Derived.Deep.LoopGhost
import Derived.Deep.CutRange
namespace Go.Proofs.Ytankibadiomkkaa
set_option maxRecDepth 100000
open Go.ChangeShapes Go.WideShapes Go.ChangeAt Go.RowKit

/-- What sums answers: the distances, in a list of its own. -/
def SumP (n : Nat) (es : List Ed) (s : Int) (w : World) (e : Ending) (w' : World) : Prop := ∃ v' l, e = .returned v' ∧ DistL n es s l ∧ w'.ownsRow w.heap.size 3 1 v' n (l.flatMap encI) ∧ Below w.heap.size w w'
/-- A sum that does not wrap. -/
def smallT (x : Tp) : Prop := 0 ≤ x.1 ∧ x.1 ≤ 221001837182976
/-- What holds ahead of each round: the heap, the numbers, how much is left. -/
structure SumI (n : Nat) (es : List Ed) (s : Int) (w : World) (q : Nat) (X : World) (hs : List Tp) (l : List Int) (v : Int) (rest : List Ed) : Prop where
  tx : TX X q hs
  hp : TpF hs 0 hs.length
  pl : PlM n es s l hs v rest
  sm : ∀ x ∈ hs, smallT x
  own : X.ownsRow w.heap.size 3 1 (.slice (some ⟨w.heap.size, 0, none⟩) n n) n (l.flatMap encI)
  bel : Below w.heap.size w X
theorem atD_get {l : List Int} {n : Nat} {v : Int} (hl : l.length = n) (hv : 0 ≤ v ∧ v < (n : Int)) : l[v.toNat]? = some (atD l v) := by
  have h : v.toNat < l.length := by omega
  unfold atD
  rw [List.getD_eq_getElem?_getD, List.getElem?_eq_getElem h]
  rfl
theorem own_newY (w : World) (x : Tp) : (w.alloc (.cells #[.int .i64 x.2, .int .i64 x.1] 63)).ownsRow w.heap.size 63 2 (.slice (some ⟨w.heap.size, 0, none⟩) 1 1) 1 ([x].flatMap encY) := by
  refine ⟨rfl, .inr ⟨w.heap.size, 1, #[.int .i64 x.2, .int .i64 x.1], rfl, Nat.le_refl _, heap_alloc_new w _, Nat.le_refl _, by simp [maxLen], rfl, rfl⟩⟩
theorem TX.kept {S : Nat → Prop} {w w' : World} {q : Nat} {hs : List Tp} (h : TX w q hs) (hk : Kept S w w') (h1 : ¬ S q) (h2 : ∀ g, q - 1 ≤ g → ¬ S g) : TX w' q hs ∧ rowB w' q = rowB w q := by
  have hl := h.lt
  obtain ⟨v, hq, ho⟩ := h
  have hb := hk.block q hl h1
  exact ⟨⟨v, by rw [hb]; exact hq, hk.own ho fun g hg => h2 g (ho.lt g hg).1⟩, rowB_same hb⟩

set_option maxHeartbeats 4000000 in
set_option maxRecDepth 100000 in
theorem sums_any (v : Value) (es : List Ed) (n sv : Nat) (w : World) (h : LsR w v (tblF n es)) (hg : InG n es) (hw : ∀ e ∈ es, e.2.2 ≤ 1099511627776) (hn : n ≤ 200) (hl : es.length ≤ 600) (hs : sv < n) :
    Calls Try.prog 24 #[v, .int .i64 sv] w (SumP n es sv w) := by
  have HR : Hid (LsR w v (tblF n es)) := h
  have HG : Hid (InG n es) := hg
  have HW : Hid (∀ e ∈ es, e.2.2 ≤ 1099511627776) := hw
  have htl : (tblF n es).length = n := by simp [tblF]
  obtain ⟨b, off, cap, rfl, hbl, hcp, hcm, _⟩ := h.at (by omega)
  rw [htl] at HR hcp ⊢
  unfold maxLen at hcm
  have HNO : Hid (∀ X, Calls Try.prog 34 #[.int .i64 (n : Int)] X fun e w' => e = .returned (.slice (some ⟨X.heap.size, 0, none⟩) n n) ∧ w'.ownsRow X.heap.size 3 1 (.slice (some ⟨X.heap.size, 0, none⟩) n n) n ((List.replicate n (-1 : Int)).flatMap encI) ∧ Below X.heap.size X w') := fun X => nones_any n X hn
  have HP : Hid (∀ (w' : World) l, DistL n es sv l → w'.ownsRow w.heap.size 3 1 (.slice (some ⟨w.heap.size, 0, none⟩) n n) n (l.flatMap encI) → Below w.heap.size w w' → SumP n es sv w (.returned (.slice (some ⟨w.heap.size, 0, none⟩) n n)) w') := fun w' l h1 h2 h3 => ⟨_, l, rfl, h1, h2, h3⟩
  generalize SumP n es sv w = P at *
  clear h hg hw htl
  go_enter Try.func24, Try.ntmps24
  go_wp2_with fail
  refine (HNO.out _).mono ?_
  rintro e w1 ⟨rfl, ho1, hb1⟩
  have O1 : Hid (w1.ownsRow w.heap.size 3 1 (.slice (some ⟨w.heap.size, 0, none⟩) n n) n ((List.replicate n (-1 : Int)).flatMap encI)) := ho1
  have B1 : Hid (Below w.heap.size w w1) := hb1
  have hs1 : w.heap.size < w1.heap.size := (ho1.lt _ rfl).2
  clear ho1 hb1 HNO
  go_wp2_with fail
  go_loopg [] 601 (fun gk wr => ∃ (hs : List Tp) (l : List Int), hs.length + opn es (hasN l) ≤ gk ∧ gk ≤ 601 ∧ SumI n es sv w (w1.heap.size + 1) wr hs l 0 [])
  case atStart =>
    refine ⟨[(0, (sv : Int))], List.replicate n (-1), ?_, Nat.le_refl _, ?_⟩
    · have : opn es (hasN (List.replicate n (-1))) ≤ es.length := List.length_filter_le _ _
      simp only [List.length_singleton]
      omega
    · have hq0 : ((w1.alloc (.cells #[.int .i64 (sv : Int), .int .i64 0] 63)).alloc (.cells #[.slice (some ⟨w1.heap.size, 0, none⟩) 1 1] 65)).heap[w1.heap.size + 1]? = some (.cells #[.slice (some ⟨w1.heap.size, 0, none⟩) 1 1] 65 (0, 0)) := heap_second _ _ _ _
      have hB2 : Below w1.heap.size w1 ((w1.alloc (.cells #[.int .i64 (sv : Int), .int .i64 0] 63)).alloc (.cells #[.slice (some ⟨w1.heap.size, 0, none⟩) 1 1] 65)) := (below_alloc w1 _).alloc (by simp) _
      refine ⟨⟨_, hq0, ?_⟩, fun k p x y k0 k1 => ?_, PlM.start (by omega) 0, fun x hx => ?_, own_below O1.out hB2 (Nat.le_refl _), B1.out.trans (hB2.mono (by omega))⟩
      · have hr := own_newY w1 (0, (sv : Int))
        exact (own_below hr (below_alloc _ _) (Nat.le_refl _))
      · simp at k1; omega
      · have e : x = (0, (sv : Int)) := by simpa using hx
        subst e
        exact ⟨Int.le_refl _, by simp only; omega⟩
  case round =>
    obtain ⟨hs, l, hgk, hg6, hI⟩ := hrel
    have HI : Hid (SumI n es sv w (w1.heap.size + 1) wr hs l 0 []) := hI
    have HLN : Hid (∀ X, TX X (w1.heap.size + 1) hs → Calls Try.prog 35 #[.pointer (some ⟨w1.heap.size + 1, 0, none⟩)] X fun e w' => e = .returned (.int .i64 hs.length) ∧ w' = X) := fun X hX => yLen_any _ hs X hX
    clear hI
    go_wp2_with fail
    refine (HLN.out _ HI.out.tx).mono ?_
    rintro e wx ⟨rfl, hwx⟩
    replace hwx := hwx.symm
    subst hwx
    clear HLN
    by_cases hz : 0 < hs.length
    · have z1 : (hs.length : Int) > 0 := by omega
      have HPO : Hid (∀ X, TX X (w1.heap.size + 1) hs → Calls Try.prog 36 #[.iface 61 (.pointer (some ⟨w1.heap.size + 1, 0, none⟩))] X (PopY X (w1.heap.size + 1) hs)) := fun X hX => yHeapPop_any (w1.heap.size + 1) hs X hX (by omega) hz HI.out.hp
      have ta := assertY
      go_wp2_with fail
      refine (HPO.out _ HI.out.tx).mono ?_
      rintro e w3 ⟨⟨d, a⟩, hr, rfl, hx3, hp3, hf3, hle3, hk3⟩
      have hxi := (HI.out.pl.inn (d, a) (hp3.subset (by simp))).1
      have hxs := HI.out.sm (d, a) (hp3.subset (by simp))
      simp only at hxi hxs
      obtain ⟨j, rfl⟩ : ∃ j : Nat, a = j := ⟨a.toNat, by omega⟩
      have hjn : j < n := by omega
      have hd0 : 0 ≤ d := hxs.1
      have hlr := hp3.length_eq
      simp only [List.length_cons] at hlr
      have hlr1 : hr.length + 1 ≤ hs.length := by omega
      have PL3 : Hid (PlM n es sv l ((d, (j : Int)) :: hr) 0 []) := HI.out.pl.perm fun y => ⟨fun h => hp3.symm.subset h, fun h => hp3.subset h⟩
      have HM3 : Hid (∀ y ∈ hr, d ≤ y.1) := fun y hy => by
        have := hle3 y (hp3.subset (by simp [hy]))
        unfold leY ltY at this
        simp only at this
        omega
      have SM3 : Hid (∀ y ∈ hr, smallT y) := fun y hy => HI.out.sm y (hp3.subset (by simp [hy]))
      have B3' : Below w.heap.size w w3 := HI.out.bel.trans ((hk3.below HI.out.tx).mono (by omega))
      have O3' : w3.ownsRow w.heap.size 3 1 (.slice (some ⟨w.heap.size, 0, none⟩) n n) n (l.flatMap encI) := hk3.own HI.out.tx HI.out.own (by decide) (by decide)
      have W4 : Hid (TX (w3.alloc (.cells #[.int .i64 (j : Int), .int .i64 d] 63)) (w1.heap.size + 1) hr ∧ (w3.alloc (.cells #[.int .i64 (j : Int), .int .i64 d] 63)).ownsRow w.heap.size 3 1 (.slice (some ⟨w.heap.size, 0, none⟩) n n) n (l.flatMap encI) ∧ Below w.heap.size w (w3.alloc (.cells #[.int .i64 (j : Int), .int .i64 d] 63)) ∧ BX 63 (w3.alloc (.cells #[.int .i64 (j : Int), .int .i64 d] 63)) w3.heap.size #[.int .i64 (j : Int), .int .i64 d] ∧ rowB (w3.alloc (.cells #[.int .i64 (j : Int), .int .i64 d] 63)) (w1.heap.size + 1) ≠ some w3.heap.size ∧ w1.heap.size + 1 < w3.heap.size) := by
        refine ⟨hx3.below (below_alloc _ _), own_below O3' (below_alloc _ _) (Nat.le_refl _), B3'.trans ((below_alloc _ _).mono B3'.size), BX.new _ _ _, ?_, hx3.lt⟩
        rw [rowB_same ((below_alloc w3 _).block _ hx3.lt)]
        intro e
        have := (hx3.row e).2.1
        omega
      have HF3 : Hid (TpF hr 0 hr.length) := hf3
      have hlat := atD_get HI.out.pl.len (v := (j : Int)) (by omega)
      rw [Int.toNat_natCast] at hlat
      have HAT : Hid (l[j]? = some (atD l (j : Int))) := hlat
      have HLL : Hid (l.length = n) := HI.out.pl.len
      clear hx3 hp3 hf3 hle3 hk3 hxi hxs hlr B3' O3' hlat HPO
      go_upto_region 5 with fail
      generalize w3.alloc (.cells #[.int .i64 (j : Int), .int .i64 d] 63) = w4 at *
      generalize w3.heap.size = b7 at *
      obtain ⟨tx4, ow4, be4, bx4, rb4, hb7⟩ := W4.out
      have c4 := own_atN ow4 HAT.out
      obtain ⟨k0, k1, _⟩ := bx4.all2
      have f4 := frozenK ow4 j
      have p0 : (0 : Int) ≤ (j : Int) := by omega
      have p1 : (j : Int) < (n : Int) := by omega
      have TX4 : Hid (TX w4 (w1.heap.size + 1) hr) := tx4
      have OW4 : Hid (w4.ownsRow w.heap.size 3 1 (.slice (some ⟨w.heap.size, 0, none⟩) n n) n (l.flatMap encI)) := ow4
      have BE4 : Hid (Below w.heap.size w w4) := be4
      have BX4 : Hid (BX 63 w4 b7 #[.int .i64 (j : Int), .int .i64 d]) := bx4
      have RB4 : Hid (rowB w4 (w1.heap.size + 1) ≠ some b7) := rb4
      clear tx4 ow4 be4 bx4 rb4 W4
      by_cases hv : atD l (j : Int) = -1
      · rw [hv] at c4
        have t0 : ((-1 : Int) != (-1 : Int)) = false := by decide
        have HVV : Hid (atD l (j : Int) = -1) := hv
        have W5 : Hid (TX (w4.setCell ⟨w.heap.size, j, none⟩ (.int .i64 d)) (w1.heap.size + 1) hr ∧ (w4.setCell ⟨w.heap.size, j, none⟩ (.int .i64 d)).ownsRow w.heap.size 3 1 (.slice (some ⟨w.heap.size, 0, none⟩) n n) n ((l.set j d).flatMap encI) ∧ Below w.heap.size w (w4.setCell ⟨w.heap.size, j, none⟩ (.int .i64 d)) ∧ BX 63 (w4.setCell ⟨w.heap.size, j, none⟩ (.int .i64 d)) b7 #[.int .i64 (j : Int), .int .i64 d] ∧ rowB (w4.setCell ⟨w.heap.size, j, none⟩ (.int .i64 d)) (w1.heap.size + 1) ≠ some b7) := by
          obtain ⟨e1, e2⟩ := TX4.out.kept (Kept.box w4 w.heap.size j (.int .i64 d)) (by omega) (fun g hg => by omega)
          exact ⟨e1, own_setN OW4.out, BE4.out.setCell (Nat.le_refl _) _, BX4.out.other (by omega), by rw [e2]; exact RB4.out⟩
        clear hv
        go_upto_region 7 with fail
        generalize w4.setCell ⟨w.heap.size, j, none⟩ (.int .i64 d) = w5 at *
        obtain ⟨tx5, ow5, be5, bx5, rb5⟩ := W5.out
        clear k0 k1 f4 c4
        obtain ⟨k0, k1, _⟩ := bx5.all2
        obtain ⟨b', off', cap', e1, lt', _, _, hv'⟩ := HR.out.at (by simp [tblF]; omega)
        injection e1 with e1 e2 e3
        clear e2
        injection e1 with e1
        injection e1 with e1 e1'
        subst e1 e1' e3
        obtain ⟨u, hu, hpr⟩ := hv' j _ (tblF_at hjn)
        have hu5 := (be5.cell (p := ⟨b, off + j, none⟩) lt').trans hu
        have HPW : Hid (HpR w u (hopsL es (j : Int))) := hpr
        obtain ⟨ua, uc, rfl⟩ := hpr.shape
        have hul : (hopsL es (j : Int)).length ≤ uc ∧ uc ≤ 2 ^ 63 - 1 := by
          obtain ⟨_, _, e, h1, h2, _⟩ := hpr
          injection e with _ _ e
          subst e
          exact ⟨h1, h2⟩
        have hol := outs_len es (j : Int)
        have hos := opn_set HG.out HLL.out (v := (j : Int)) (d := d) (by omega) HVV.out hd0
        rw [Int.toNat_natCast] at hos
        have hHl : (hopsL es (j : Int)).length ≤ 600 := by have := hops_len es (j : Int); omega
        have hos2 : opn es (hasN (l.set j d)) + (hopsL es (j : Int)).length ≤ opn es (hasN l) := by omega
        have HHA : Hid (∀ k x, (hopsL es (j : Int))[k]? = some x → ∃ e, x = (e.2.1, e.2.2) ∧ e ∈ es ∧ e.1 = (j : Int) ∧ (outs es (j : Int)).drop k = e :: (outs es (j : Int)).drop (k + 1)) := fun k x hx => hop_at hx
        have hdl := PL3.out.least HG.out (by omega) HM3.out HVV.out
        have hdm := dst_most HG.out (M := 1099511627776) (by omega) HW.out (by omega) hdl.2
        have hdm2 : d ≤ 219902325555200 := by
          have : (n : Int) * 1099511627776 ≤ 200 * 1099511627776 := Int.mul_le_mul_of_nonneg_right (by omega) (by omega)
          omega
        have PL5 : Hid (PlM n es sv (l.set j d) hr (j : Int) ((outs es (j : Int)).drop 0)) := by
          have := PL3.out.take HG.out (by omega) HM3.out HVV.out (rest := outs es (j : Int)) (fun e he hv => outs_mem.2 ⟨he, hv⟩)
          rw [Int.toNat_natCast] at this
          exact this
        have HAD : Hid (atD (l.set j d) (j : Int) = d) := by
          have := atD_set (i := (j : Int)) (v := (j : Int)) (x := d) HLL.out (by omega) (by omega)
          rw [Int.toNat_natCast, if_pos rfl] at this
          exact this
        have I5 : Hid (SumI n es sv w (w1.heap.size + 1) w5 hr (l.set j d) (j : Int) ((outs es (j : Int)).drop 0)) := ⟨tx5, HF3.out, PL5.out, SM3.out, ow5, be5⟩
        have BX5 : Hid (BX 63 w5 b7 #[.int .i64 (j : Int), .int .i64 d]) := bx5
        have RB5 : Hid (rowB w5 (w1.heap.size + 1) ≠ some b7) := rb5
        have HDE : Hid ((outs es (j : Int)).drop (hopsL es (j : Int)).length = []) := by
          show _ = _
          rw [← hol]; exact List.drop_length
        clear tx5 ow5 be5 bx5 rb5 W5 hv' hpr hu hol hos hdl hdm PL5
        generalize hopsL es (j : Int) = H at *
        generalize l.set j d = l2 at *
        go_wp2_with fail
        go_loopw [42] (fun i wr => ∃ (k : Nat) (pool : List Tp), k ≤ H.length ∧ i = .int .i64 k ∧ pool.length ≤ hr.length + k ∧ SumI n es sv w (w1.heap.size + 1) wr pool l2 (j : Int) ((outs es (j : Int)).drop k) ∧ BX 63 wr b7 #[.int .i64 (j : Int), .int .i64 d] ∧ rowB wr (w1.heap.size + 1) ≠ some b7) (fun i _ => H.length - (intOf i).toNat)
        case atStart => exact ⟨0, hr, by omega, rfl, by omega, I5.out, BX5.out, RB5.out⟩
        case round =>
          obtain ⟨k, pool, hk, rfl, hpl, hI, hbx, hrb⟩ := hrel
          have J1 : Hid (SumI n es sv w (w1.heap.size + 1) wr pool l2 (j : Int) ((outs es (j : Int)).drop k)) := hI
          have J2 : Hid (BX 63 wr b7 #[.int .i64 (j : Int), .int .i64 d]) := hbx
          have J3 : Hid (rowB wr (w1.heap.size + 1) ≠ some b7) := hrb
          clear hI hbx hrb k0 k1 hu5
          by_cases hlt : k < H.length
          · obtain ⟨x, hx⟩ := getX hlt
            obtain ⟨e, rfl, hem, hev, hdr⟩ := HHA.out k x hx
            have HDR : Hid ((outs es (j : Int)).drop k = e :: (outs es (j : Int)).drop (k + 1)) := hdr
            have HEM : Hid (e ∈ es ∧ e.1 = (j : Int)) := ⟨hem, hev⟩
            have hwb := HW.out e hem
            have hgi := HG.out e hem
            obtain ⟨ub, uo, uc', e1, _, _, hub, huv⟩ := HpR.at HPW.out (by omega)
            injection e1 with e1 e2 e3
            clear e2
            subst e1 e3
            obtain ⟨d1, d2⟩ := huv k _ hx
            have d1' := (J1.out.bel.cell (p := ⟨ub, uo + k * 2, none⟩) hub).trans d1
            have d2' := (J1.out.bel.cell (p := ⟨ub, uo + k * 2 + 1, none⟩) hub).trans d2
            obtain ⟨ef, et, ew⟩ := e
            simp only at hwb hgi d1' d2'
            have q0 : (0 : Int) ≤ (k : Int) := by omega
            have q1 : (k : Int) < (H.length : Int) := by omega
            have wd : IntKind.i64.wrap (d + ew) = d + ew := wrap_id64 (by omega) (by omega)
            have W6 : Hid (SumI n es sv w (w1.heap.size + 1) (wr.alloc (.cells #[.int .i64 et, .int .i64 ew] 70)) pool l2 (j : Int) ((outs es (j : Int)).drop k) ∧ BX 63 (wr.alloc (.cells #[.int .i64 et, .int .i64 ew] 70)) b7 #[.int .i64 (j : Int), .int .i64 d] ∧ rowB (wr.alloc (.cells #[.int .i64 et, .int .i64 ew] 70)) (w1.heap.size + 1) ≠ some b7 ∧ BX 70 (wr.alloc (.cells #[.int .i64 et, .int .i64 ew] 70)) wr.heap.size #[.int .i64 et, .int .i64 ew]) := by
              have t6 := J1.out.tx
              refine ⟨⟨t6.below (below_alloc _ _), J1.out.hp, J1.out.pl, J1.out.sm, own_below J1.out.own (below_alloc _ _) (Nat.le_refl _), J1.out.bel.trans ((below_alloc _ _).mono J1.out.bel.size)⟩, J2.out.below (below_alloc _ _) J2.out.lt, ?_, BX.new _ _ _⟩
              rw [rowB_same ((below_alloc wr _).block _ t6.lt)]
              exact J3.out
            have hHx : H.length ≤ 600 := hHl
            have HPU : Hid (∀ X, TX X (w1.heap.size + 1) pool → TpF pool 0 pool.length → Calls Try.prog 37 #[.iface 61 (.pointer (some ⟨w1.heap.size + 1, 0, none⟩)), .iface 63 (.agg #[.int .i64 et, .int .i64 (d + ew)])] X fun e w' => e = .returned (.tuple #[]) ∧ UpY X (w1.heap.size + 1) (pool ++ [(d + ew, et)]) w') := fun X hX hp => yHeapPush_any (w1.heap.size + 1) pool (d + ew, et) X hX (by omega) hp
            clear hx hem hev hdr huv d1 d2
            go_upto_region 10 with fail
            generalize wr.alloc (.cells #[.int .i64 et, .int .i64 ew] 70) = w6 at *
            generalize wr.heap.size = b9 at *
            obtain ⟨i6, bx6, rb6, by6⟩ := W6.out
            obtain ⟨k0, k1, _⟩ := bx6.all2
            obtain ⟨y0, y1, _⟩ := by6.all2
            have I6 : Hid (SumI n es sv w (w1.heap.size + 1) w6 pool l2 (j : Int) ((outs es (j : Int)).drop k)) := i6
            have BX6 : Hid (BX 63 w6 b7 #[.int .i64 (j : Int), .int .i64 d]) := bx6
            have RB6 : Hid (rowB w6 (w1.heap.size + 1) ≠ some b7) := rb6
            clear i6 bx6 rb6 by6 W6 d1' d2'
            go_wp2_with fail
            refine (HPU.out _ I6.out.tx I6.out.hp).mono ?_
            rintro e w7 ⟨rfl, hn7, hx7, hp7, hf7, hk7⟩
            have hl7 := hp7.length_eq
            simp only [List.length_append, List.length_singleton] at hl7
            have hl8 : hn7.length ≤ hr.length + (k + 1) := by omega
            have BX7 : Hid (BX 63 w7 b7 #[.int .i64 (j : Int), .int .i64 d]) := (hk7.block I6.out.tx.lt b7 BX6.out.lt (by omega) RB6.out).trans BX6.out
            have RB7 : Hid (rowB w7 (w1.heap.size + 1) ≠ some b7) := hk7.apart I6.out.tx.lt BX6.out.lt RB6.out
            have I7 : Hid (SumI n es sv w (w1.heap.size + 1) w7 hn7 l2 (j : Int) ((outs es (j : Int)).drop (k + 1))) := by
              refine ⟨hx7, hf7, ?_, fun y hy => ?_, hk7.own I6.out.tx I6.out.own (by decide) (by decide), I6.out.bel.trans ((hk7.below I6.out.tx).mono (by omega))⟩
              · have h1 := I6.out.pl
                rw [HDR.out] at h1
                have h2 := h1.push HG.out HEM.out.1 HEM.out.2 HAD.out hd0
                refine h2.perm fun y => ⟨fun h => hp7.symm.subset ?_, fun h => ?_⟩
                · rcases List.mem_cons.1 h with h | h
                  · simp [h]
                  · simp [h]
                · rcases List.mem_append.1 (hp7.subset h) with h | h
                  · simp [h]
                  · simp at h; simp [h]
              · rcases List.mem_append.1 (hp7.subset hy) with h | h
                · exact I6.out.sm y h
                · simp at h
                  subst h
                  exact ⟨by simp only; omega, by simp only; omega⟩
            clear hx7 hp7 hf7 hk7 hl7 HPU k0 k1 y0 y1 wd
            go_wp2_with fail
            go_roundw
            case rel => exact ⟨k + 1, hn7, by omega, by go_num, hl8, I7.out, BX7.out, RB7.out⟩
            case measure => simp [intOf]; omega
          · have ek : k = H.length := by omega
            have IE : Hid (SumI n es sv w (w1.heap.size + 1) wr pool l2 0 []) := ⟨J1.out.tx, J1.out.hp, by
              have := J1.out.pl
              rw [ek, HDE.out] at this
              exact this.any, J1.out.sm, J1.out.own, J1.out.bel⟩
            clear ek
            go_wp2_with fail
            go_roundg (pool.length + opn es (hasN l2))
            case measure => omega
            case rel => exact ⟨pool, l2, Nat.le_refl _, by omega, IE.out⟩
      · have t0 : (atD l (j : Int) != -1) = true := by simpa using hv
        have IN : Hid (SumI n es sv w (w1.heap.size + 1) w4 hr l 0 []) := ⟨TX4.out, HF3.out, PL3.out.skip (by
          rcases HI.out.pl.dst (j : Int) (by omega) with g | g
          · exact absurd g hv
          · exact g.1), SM3.out, OW4.out, BE4.out⟩
        clear hv
        generalize atD l (j : Int) = y at *
        go_wp2_with fail
        go_roundg (hr.length + opn es (hasN l))
        case measure => omega
        case rel => exact ⟨hr, l, Nat.le_refl _, by omega, IN.out⟩
    · have z1 : ¬ (hs.length : Int) > 0 := by omega
      have e0 : hs = [] := List.eq_nil_of_length_eq_zero (by omega)
      have HD : Hid (DistL n es sv l) := by
        have := HI.out.pl
        rw [e0] at this
        exact this.done HG.out (by omega)
      clear e0
      go_wp2_with fail
      exact HP.out _ l HD.out HI.out.own HI.out.bel
end Go.Proofs.Ytankibadiomkkaa
