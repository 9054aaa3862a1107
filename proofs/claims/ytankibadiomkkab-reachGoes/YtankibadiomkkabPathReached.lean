/-
  Contract of paths.reached.
-/
import Derived.Test.YtankibadiomkkabReachTodo
import Derived.Test.YtankibadiomkkabPoolHops
import Derived.Test.YtankibadiomkkabHopTable
import Derived.Test.YtankibadiomkkabBoolRow
import Derived.Test.YtankibadiomkkabIntRow
import Derived.Test.YtankibadiomkkabRowCut
import Derived.Test.YtankibadiomkkabBoxMem
import Derived.Deep.LoopGhost
import Derived.Deep.CutRange
namespace Go.Proofs.Ytankibadiomkkab
set_option maxRecDepth 100000
open Go.ChangeShapes Go.WideShapes Go.ChangeAt Go.RowKit

/-- What reached answers: what is reached, in a list of its own. -/
def RcdP (n : Nat) (es : List Ed) (s : Int) (w : World) (e : Ending) (w' : World) : Prop := ∃ v', e = .returned v' ∧ w'.ownsRow w.heap.size 4 1 v' n ((reachF n es s).flatMap encT) ∧ Below w.heap.size w w'
theorem atB_get {l : List Bool} {n : Nat} {v : Int} (hl : l.length = n) (hv : 0 ≤ v ∧ v < (n : Int)) : l[v.toNat]? = some (atB l v) := by
  have h : v.toNat < l.length := by omega
  unfold atB
  rw [List.getD_eq_getElem?_getD, List.getElem?_eq_getElem h]
  rfl
theorem snoc_of {l : List Int} (h : 0 < l.length) : ∃ a x, l = a ++ [x] := by
  have hne : l ≠ [] := by intro e; rw [e] at h; simp at h
  exact ⟨l.dropLast, l.getLast hne, (List.dropLast_concat_getLast hne).symm⟩
theorem own_newI (w : World) (x : Int) : (w.alloc (.cells #[.int .i64 x] 3)).ownsRow w.heap.size 3 1 (.slice (some ⟨w.heap.size, 0, none⟩) 1 1) 1 ([x].flatMap encI) :=
  ⟨rfl, .inr ⟨w.heap.size, 1, #[.int .i64 x], rfl, Nat.le_refl _, heap_alloc_new w _, Nat.le_refl _, by simp [maxLen], rfl, rfl⟩⟩
theorem count_rep (n : Nat) : (List.replicate n false).count false = n := by simp

set_option maxHeartbeats 4000000 in
set_option maxRecDepth 100000 in
theorem reached_any (v : Value) (es : List Ed) (n sv : Nat) (w : World) (h : LsR w v (tblF n es)) (hg : InG n es) (hn : n ≤ 200) (hl : es.length ≤ 600) (hs : sv < n) :
    Calls Try.prog 13 #[v, .int .i64 sv] w (RcdP n es sv w) := by
  have HR : Hid (LsR w v (tblF n es)) := h
  have HG : Hid (InG n es) := hg
  have htl : (tblF n es).length = n := by simp [tblF]
  obtain ⟨b, off, cap, rfl, hbl, hcp, hcm, _⟩ := h.at (by omega)
  rw [htl] at HR hcp ⊢
  unfold maxLen at hcm
  have hsi : 0 ≤ (sv : Int) ∧ (sv : Int) < (n : Int) := by omega
  have HP : Hid (∀ (w' : World) l, ReachL n es sv l → w'.ownsRow w.heap.size 4 1 (.slice (some ⟨w.heap.size, 0, none⟩) n n) n (l.flatMap encT) → Below w.heap.size w w' → RcdP n es sv w (.returned (.slice (some ⟨w.heap.size, 0, none⟩) n n)) w') := fun w' l h1 h2 h3 => ⟨_, rfl, by rw [← reach_uniq HG.out hsi h1]; exact h2, h3⟩
  generalize RcdP n es sv w = P at *
  obtain ⟨w1, hmk, ho1, hb1⟩ := make_bools w n (by omega)
  have k1 := own_atB ho1 (i := sv) (x := false) (by rw [List.getElem?_replicate, if_pos (by omega)])
  have f1 := frozenK ho1 sv
  have hs1 : w.heap.size < w1.heap.size := (ho1.lt _ rfl).2
  have O2 : Hid ((w1.setCell ⟨w.heap.size, sv, none⟩ (.bool true)).ownsRow w.heap.size 4 1 (.slice (some ⟨w.heap.size, 0, none⟩) n n) n ((reach0 n sv).flatMap encT)) := by
    show World.ownsRow _ _ _ _ _ _ _
    have := own_setB (j := sv) (x := true) ho1
    unfold reach0
    rwa [Int.toNat_natCast]
  have B2 : Hid (Below w.heap.size w (w1.setCell ⟨w.heap.size, sv, none⟩ (.bool true))) := hb1.setCell (Nat.le_refl _) _
  have HC0 : Hid ((reach0 n (sv : Int)).count false + 1 = n) := by
    have := unm_set (l := List.replicate n false) (v := (sv : Int)) (by simp) hsi repB_at
    rw [count_rep] at this
    exact this
  have T0 : Hid (TdM n es sv (reach0 n sv) [(sv : Int)] 0 []) := TdM.start HG.out hsi 0
  have i0 : (0 : Int) ≤ (sv : Int) := by omega
  have i1 : (sv : Int) < (n : Int) := by omega
  clear h hg htl ho1 hb1 hsi
  go_enter Try.func13, Try.ntmps13
  have HS2 : Hid ((w1.setCell ⟨w.heap.size, sv, none⟩ (.bool true)).heap.size = w1.heap.size) := size_setCell _ _ _
  go_wp2_with fail
  generalize w1.setCell ⟨w.heap.size, sv, none⟩ (.bool true) = w2 at *
  have O3 : Hid ((w2.alloc (.cells #[.int .i64 (sv : Int)] 3)).ownsRow w.heap.size 4 1 (.slice (some ⟨w.heap.size, 0, none⟩) n n) n ((reach0 n sv).flatMap encT)) := own_below O2.out (below_alloc _ _) (Nat.le_refl _)
  have T3 : Hid ((w2.alloc (.cells #[.int .i64 (sv : Int)] 3)).ownsRow w.heap.size 3 1 (.slice (some ⟨w1.heap.size, 0, none⟩) 1 1) 1 ([(sv : Int)].flatMap encI)) := by
    show World.ownsRow _ _ _ _ _ _ _
    rw [← HS2.out]
    exact own_lower (own_newI w2 sv) B2.out.size
  have B3 : Hid (Below w.heap.size w (w2.alloc (.cells #[.int .i64 (sv : Int)] 3))) := B2.out.alloc B2.out.size _
  clear k1 f1 hmk
  go_loopg [6] n (fun gk u wr => ∃ (todo : List Int) (l : List Bool), todo.length + l.count false ≤ gk ∧ gk ≤ n ∧ TdM n es sv l todo 0 [] ∧ wr.ownsRow w.heap.size 4 1 (.slice (some ⟨w.heap.size, 0, none⟩) n n) n (l.flatMap encT) ∧ wr.ownsRow w.heap.size 3 1 u todo.length (todo.flatMap encI) ∧ Below w.heap.size w wr)
  case atStart =>
    refine ⟨[(sv : Int)], reach0 n sv, ?_, Nat.le_refl _, T0.out, O3.out, T3.out, B3.out⟩
    have := HC0.out
    simp only [List.length_singleton]
    omega
  case round =>
    obtain ⟨todo, l, hgk, hgn, hT, hO, hU, hB⟩ := hrel
    have HT : Hid (TdM n es sv l todo 0 []) := hT
    have HO : Hid (wr.ownsRow w.heap.size 4 1 (.slice (some ⟨w.heap.size, 0, none⟩) n n) n (l.flatMap encT)) := hO
    have HB : Hid (Below w.heap.size w wr) := hB
    clear hT hO hB O2 O3 T3 B2 B3 T0 HC0
    by_cases hz : 0 < todo.length
    · obtain ⟨td, x, rfl⟩ := snoc_of hz
      have hxi := HT.out.inn x (by simp)
      obtain ⟨j, rfl⟩ : ∃ j : Nat, x = j := ⟨x.toNat, by omega⟩
      have hjn : j < n := by omega
      have hll : (td ++ [(j : Int)]).length = td.length + 1 := by simp
      rw [hll] at hU hgk
      rcases own_shapeK hU with ⟨_, h0, _⟩ | ⟨g, c, rfl, hg1, hg2, hc1, hc2, _⟩
      · omega
      · have OU : Hid (wr.ownsRow w.heap.size 3 1 (.slice (some ⟨g, 0, none⟩) (td.length + 1) c) (td.length + 1) ((td ++ [(j : Int)]).flatMap encI)) := hU
        have c0 := own_atN hU (i := td.length) (x := (j : Int)) (by simp)
        have OT : Hid (wr.ownsRow w.heap.size 3 1 (.slice (some ⟨g, 0, none⟩) td.length c) td.length (td.flatMap encI)) := by
          show World.ownsRow _ _ _ _ _ _ _
          have := own_preY hU (m := td.length) (by omega)
          rw [flat_snoc, Nat.mul_one, List.take_left' (by rw [flat_len encI_len, Nat.mul_one])] at this
          exact this
        have HTM : Hid (TdM n es sv l td (j : Int) ((outs es (j : Int)).drop 0)) := HT.out.take (fun u hu => by
          rcases List.mem_append.1 hu with h | h
          · exact .inr h
          · simp at h; exact .inl h) (fun u hu => by simp [hu]) fun e he hv => outs_mem.2 ⟨he, hv⟩
        have HVJ : Hid (atB l (j : Int) = true) := hxi.2
        obtain ⟨b', off', cap', e1, lt', _, _, hv'⟩ := HR.out.at (by simp [tblF]; omega)
        injection e1 with e1 e2 e3
        clear e2
        injection e1 with e1
        injection e1 with e1 e1'
        subst e1 e1' e3
        obtain ⟨u, hu, hpr⟩ := hv' j _ (tblF_at hjn)
        have hu5 := (HB.out.cell (p := ⟨b, off + j, none⟩) lt').trans hu
        have HPW : Hid (HpR w u (hopsL es (j : Int))) := hpr
        obtain ⟨ua, uc, rfl⟩ := hpr.shape
        have hul : (hopsL es (j : Int)).length ≤ uc ∧ uc ≤ 2 ^ 63 - 1 := by
          obtain ⟨_, _, e, h1, h2, _⟩ := hpr
          injection e with _ _ e
          subst e
          exact ⟨h1, h2⟩
        have hol := outs_len es (j : Int)
        have hHl : (hopsL es (j : Int)).length ≤ 600 := by have := hops_len es (j : Int); omega
        have HHA : Hid (∀ k x, (hopsL es (j : Int))[k]? = some x → ∃ e, x = (e.2.1, e.2.2) ∧ e ∈ es ∧ e.1 = (j : Int) ∧ (outs es (j : Int)).drop k = e :: (outs es (j : Int)).drop (k + 1)) := fun k x hx => hop_at hx
        have HDE : Hid ((outs es (j : Int)).drop (hopsL es (j : Int)).length = []) := by
          show _ = _
          rw [← hol]; exact List.drop_length
        unfold maxLen at hc2
        have htn : td.length ≤ 200 := by omega
        have p0 : (0 : Int) ≤ (td.length : Int) := by omega
        have p1 : (td.length : Int) < (td.length : Int) + 1 := by omega
        have wl : IntKind.i64.wrap ((td.length : Int) + 1 - 1) = (td.length : Int) := by rw [Int.add_sub_cancel]; exact wrap_id64 (by omega) (by omega)
        have p2 : td.length ≤ c := by omega
        have p3 : (td.length : Int) ≤ (c : Int) := by omega
        have p4 : (0 : Int) ≤ (j : Int) := by omega
        have p5 : (j : Int) < (n : Int) := by omega
        clear hU hll hxi hv' hpr hu hol HT OU hz
        generalize hopsL es (j : Int) = H at *
        go_wp2_with fail
        go_loopw [6, 37] (fun u i wr => ∃ (k : Nat) (ts : List Int) (l : List Bool), k ≤ H.length ∧ i = .int .i64 k ∧ ts.length + l.count false + 1 ≤ gk ∧ TdM n es sv l ts (j : Int) ((outs es (j : Int)).drop k) ∧ atB l (j : Int) = true ∧ wr.ownsRow w.heap.size 4 1 (.slice (some ⟨w.heap.size, 0, none⟩) n n) n (l.flatMap encT) ∧ wr.ownsRow w.heap.size 3 1 u ts.length (ts.flatMap encI) ∧ Below w.heap.size w wr) (fun _ i _ => H.length - (intOf i).toNat)
        case atStart => exact ⟨0, td, l, by omega, rfl, by omega, HTM.out, HVJ.out, HO.out, OT.out, HB.out⟩
        case round =>
          obtain ⟨k, ts, l2, hk, rfl, hcn, hT, hvj, hO, hU, hB⟩ := hrel
          have KT : Hid (TdM n es sv l2 ts (j : Int) ((outs es (j : Int)).drop k)) := hT
          have KV : Hid (atB l2 (j : Int) = true) := hvj
          have KO : Hid (wr.ownsRow w.heap.size 4 1 (.slice (some ⟨w.heap.size, 0, none⟩) n n) n (l2.flatMap encT)) := hO
          have KU : Hid (wr.ownsRow w.heap.size 3 1 u6 ts.length (ts.flatMap encI)) := hU
          have KB : Hid (Below w.heap.size w wr) := hB
          obtain ⟨va, vn, vc, rfl⟩ : ∃ a n c, u6 = .slice a n c := by
            rcases own_shapeK hU with ⟨e, _⟩ | ⟨g', c', e, _⟩
            · exact ⟨_, _, _, e⟩
            · exact ⟨_, _, _, e⟩
          clear hT hvj hO hU hB hu5 c0 HO OT HTM HVJ HB
          by_cases hlt : k < H.length
          · obtain ⟨x, hx⟩ := getX hlt
            obtain ⟨e, rfl, hem, hev, hdr⟩ := HHA.out k x hx
            have HDR : Hid ((outs es (j : Int)).drop k = e :: (outs es (j : Int)).drop (k + 1)) := hdr
            have hgi := HG.out e hem
            obtain ⟨ub, uo, uc', e1, _, _, hub, huv⟩ := HpR.at HPW.out (by omega)
            injection e1 with e1 e2 e3
            clear e2
            subst e1 e3
            obtain ⟨d1, d2⟩ := huv k _ hx
            have d1' := (KB.out.cell (p := ⟨ub, uo + k * 2, none⟩) hub).trans d1
            have d2' := (KB.out.cell (p := ⟨ub, uo + k * 2 + 1, none⟩) hub).trans d2
            obtain ⟨ef, et, ew⟩ := e
            simp only at hgi d1' d2' hev
            have HEM : Hid ((ef, et, ew) ∈ es ∧ ef = (j : Int)) := ⟨hem, hev⟩
            obtain ⟨i, rfl⟩ : ∃ i : Nat, et = i := ⟨et.toNat, by omega⟩
            have hin : i < n := by omega
            have q0 : (0 : Int) ≤ (k : Int) := by omega
            have q1 : (k : Int) < (H.length : Int) := by omega
            have q2 : (0 : Int) ≤ (i : Int) := by omega
            have q3 : (i : Int) < (n : Int) := by omega
            have hbg := atB_get KT.out.ri.1 (v := (i : Int)) (by omega)
            rw [Int.toNat_natCast] at hbg
            have W6 : Hid ((wr.alloc (.cells #[.int .i64 (i : Int), .int .i64 ew] 52)).ownsRow w.heap.size 4 1 (.slice (some ⟨w.heap.size, 0, none⟩) n n) n (l2.flatMap encT) ∧ (wr.alloc (.cells #[.int .i64 (i : Int), .int .i64 ew] 52)).ownsRow w.heap.size 3 1 (.slice va vn vc) ts.length (ts.flatMap encI) ∧ Below w.heap.size w (wr.alloc (.cells #[.int .i64 (i : Int), .int .i64 ew] 52)) ∧ BX 52 (wr.alloc (.cells #[.int .i64 (i : Int), .int .i64 ew] 52)) wr.heap.size #[.int .i64 (i : Int), .int .i64 ew]) :=
              ⟨own_below KO.out (below_alloc _ _) (Nat.le_refl _), own_below KU.out (below_alloc _ _) (Nat.le_refl _), KB.out.alloc KB.out.size _, BX.new _ _ _⟩
            have HBG : Hid (l2[i]? = some (atB l2 (i : Int))) := hbg
            clear hx hem hev hdr huv d1 d2 hgi hbg
            go_upto_region 11 with fail
            generalize wr.alloc (.cells #[.int .i64 (i : Int), .int .i64 ew] 52) = w6 at *
            generalize wr.heap.size = b9 at *
            obtain ⟨ow6, ou6, be6, bx6⟩ := W6.out
            have OW6 : Hid (w6.ownsRow w.heap.size 4 1 (.slice (some ⟨w.heap.size, 0, none⟩) n n) n (l2.flatMap encT)) := ow6
            have OU6 : Hid (w6.ownsRow w.heap.size 3 1 (.slice va vn vc) ts.length (ts.flatMap encI)) := ou6
            have BE6 : Hid (Below w.heap.size w w6) := be6
            have BX6 : Hid (BX 52 w6 b9 #[.int .i64 (i : Int), .int .i64 ew]) := bx6
            obtain ⟨y0, y1, _⟩ := bx6.all2
            have c6 := own_atB ow6 HBG.out
            have f6 := frozenK ow6 i
            clear ow6 ou6 be6 bx6 W6 d1' d2'
            cases hb : atB l2 (i : Int) with
            | true =>
              rw [hb] at c6
              have HN : Hid (TdM n es sv l2 ts (j : Int) ((outs es (j : Int)).drop (k + 1))) := by
                have := KT.out
                rw [HDR.out] at this
                exact this.no fun _ => hb
              clear hb
              go_wp2_with fail
              go_roundw
              case rel => exact ⟨k + 1, ts, l2, by omega, by go_num, hcn, HN.out, KV.out, OW6.out, OU6.out, BE6.out⟩
              case measure => simp [intOf]; omega
            | false =>
              rw [hb] at c6
              have HTY : Hid (TdM n es sv (l2.set i true) (ts ++ [(i : Int)]) (j : Int) ((outs es (j : Int)).drop (k + 1))) := by
                have h1 := KT.out
                rw [HDR.out] at h1
                have h2 := h1.yes HG.out HEM.out.1 (by rw [HEM.out.2]; exact KV.out) (todo' := ts ++ [(i : Int)]) fun u => by simp only [List.mem_append, List.mem_singleton]; exact Or.comm
                rw [Int.toNat_natCast] at h2
                exact h2
              have hcs := unm_set (v := (i : Int)) KT.out.ri.1 (by omega) hb
              rw [Int.toNat_natCast] at hcs
              have hcn2 : (ts.length + 1) + (l2.set i true).count false + 1 ≤ gk := by omega
              have KV2 : Hid (atB (l2.set i true) (j : Int) = true) := by
                have := atB_set (i := (i : Int)) (v := (j : Int)) (x := true) KT.out.ri.1 (by omega) (by omega)
                rw [Int.toNat_natCast] at this
                show _ = _
                rw [this]
                split
                · rfl
                · exact KV.out
              have W7 : Hid ((w6.setCell ⟨w.heap.size, i, none⟩ (.bool true)).ownsRow w.heap.size 4 1 (.slice (some ⟨w.heap.size, 0, none⟩) n n) n ((l2.set i true).flatMap encT) ∧ (w6.setCell ⟨w.heap.size, i, none⟩ (.bool true)).ownsRow w.heap.size 3 1 (.slice va vn vc) ts.length (ts.flatMap encI) ∧ Below w.heap.size w (w6.setCell ⟨w.heap.size, i, none⟩ (.bool true)) ∧ BX 52 (w6.setCell ⟨w.heap.size, i, none⟩ (.bool true)) b9 #[.int .i64 (i : Int), .int .i64 ew]) := by
                refine ⟨own_setB OW6.out, ?_, BE6.out.setCell (Nat.le_refl _) _, BX6.out.other fun e => own_block OW6.out (g := w.heap.size) rfl BX6.out (by decide) e.symm⟩
                refine own_other OU6.out ?_
                have := own_apart OU6.out OW6.out (by decide)
                exact this
              have hts : ts.length ≤ 200 := by omega
              clear hb hcs hcn
              go_upto_region 13 with fail
              generalize w6.setCell ⟨w.heap.size, i, none⟩ (.bool true) = w7 at *
              obtain ⟨ow7, ou7, be7, bx7⟩ := W7.out
              clear y0 y1 c6 f6
              obtain ⟨y0, y1, _⟩ := bx7.all2
              have OW7 : Hid (w7.ownsRow w.heap.size 4 1 (.slice (some ⟨w.heap.size, 0, none⟩) n n) n ((l2.set i true).flatMap encT)) := ow7
              have OU7 : Hid (w7.ownsRow w.heap.size 3 1 (.slice va vn vc) ts.length (ts.flatMap encI)) := ou7
              have BE7 : Hid (Below w.heap.size w w7) := be7
              have hs7 := be7.size
              clear ow7 ou7 be7 bx7 W7
              go_wp2_with (at_builtin; refine wpList_append_newK kI rfl _ _ rfl w.heap.size _ ts rfl (OU7.out.alloc _) _ (i : Int) rfl #[.int .i64 (i : Int)] rfl (0, 0) (heap_alloc_new _ _) (by simp [kI]; omega) (by unfold maxLen; omega) (by simp; omega) ?_)
              intro g8 c8 w8 hown8 hb8 hg8
              have OW8 : Hid (w8.ownsRow w.heap.size 4 1 (.slice (some ⟨w.heap.size, 0, none⟩) n n) n ((l2.set i true).flatMap encT)) := (OW7.out.alloc _).kept hg8 (own_apart (OW7.out.alloc (.cells #[.int .i64 (i : Int)] 3)) (OU7.out.alloc _) (by decide))
              have OU8 : Hid (w8.ownsRow w.heap.size 3 1 (.slice (some ⟨g8, 0, none⟩) (ts.length + 1) c8) (ts ++ [(i : Int)]).length ((ts ++ [(i : Int)]).flatMap encI)) := by
                show World.ownsRow _ _ _ _ _ _ _
                rw [flat_snoc, List.length_append]; exact hown8
              have BE8 : Hid (Below w.heap.size w w8) := (BE7.out.alloc hs7 _).trans hb8
              have hln : (ts ++ [(i : Int)]).length = ts.length + 1 := by simp
              have hcn3 : (ts ++ [(i : Int)]).length + (l2.set i true).count false + 1 ≤ gk := by omega
              clear hown8 hb8 hg8 hln y0 y1
              generalize ts ++ [(i : Int)] = ts2 at *
              go_wp2_with fail
              go_roundw
              case rel => exact ⟨k + 1, ts2, _, by omega, by go_num, hcn3, HTY.out, KV2.out, OW8.out, OU8.out, BE8.out⟩
              case measure => simp [intOf]; omega
          · have ek : k = H.length := by omega
            have IE : Hid (TdM n es sv l2 ts 0 []) := by
              have := KT.out
              rw [ek, HDE.out] at this
              exact this.any
            clear ek
            go_wp2_with fail
            go_roundg (ts.length + l2.count false)
            case measure => omega
            case rel => exact ⟨ts, l2, Nat.le_refl _, by omega, IE.out, KO.out, KU.out, KB.out⟩
    · have e0 : todo = [] := List.eq_nil_of_length_eq_zero (by omega)
      have HD : Hid (ReachL n es sv l) := by
        have := HT.out
        rw [e0] at this
        exact this.done
      subst e0
      rcases own_shapeK hU with ⟨rfl, _⟩ | ⟨g, c, rfl, _⟩
      · go_wp2_with fail
        exact HP.out _ l HD.out HO.out HB.out
      · go_wp2_with fail
        exact HP.out _ l HD.out HO.out HB.out
end Go.Proofs.Ytankibadiomkkab
