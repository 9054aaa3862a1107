/-
  For every number and ways the hops of all vertices of a graph that is made of them are its edges, in order (the law HopsAll returns true, and its arguments read as before); no condition.
-/
import Derived.Test.YtpoablcdfiimhabWayOpen
import Derived.Test.YtpoablcdfiimhabKeepHops
import Derived.Test.YtpoablcdfiimhabSameGraphK
import Derived.Test.YtpoablcdfiimhabGraphBox
import Derived.WalkKit
import Derived.ProofKit
import Derived.OpenShut
import Derived.ShutString
import Derived.SizedLaws
import Derived.ChangeOld
import Derived.Below
namespace Go.Proofs.Ytpoablcdfiimhab.hopsAll
open Go.ChangeShapes Go.WideShapes Go.ChangeAt Go.RowKit

theorem own : ownKnob Try.prog.godebug = none := by kernel_rfl
theorem laidOut : laidOutB Try.prog = true := by kernel_rfl
attribute [local go_sem ↓] exec_append
set_option maxHeartbeats 1000000 in
set_option maxRecDepth 100000 in
theorem walk (n0 : Int) (v1 : Value) (es1 : List Ed) (w : World) (hI0 : -9223372036854775808 ≤ n0 ∧ n0 ≤ 9223372036854775807) (hR1 : EdR w v1 es1) (hB1 : ∀ x ∈ es1, edB x) (hL1 : es1.length * 24 ≤ 140737488351232) :
    Calls Try.prog 4 #[.int .i64 n0, v1] w fun e w' => e = .returned (.bool true) ∧ Below w.heap.size w w' := by
  have _u := hI0
  clear _u
  have _u := hR1
  clear _u
  have _u := hB1
  clear _u
  have _u := hL1
  clear _u
  have HR : Hid (EdR w v1 es1) := hR1
  have HBW : Hid (∀ x ∈ es1, edB x) := hB1
  have hpb := pickF_bd n0 8 (by omega)
  have HM : Hid (∀ X, EdR X v1 es1 → Calls Try.prog 5 #[.int .i64 n0, v1, .int .i64 8] X fun e w' => ∃ v', e = .returned (.agg #[.int .i64 (1 + pickF n0 8), v']) ∧ w'.ownsRow X.heap.size 40 3 v' (madeL (1 + pickF n0 8) es1).length ((madeL (1 + pickF n0 8) es1).flatMap encE) ∧ Below X.heap.size X w') := fun X hX => made_any n0 8 _ es1 X hX HBW.out hI0 (by omega) (by omega)
  have F0 : Hid (faultE (1 + pickF n0 8) (madeL (1 + pickF n0 8) es1) = 0) := made_right (by omega) (by omega)
  have hEl := made_len (1 + pickF n0 8) es1
  have hn0 : 0 < 1 + pickF n0 8 := by omega
  have hn8 : 1 + pickF n0 8 ≤ 8 := by omega
  clear hpb hB1 hL1 hI0
  generalize madeL (1 + pickF n0 8) es1 = E at *
  generalize 1 + pickF n0 8 = N at *
  obtain ⟨m, rfl⟩ : ∃ m : Nat, N = m := ⟨N.toNat, by omega⟩
  have CS : Hid (∀ X v, EdR X v E → Calls Try.prog 9 #[.agg #[.int .i64 m, v]] X fun e w' => ∃ v', e = .returned (.tuple #[.agg #[.int .i64 m, v'], .int .i64 0]) ∧ w'.ownsRow X.heap.size 40 3 v' (sortE E).length ((sortE E).flatMap encE) ∧ Below X.heap.size X w') := fun X v hX => by
    have := sorted_any v E m X hX
    rwa [F0.out, okN_yes, okL_yes] at this
  have CH : Hid (∀ X v (k : Nat), k < m → EdR X v E → Calls Try.prog 8 #[.agg #[.int .i64 m, v], .int .i64 k] X fun e w' => ∃ v', e = .returned (.tuple #[v', .int .i64 0]) ∧ w'.ownsRow X.heap.size 38 2 v' (hopsL (sortE E) k).length ((hopsL (sortE E) k).flatMap encH) ∧ Below X.heap.size X w') := fun X v k hk hX => by
    have h1 := hops_any v E m k X hX
    rwa [errH_ok F0.out (by simp [insB]; omega), okL_yes] at h1
  have AA : Hid (allH (sortE E) m = sortE E) := allH_all F0.out
  have AL : Hid (∀ k, (allH (sortE E) k).length ≤ 10) := fun k => by
    have h1 := allH_len (sortE E) (sort_first E) (fun e he => (in_of_out ((fault_ok F0.out).2.2.2 e ((sortE_perm E).mem_iff.1 he))).1) k
    rw [sortE_len] at h1
    omega
  clear F0
  generalize sortE E = SE at *
  obtain ⟨a, cap, rfl⟩ := hR1.shape
  clear hR1
  go_enter Try.func4, Try.ntmps4
  go_wp2_with fail
  refine (HM.out _ HR.out).mono ?_
  rintro e w1 ⟨va, rfl, hown1, hb1⟩
  have R1 : Hid (EdR w1 va E) := RowK.own encE_len hown1
  obtain ⟨aa, ac, rfl⟩ := R1.out.shape
  have G1 : Hid (GB (w1.alloc (.cells #[.int .i64 m, .slice aa E.length ac] 25)) w1.heap.size m (.slice aa E.length ac) E) := GB.new m R1.out
  have B1 : Hid (Below w.heap.size w (w1.alloc (.cells #[.int .i64 m, .slice aa E.length ac] 25))) := hb1.alloc hb1.size _
  clear hown1 hb1 HM R1
  go_wp2_with fail
  refine (CS.out _ _ G1.out.rd).mono ?_
  rintro e w2 ⟨vb, rfl, hown2, hb2⟩
  have R2 : Hid (EdR w2 vb SE) := RowK.own encE_len hown2
  obtain ⟨ba, bc, rfl⟩ := R2.out.shape
  have hb2' := below_alloc w2 (.cells #[.int .i64 m, .slice ba SE.length bc] 25)
  have G2 : Hid (GB (w2.alloc (.cells #[.int .i64 m, .slice ba SE.length bc] 25)) w1.heap.size m (.slice aa E.length ac) E) := (G1.out.go hb2).go hb2'
  have H2 : Hid (GB (w2.alloc (.cells #[.int .i64 m, .slice ba SE.length bc] 25)) w2.heap.size m (.slice ba SE.length bc) SE) := GB.new m R2.out
  have B2 : Hid (Below w.heap.size w (w2.alloc (.cells #[.int .i64 m, .slice ba SE.length bc] 25))) := (B1.out.trans (hb2.mono B1.out.size)).alloc (Nat.le_trans B1.out.size hb2.size) _
  have hx2 : (w2.alloc (.cells #[.int .i64 m, .slice ba SE.length bc] 25)).heap.size = w2.heap.size + 1 := by simp
  have HX2 : Hid ((w2.alloc (.cells #[.int .i64 m, .slice ba SE.length bc] 25)).heap.size = w2.heap.size + 1) := hx2
  have d0 := G2.out.c0
  have d1 := G2.out.c1
  clear hx2
  clear hown2 hb2 hb2' R2 G1 B1 CS
  go_wp2_with fail
  clear d0 d1
  generalize w2.alloc (.cells #[.int .i64 m, .slice ba SE.length bc] 25) = x2 at *
  have XG : Hid (∀ V, Below (w2.heap.size + 1) x2 V → GB V w1.heap.size m (.slice aa E.length ac) E) := fun V hV => G2.out.go (by rw [HX2.out]; exact hV)
  have XS : Hid (∀ V, Below (w2.heap.size + 1) x2 V → GB V w2.heap.size m (.slice ba SE.length bc) SE) := fun V hV => H2.out.go (by rw [HX2.out]; exact hV)
  have XW : Hid (∀ V, Below (w2.heap.size + 1) x2 V → Below w.heap.size w V) := fun V hV => B2.out.trans (hV.mono (by have := B2.out.size; have := HX2.out; omega))
  have ST : Hid ((x2.alloc (.cells #[.int .i64 m, .slice none 0 0] 25)).heap[w2.heap.size + 1]? = some (.cells #[.int .i64 m, .slice none 0 0] 25 (0, 0))) := by
    show _ = _
    have := heap_alloc_new x2 (.cells #[.int .i64 m, .slice none 0 0] 25)
    rwa [HX2.out] at this
  have SU : Hid (Below (w2.heap.size + 1) x2 (x2.alloc (.cells #[.int .i64 m, .slice none 0 0] 25))) := (Below.refl _ _).alloc (by rw [HX2.out]; exact Nat.le_refl _) _
  clear G2 H2 B2
  go_loopw [9] (fun i wr => ∃ (k : Nat) (u : Value), k ≤ m ∧ i = .int .i64 k ∧ wr.ownsRow (w2.heap.size + 2) 40 3 u (allH SE k).length ((allH SE k).flatMap encE) ∧ wr.heap[w2.heap.size + 1]? = some (.cells #[.int .i64 m, u] 25 (0, 0)) ∧ Below (w2.heap.size + 1) x2 wr) (fun i _ => m - (intOf i).toNat)
  case atStart => exact ⟨0, _, by omega, rfl, World.ownsRow_nil _ _ _ _, ST.out, SU.out⟩
  case round =>
    obtain ⟨k, u, hk, rfl, hown, hbox, hbel⟩ := hrel
    have OW : Hid (wr.ownsRow (w2.heap.size + 2) 40 3 u (allH SE k).length ((allH SE k).flatMap encE)) := hown
    have HB : Hid (Below (w2.heap.size + 1) x2 wr) := hbel
    have HX : Hid (wr.heap[w2.heap.size + 1]? = some (.cells #[.int .i64 m, u] 25 (0, 0))) := hbox
    have GR : Hid (GB wr w1.heap.size m (.slice aa E.length ac) E) := XG.out _ hbel
    have hsr : w2.heap.size + 2 ≤ wr.heap.size := (Array.getElem?_eq_some_iff.1 hbox).1
    have d0 := GR.out.c0
    have d1 := GR.out.c1
    clear hown hbel hbox ST SU
    by_cases hlt : k < m
    · have hk1 : (k : Int) < (m : Int) := by omega
      go_wp2_with fail
      refine (CH.out _ _ k hlt GR.out.rd).mono ?_
      rintro e w5 ⟨vh, rfl, hown5, hb5⟩
      have O5 : Hid (w5.ownsRow (w2.heap.size + 2) 38 2 vh (hopsL SE k).length ((hopsL SE k).flatMap encH)) := own_lower hown5 hsr
      have U5 : Hid (w5.ownsRow (w2.heap.size + 2) 40 3 u (allH SE k).length ((allH SE k).flatMap encE)) := own_below OW.out hb5 (Nat.le_refl _)
      have X5 : Hid (w5.heap[w2.heap.size + 1]? = some (.cells #[.int .i64 m, u] 25 (0, 0))) := (hb5.block _ (by omega)).trans HX.out
      have B5 : Hid (Below (w2.heap.size + 1) x2 w5) := HB.out.trans (hb5.mono (by omega))
      have AK : Hid (allH SE (k + 1) = allH SE k ++ (hopsL SE k).map (edOf k)) := rfl
      have AL1 : Hid ((allH SE k).length + (hopsL SE k).length ≤ 10) := by
        have := AL.out (k + 1)
        rw [AK.out, List.length_append, List.length_map] at this
        exact this
      obtain ⟨ha, hc, ev, hcc, hcm, _, _⟩ := RowK.own encH_len O5.out
      subst ev
      unfold maxLen at hcm
      clear hown5 hb5 d0 d1 OW HB HX GR
      generalize allH SE k = f at *
      generalize hopsL SE k = L at *
      go_wp2_with fail
      go_loopw [12] (fun j wq => ∃ (i : Nat) (u : Value), i ≤ L.length ∧ j = .int .i64 i ∧ wq.ownsRow (w2.heap.size + 2) 40 3 u (f ++ (L.take i).map (edOf k)).length ((f ++ (L.take i).map (edOf k)).flatMap encE) ∧ wq.ownsRow (w2.heap.size + 2) 38 2 (.slice ha L.length hc) L.length (L.flatMap encH) ∧ wq.heap[w2.heap.size + 1]? = some (.cells #[.int .i64 m, u] 25 (0, 0)) ∧ Below (w2.heap.size + 1) x2 wq) (fun j _ => L.length - (intOf j).toNat)
      case atStart => exact ⟨0, u, by omega, rfl, by simpa using U5.out, O5.out, X5.out, B5.out⟩
      case round =>
        obtain ⟨i, u, hi, rfl, hown, hhop, hbox, hbel⟩ := hrel
        have OW : Hid (wr.ownsRow (w2.heap.size + 2) 40 3 u (f ++ (L.take i).map (edOf k)).length ((f ++ (L.take i).map (edOf k)).flatMap encE)) := hown
        have OH : Hid (wr.ownsRow (w2.heap.size + 2) 38 2 (.slice ha L.length hc) L.length (L.flatMap encH)) := hhop
        have HB : Hid (Below (w2.heap.size + 1) x2 wr) := hbel
        have HX : Hid (wr.heap[w2.heap.size + 1]? = some (.cells #[.int .i64 m, u] 25 (0, 0))) := hbox
        have hsq : w2.heap.size + 2 ≤ wr.heap.size := (Array.getElem?_eq_some_iff.1 hbox).1
        have x1 : wr.cell? ⟨w2.heap.size + 1, 1, none⟩ = some u := by rw [cell_of_row _ _ _ _ _ _ hbox]; rfl
        have x2f : wr.frozen? ⟨w2.heap.size + 1, 1, none⟩ = false := by simp only [World.frozen?, hbox]; simp
        obtain ⟨ua, un, uc, rfl⟩ : ∃ a n c, u = .slice a n c := by obtain ⟨a, c, e, _⟩ := RowK.own encE_len hown; exact ⟨_, _, _, e⟩
        clear hown hhop hbel hbox O5 U5 X5 B5
        by_cases hli : i < L.length
        · obtain ⟨hb, ho, hcap, e1, _, _, lt, hv⟩ := HpR.at (RowK.own encH_len OH.out) (by omega)
          injection e1 with e1 _ e3
          subst e1 e3
          obtain ⟨h, hh⟩ := getX hli
          obtain ⟨c1, c2⟩ := hv i h hh
          have HT : Hid (f ++ (L.take (i + 1)).map (edOf k) = (f ++ (L.take i).map (edOf k)) ++ [edOf k h]) := by
            show _ = _
            rw [take_snoc hh, List.map_append, List.append_assoc]; rfl
          have hfl : (f ++ (L.take i).map (edOf k)).length ≤ 10 := by have := AL1.out; simp; omega
          have p0 : (0 : Int) ≤ (i : Int) := by omega
          have p1 : (i : Int) < (L.length : Int) := by omega
          clear hv hh
          generalize f ++ (L.take i).map (edOf k) = F at *
          go_wp2_with fail
          have hsz : (wr.alloc (.cells #[.int .i64 (k : Int), .int .i64 h.1, .int .i64 h.2] 40)).drew.heap.size = wr.heap.size + 1 := by simp
          obtain ⟨g, gc, W2, a1, a2, a3, hown2, hb2, hgr⟩ := app_newK kE (w := (wr.alloc (.cells #[.int .i64 (k : Int), .int .i64 h.1, .int .i64 h.2] 40)).drew) 23 (w2.heap.size + 2) (.slice ua un uc) F ((OW.out.alloc _).drew) wr.heap.size (edOf k h) #[.int .i64 (k : Int), .int .i64 h.1, .int .i64 h.2] rfl (0, 0) (heap_alloc_new wr _) (by simp only [kE]; omega) (by unfold maxLen; omega) (by rw [hsz]; omega)
          unfold kE at a1 a2 a3
          simp only at a1 a2 a3
          have hbb : Below (w2.heap.size + 2) wr W2 := (((Below.refl _ _).alloc hsq _).drew).trans hb2
          have y0 : W2.cell? ⟨w2.heap.size + 1, 1, none⟩ = some (.slice ua un uc) := (hbb.cell (p := ⟨w2.heap.size + 1, 1, none⟩) (Nat.lt_succ_self _)).trans x1
          have y1 : W2.frozen? ⟨w2.heap.size + 1, 1, none⟩ = false := (hbb.frozen (p := ⟨w2.heap.size + 1, 1, none⟩) (Nat.lt_succ_self _)).trans x2f
          have O2 : Hid (W2.ownsRow (w2.heap.size + 2) 40 3 (.slice (some ⟨g, 0, none⟩) (F.length + 1) gc) (f ++ (L.take (i + 1)).map (edOf k)).length ((f ++ (L.take (i + 1)).map (edOf k)).flatMap encE)) := by
            show World.ownsRow _ _ _ _ _ _ _
            rw [HT.out]; exact hown2
          have P2 : Hid (W2.ownsRow (w2.heap.size + 2) 38 2 (.slice (some ⟨hb, ho, none⟩) L.length hc) L.length (L.flatMap encH)) := ((OH.out.alloc _).drew).kept hgr (own_apart OH.out OW.out (by decide))
          have X2 : Hid (W2.heap[w2.heap.size + 1]? = some (.cells #[.int .i64 m, .slice ua un uc] 25 (0, 0))) := (hbb.block _ (Nat.lt_succ_self _)).trans HX.out
          have B2 : Hid (Below (w2.heap.size + 1) x2 W2) := HB.out.trans (hbb.mono (by omega))
          have x3 : ∀ X, (wr.alloc X).cell? ⟨w2.heap.size + 1, 1, none⟩ = some (.slice ua un uc) := fun X => ((below_alloc wr X).cell (p := ⟨w2.heap.size + 1, 1, none⟩) (show w2.heap.size + 1 < wr.heap.size by omega)).trans x1
          clear hown2 hb2 hgr hsz hbb
          go_region
          go_wp2_with fail
          go_roundw
          case rel => exact ⟨i + 1, .slice (some ⟨g, 0, none⟩) (F.length + 1) gc, by omega, by go_num, RowK.setBelow O2.out (show w2.heap.size + 1 < w2.heap.size + 2 by omega) _, ownsRow_setCell_below P2.out (show w2.heap.size + 1 < w2.heap.size + 2 by omega) _, heap_set1 X2.out, B2.out.setCell (Nat.le_refl _) _⟩
          case measure => simp [intOf]; omega
        · have ei : L.take i = L := List.take_of_length_le (by omega)
          have O2 : Hid (wr.ownsRow (w2.heap.size + 2) 40 3 (.slice ua un uc) (allH SE (k + 1)).length ((allH SE (k + 1)).flatMap encE)) := by
            show World.ownsRow _ _ _ _ _ _ _
            rw [AK.out]
            have := OW.out
            rwa [ei] at this
          clear ei OW OH
          go_wp2_with fail
          go_roundw
          case rel => exact ⟨k + 1, .slice ua un uc, by omega, by go_num, O2.out, HX.out, HB.out⟩
          case measure => simp [intOf]; omega
    · have ek : k = m := by omega
      subst ek
      have O2 : Hid (EdR wr u SE) := by
        have := OW.out
        rw [AA.out] at this
        exact RowK.own encE_len this
      obtain ⟨ua, uc, rfl⟩ := O2.out.shape
      have SR := XS.out _ HB.out
      have SRR : Hid (EdR wr (.slice ba SE.length bc) SE) := SR.rd
      have e0 : wr.cell? ⟨w2.heap.size + 1, 0, none⟩ = some (.int .i64 k) := by rw [cell_of_row _ _ _ _ _ _ HX.out]; rfl
      have e1 : wr.cell? ⟨w2.heap.size + 1, 1, none⟩ = some (.slice ua SE.length uc) := by rw [cell_of_row _ _ _ _ _ _ HX.out]; rfl
      have e2 := SR.c0
      have e3 := SR.c1
      have h00 : ((0 : Int) == 0) = true := rfl
      clear OW SR
      go_wp2_with fail
      refine (sameGraphK_yes _ _ SE k _ O2.out SRR.out).mono ?_
      rintro e w6 ⟨rfl, hb6⟩
      have B6 : Hid (Below w.heap.size w w6) := (XW.out _ HB.out).trans (hb6.mono (XW.out _ HB.out).size)
      clear hb6 d0 d1 e0 e1 e2 e3
      go_wp2_with fail
      go_ret
      exact ⟨ret_bool (by simp), B6.out⟩

set_option maxHeartbeats 400000 in
set_option maxRecDepth 100000 in
theorem lifted (os : Os) (started : os.Started) (H : Type) (enc : TypeId × Value → H) :
    ReturnsInHanded {} Try.checked os 4 .any (Rows.hopsAllSpec.pre6 enc Try.prog Try.f4 Rows.hopsAllRow.domain false) (Rows.hopsAllSpec.post enc Try.prog Try.f4 false true false false) := by
  refine returnsInHanded_of_change_sized (C := Try.checked) own started (by kernel_rfl) Try.func4
    (ChangeSpec.witness6 (enc := enc) (C := Try.checked) false ⟨#[], #[.int .i64 0, .slice none 0 0], []⟩ 8 (by kernel_rfl) (by kernel_rfl) (by kernel_rfl) (by kernel_rfl)) ?_
  intro W base args ds gs before hval0 hW _ hsz0 _
  have hval : ∀ (j : Nat) t v, Try.f4.params[j]? = some t → args[j]? = some v → Value.okWide Try.prog W .any base t v := hval0
  have hW' := hW
  obtain ⟨p, q, hA0, hV, rfl, hfz, hnd⟩ := hW
  have hA : DataW.TrodAll enc Try.prog W 0 (fun _ => true) true Try.f4.params.toList args.toList ds p := hA0
  have hsz : (DataW.weightsEach Try.prog (Try.f4.params.toList ++ Rows.hopsAllSpec.plain.varTypes Try.prog) (ds ++ gs)).all (fun x => decide (x ≤ reachBytes)) = true := hsz0
  rw [Try.params4] at hA hval hsz
  obtain ⟨v0, vs0, d0, ds0, p0, q0, hargs, rfl, rfl, h0, r0⟩ := trodAll_cons hA
  obtain ⟨v1, vs1, d1, ds1, p1, q1, rfl, rfl, rfl, h1, r1⟩ := trodAll_cons r0
  obtain ⟨rfl, rfl, rfl⟩ := trodAll_nil r1
  obtain rfl : args = #[v0, v1] := by cases args; simp_all
  obtain ⟨rfl, rfl⟩ := trodVars_none hV
  have k0 := h0
  have lt0 : ∀ x ∈ p0, x.block < W.heap.size := by obtain ⟨m, hm⟩ := k0; exact DataW.trod_lt m _ _ _ hm
  have k1 := h1
  have lt1 : ∀ x ∈ p1, x.block < W.heap.size := by obtain ⟨m, hm⟩ := k1; exact DataW.trod_lt m _ _ _ hm
  have hw1 : ∀ m ∈ d1.weights Try.prog 22, m ≤ reachBytes := fun m hm => by simpa using List.all_eq_true.1 hsz _ (DataW.weights_mem_each (j := 1) (t := 22) rfl rfl m hm)
  obtain ⟨n0, rfl, _, _, wf0⟩ := open_int Try.underlying3 (hval 0 3 v0 rfl rfl) h0
  have hI0 := bounds_i64 wf0
  obtain ⟨es1, hR1, hB1, hL1⟩ := open_ways (okWide_slice Try.underlying22 (hval 1 22 v1 rfl rfl)) h1 hw1
  clear hA0 hval0
  refine (walk n0 v1 es1 W hI0 hR1 hB1 hL1).mono fun e W' ⟨he, bel⟩ => ?_
  subst he
  exact ⟨_, rfl, _, _, _, [], _, [], hW', trodAll_mk1 (shut_bool Try.underlying4 _), (trodAll_cons_mk (Below.trod laidOut (by kernel_rfl) (of_decide_eq_true (by kernel_rfl)) k0 bel lt0) (trodAll_cons_mk (Below.trod laidOut (by kernel_rfl) (of_decide_eq_true (by kernel_rfl)) k1 bel lt1) trodAll_mk0)), rfl, bel.frame _, fun h => by cases h⟩

theorem over : Rows.hopsAllRow.holds Try.pinned (OpenSpec.ofChange Rows.hopsAllSpec) :=
  OpenClaim.holds_of_wide 4 Try.f4 rfl rfl rfl rfl rfl rfl rfl ⟨rfl, rfl, rfl, rfl, rfl⟩ rfl rfl rfl rfl rfl (by kernel_rfl) Try.func4 (by kernel_rfl)
    (of_decide_eq_true (by kernel_rfl)) (by unfold Func.isWrapper; first | (rw [if_pos (by decide +kernel)]; kernel_rfl) | (rw [if_neg (by decide +kernel)]; exact ⟨rfl, rfl⟩))
    (fun os started H enc _ => lifted os started H enc)

/-- The statement. -/
theorem proved : Rows.HopsAllSaid := over
#print axioms proved
end Go.Proofs.Ytpoablcdfiimhab.hopsAll
