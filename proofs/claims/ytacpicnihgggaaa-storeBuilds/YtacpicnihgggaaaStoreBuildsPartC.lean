/-
  Contract of the document's own Built.
  Contract of the law's own sameGraph, of graphs that read alike.
  Contract of the law's own graphs: a copy of a graph.
-/
import Derived.Test.YtacpicnihgggaaaStoreBuildsPartA
import Derived.Test.YtacpicnihgggaaaStoreBuildsPartB
import Derived.Test.YtacpicnihgggaaaGraphTwo
import Derived.Deep.QuietTactic
import Derived.BigQuiet

namespace Go.Proofs.Ytacpicnihgggaaa
set_option maxRecDepth 100000
open Go.ChangeShapes Go.WideShapes Go.ChangeAt Go.RowKit

set_option maxHeartbeats 4000000 in
set_option maxRecDepth 100000 in
theorem built_any (v : Value) (es : List Ed) (n wk k : Int) (w : World) (h : EdR w v es) (hkk : -9223372036854775808 ≤ k ∧ k ≤ 9223372036854775807) :
    Calls Try.prog 10 #[.agg #[.int .i64 n, v], .int .i64 wk, .int .i64 k] w fun e w' => BldP w w' (buildF wk k n es) e := by
  have HR : Hid (EdR w v es) := h
  obtain ⟨a, cap, rfl⟩ := h.shape
  clear h
  have HCK : Hid (∀ X, EdR X (.slice a es.length cap) es → Calls Try.prog 29 #[.agg #[.int .i64 n, .slice a es.length cap]] X fun e w' => ∃ v', e = .returned (.tuple #[.agg #[.int .i64 (okN (faultE n es) n), v'], .int .i64 (faultE n es)]) ∧ w'.ownsRow X.heap.size 67 3 v' (okL (faultE n es) (sortE (es.map turnE))).length ((okL (faultE n es) (sortE (es.map turnE))).flatMap encE) ∧ Below X.heap.size X w') := fun X hX => refReversed_any _ es n X hX
  have G0 : Hid (GX (w.alloc (.cells #[.int .i64 n, .slice a es.length cap] 24)) w.heap.size n (.slice a es.length cap) ∧ Below w.heap.size w (w.alloc (.cells #[.int .i64 n, .slice a es.length cap] 24)) ∧ EdR (w.alloc (.cells #[.int .i64 n, .slice a es.length cap] 24)) (.slice a es.length cap) es) := ⟨heap_alloc_new w _, below_alloc _ _, HR.out.below (below_alloc _ _) (Nat.le_refl _)⟩
  by_cases hf : faultE n es = 0
  · rw [hf, okN_yes, okL_yes] at HCK
    obtain ⟨hn0, hn1, hle, _⟩ := fault_ok hf
    have HGS : Hid (∀ v, GoodH (hopsL (sortE es) v)) := fun v => good_hops hf v
    have HGT : Hid (∀ v, GoodH (hopsL (sortE (es.map turnE)) v)) := fun v => good_hops (turn_fault hf) v
    have hls : (sortE es).length ≤ 600 := by rw [sortE_len]; exact hle
    have hlt' : (sortE (es.map turnE)).length ≤ 600 := by rw [sortE_len, List.length_map]; exact hle
    have HMN : Hid (∀ X, Calls Try.prog 30 #[.int .i64 wk, .int .i64 n, .int .i64 k] X fun e w' => ∃ v', e = .returned (.tuple #[v', .int .i64 (errO wk k n k)]) ∧ w'.ownsRow X.heap.size 3 1 v' (okL (errO wk k n k) (mineL wk.toNat n.toNat k.toNat)).length ((okL (errO wk k n k) (mineL wk.toNat n.toNat k.toNat)).flatMap encI) ∧ Below X.heap.size X w') := fun X => mineOf_any wk n k X hkk
    by_cases he : errO wk k n k = 0
    · obtain ⟨⟨_, _, hk1, hk8⟩, hw0, hwk⟩ := errO_inv he
      have HOK : Hid ((payB wk k n es).length ≤ 20000 → buildF wk k n es = (wrap (payB wk k n es), 0)) := build_ok hf he
      have HOV : Hid (¬ (payB wk k n es).length ≤ 20000 → buildF wk k n es = ([], 1)) := build_over hf he
      have HPB : Hid (∀ x ∈ payB wk k n es, 0 ≤ x ∧ x ≤ 255) := payB_bytes hf he
      have HPY : Hid (payB wk k n es = (put wk ++ put k ++ put n) ++ bodyB (sortE es) (sortE (es.map turnE)) (mineL wk.toNat n.toNat k.toNat)) := by show _ = _; unfold payB numsB; simp
      have hML : (mineL wk.toNat n.toNat k.toNat).length ≤ 200 := by rw [mineL_len]; exact Nat.le_trans (cnt_le (by omega)) (by omega)
      have HMI : Hid (∀ x ∈ mineL wk.toNat n.toNat k.toNat, 0 ≤ x ∧ x < n) := fun x hx => by
        unfold mineL at hx
        obtain ⟨i, hi, rfl⟩ := List.mem_map.1 hx
        have h1 : i < cntO wk.toNat n.toNat k.toNat := by simpa using hi
        rw [cnt_more (by omega) (by omega)] at h1
        omega
      rw [he, okL_yes] at HMN
      obtain ⟨N, rfl⟩ : ∃ m : Nat, n = m := ⟨n.toNat, by omega⟩
      have HHF : Hid (∀ (X : World) (j : Int), EdR X (.slice a es.length cap) es → Calls Try.prog 32 #[.slice a es.length cap, .int .i64 j] X fun e w' => ∃ v', e = .returned v' ∧ w'.ownsRow X.heap.size 87 2 v' (hopsL (sortE es) j).length ((hopsL (sortE es) j).flatMap encH) ∧ Below X.heap.size X w') := fun X j hX => hopsOf_any _ es j X hX hle
      have HHT : Hid (∀ (X : World) (v : Value) (j : Int), EdR X v (sortE (es.map turnE)) → Calls Try.prog 32 #[v, .int .i64 j] X fun e w' => ∃ v', e = .returned v' ∧ w'.ownsRow X.heap.size 87 2 v' (hopsL (sortE (es.map turnE)) j).length ((hopsL (sortE (es.map turnE)) j).flatMap encH) ∧ Below X.heap.size X w') := fun X v j hX => by
        have := hopsOf_any v (sortE (es.map turnE)) j X hX hlt'
        rwa [sort_sort] at this
      have eho : ∀ args w, (callFunc 32 args).run Try.prog w = .ok (.enter 32 args) w := enters_of Try.func32 (by kernel_rfl) rfl
      clear hf he
      have hu1 : IntKind.u64.wrap wk = wk := by rw [IntKind.wrap_u64]; omega
      have hu2 : IntKind.u64.wrap k = k := by rw [IntKind.wrap_u64]; omega
      have hu3 : IntKind.u64.wrap (N : Int) = (N : Int) := by rw [IntKind.wrap_u64]; omega
      have hp1 := put_len wk
      have hp2 := put_len k
      have hp3 := put_len (N : Int)
      generalize buildF wk k N es = res at *
      generalize payB wk k N es = pay at *
      generalize mineL wk.toNat (N : Int).toNat k.toNat = ML at *
      generalize sortE es = ss at *
      generalize sortE (es.map turnE) = tt at *
      go_enter Try.func10, Try.ntmps10
      go_upto_region 1 with fail
      generalize w.alloc (.cells #[.int .i64 (N : Int), .slice a es.length cap] 24) = w0 at *
      obtain ⟨c0, c1⟩ := G0.out.1.cells
      go_wp2_with fail
      refine (HCK.out w0 G0.out.2.2).mono ?_
      rintro e w1 ⟨rv, rfl, hown, hb1⟩
      obtain ⟨ra, rc, rfl⟩ := (RowK.own encE_len hown).shape
      have Q1 : Hid (GX (w1.alloc (.cells #[.int .i64 (N : Int), .slice ra tt.length rc] 24)) w.heap.size N (.slice a es.length cap) ∧ GX (w1.alloc (.cells #[.int .i64 (N : Int), .slice ra tt.length rc] 24)) w1.heap.size N (.slice ra tt.length rc) ∧ EdR (w1.alloc (.cells #[.int .i64 (N : Int), .slice ra tt.length rc] 24)) (.slice ra tt.length rc) tt ∧ EdR (w1.alloc (.cells #[.int .i64 (N : Int), .slice ra tt.length rc] 24)) (.slice a es.length cap) es ∧ Below w.heap.size w (w1.alloc (.cells #[.int .i64 (N : Int), .slice ra tt.length rc] 24))) :=
        ⟨(G0.out.1.below hb1 (Nat.le_refl _)).below (below_alloc _ _) (Nat.le_refl _), heap_alloc_new w1 _, (RowK.own encE_len hown).below (below_alloc _ _) (Nat.le_refl _), (G0.out.2.2.below hb1 (Nat.le_refl _)).below (below_alloc _ _) (Nat.le_refl _), (G0.out.2.1.trans (hb1.mono (by have := G0.out.2.1.size; omega))).alloc (by have := G0.out.2.1.size; have := hb1.size; omega) _⟩
      clear hown hb1 HCK G0 HR c0 c1
      go_upto_region 4 with fail
      generalize (w1.alloc (.cells #[.int .i64 (N : Int), .slice ra tt.length rc] 24)) = w2 at *
      generalize w1.heap.size = RB at *
      obtain ⟨c0, c1⟩ := Q1.out.1.cells
      go_wp2_with fail
      refine (HMN.out w2).mono ?_
      rintro e w3 ⟨mv, rfl, hown, hb3⟩
      obtain ⟨ma, mc, rfl⟩ := (RowK.own encI_len hown).shape
      have Q2 : Hid (GX w3 w.heap.size N (.slice a es.length cap) ∧ GX w3 RB N (.slice ra tt.length rc) ∧ EdR w3 (.slice ra tt.length rc) tt ∧ EdR w3 (.slice a es.length cap) es ∧ InR w3 (.slice ma ML.length mc) ML ∧ Below w.heap.size w w3) :=
        ⟨Q1.out.1.below hb3 (Nat.le_refl _), Q1.out.2.1.below hb3 (Nat.le_refl _), Q1.out.2.2.1.below hb3 (Nat.le_refl _), Q1.out.2.2.2.1.below hb3 (Nat.le_refl _), RowK.own encI_len hown, Q1.out.2.2.2.2.trans (hb3.mono Q1.out.2.2.2.2.size)⟩
      clear hown hb3 Q1 HMN c0 c1
      go_wp2_with fail
      refine (packed_any 9 wk w3 (by omega) (lt_128_10 (by omega)) (by omega)).mono ?_
      rintro e w4 ⟨v4, rfl, hown4, hb4⟩
      have O4 : Hid (w4.ownsRow w3.heap.size 5 1 v4 (put wk).length ((put wk).map (Value.int .u8))) := hown4
      have B4 : Hid (Below w3.heap.size w3 w4) := hb4
      have hs4 := hb4.size
      clear hown4 hb4
      go_wp2_with fail
      refine (packed_any 9 k w4 (by omega) (lt_128_10 (by omega)) (by omega)).mono ?_
      rintro e w5 ⟨v5, rfl, hown5, hb5⟩
      have R5 : Hid (Reads .u8 w5 v5 (put k)) := reads_own hown5
      have O5 : Hid (w5.ownsRow w3.heap.size 5 1 v4 (put wk).length ((put wk).map (Value.int .u8))) := own_below O4.out hb5 (Nat.le_refl _)
      have B5 : Hid (Below w3.heap.size w3 w5) := B4.out.trans (hb5.mono hs4)
      have hs5 := B5.out.size
      clear hown5 hb5 O4 B4
      go_wp2_with (at_builtin; refine wpList_append_reads rfl _ _ rfl w3.heap.size _ (put wk) rfl O5.out _ (put k) rfl R5.out (by omega) (by omega) ?_)
      intro v6 w6 hown6 hb6 _
      have O6 : Hid (w6.ownsRow w3.heap.size 5 1 v6 (put wk ++ put k).length ((put wk ++ put k).map (Value.int .u8))) := by
        show World.ownsRow _ _ _ _ _ _ _
        simpa using hown6
      have B6 : Hid (Below w3.heap.size w3 w6) := B5.out.trans hb6
      have hs6 := B6.out.size
      obtain ⟨c0, c1⟩ := (Q2.out.1.below B6.out (Nat.le_refl _)).cells
      have hpl2 : (put wk ++ put k).length ≤ 20 := by rw [List.length_append]; omega
      clear hown6 hb6 O5 B5 R5
      go_wp2_with fail
      refine (packed_any 9 (N : Int) w6 (by omega) (lt_128_10 (by omega)) (by omega)).mono ?_
      rintro e w7 ⟨v7, rfl, hown7, hb7⟩
      have R7 : Hid (Reads .u8 w7 v7 (put (N : Int))) := reads_own hown7
      have O7 : Hid (w7.ownsRow w3.heap.size 5 1 v6 (put wk ++ put k).length ((put wk ++ put k).map (Value.int .u8))) := own_below O6.out hb7 (Nat.le_refl _)
      have B7 : Hid (Below w3.heap.size w3 w7) := B6.out.trans (hb7.mono hs6)
      have hs7 := B7.out.size
      clear hown7 hb7 O6 B6 c0 c1
      generalize put wk ++ put k = PK at *
      go_wp2_with (at_builtin; refine wpList_append_reads rfl _ _ rfl w3.heap.size _ PK rfl O7.out _ (put (N : Int)) rfl R7.out (by omega) (by omega) ?_)
      intro v8 w8 hown8 hb8 _
      have O8 : Hid (w8.ownsRow w3.heap.size 5 1 v8 (PK ++ put (N : Int)).length ((PK ++ put (N : Int)).map (Value.int .u8))) := by
        show World.ownsRow _ _ _ _ _ _ _
        simpa using hown8
      have B8 : Hid (Below w3.heap.size w3 w8) := B7.out.trans hb8
      have hP0 : (PK ++ put (N : Int)).length ≤ 30 := by rw [List.length_append]; omega
      clear hown8 hb8 O7 B7 R7
      generalize PK ++ put (N : Int) = P0 at *
      generalize hBS : w3.heap.size = BS at *
      have hmc : mc ≤ maxLen := by obtain ⟨_, _, e, _, h, _⟩ := Q2.out.2.2.2.2.1; injection e with _ _ e3; rw [e3]; exact h
      unfold maxLen at hmc
      go_wp2_with fail
      go_loopw [11, 12] (fun s i wr => ∃ kk : Nat, kk ≤ ML.length ∧ i = .int .i64 kk ∧ wr.ownsRow BS 5 1 s (P0 ++ bodyB ss tt (ML.take kk)).length ((P0 ++ bodyB ss tt (ML.take kk)).map (Value.int .u8)) ∧ Below BS w3 wr) (fun _ i _ => ML.length - (intOf i).toNat)
      case atStart => exact ⟨0, by omega, rfl, by simpa [bodyB] using O8.out, B8.out⟩
      case round =>
        obtain ⟨kk, hkk, rfl, hown, hbel⟩ := hrel
        have OW : Hid (wr.ownsRow BS 5 1 u11 (P0 ++ bodyB ss tt (ML.take kk)).length ((P0 ++ bodyB ss tt (ML.take kk)).map (Value.int .u8))) := hown
        have HB : Hid (Below BS w3 wr) := hbel
        have hsr : BS ≤ wr.heap.size := by have := hbel.size; omega
        clear hown hbel O8 B8
        by_cases hlt : kk < ML.length
        · obtain ⟨x, hx⟩ := getX hlt
          have hxi := HMI.out x (List.mem_of_getElem? hx)
          obtain ⟨j, rfl⟩ : ∃ j : Nat, x = j := ⟨x.toNat, by omega⟩
          have HT : Hid (P0 ++ bodyB ss tt (ML.take (kk + 1)) = (P0 ++ bodyB ss tt (ML.take kk)) ++ hopsB (hopsL ss (j : Int)) ++ hopsB (hopsL tt (j : Int))) := by show _ = _; rw [take_snoc hx, bodyB_snoc]; simp
          have hbl := bodyB_len hls hlt' (ML.take kk)
          have hbl2 : (P0 ++ bodyB ss tt (ML.take kk)).length ≤ 5000000 := by rw [List.length_append]; rw [List.length_take] at hbl; omega
          obtain ⟨mb, mo, mc', e1, _, _, mlt, hmv⟩ := InR.at Q2.out.2.2.2.2.1 (by omega)
          injection e1 with e1 _ e3
          subst e1 e3
          have D1 := hmv kk (j : Int) hx
          have hhl := hops_len ss (j : Int)
          have hhl2 := hops_len tt (j : Int)
          have HGJ : Hid (GoodH (hopsL ss (j : Int))) := HGS.out _
          have HGJ2 : Hid (GoodH (hopsL tt (j : Int))) := HGT.out _
          have i1 : (0 : Int) ≤ (kk : Int) := by omega
          have i2 : (kk : Int) < (ML.length : Int) := by omega
          have hhs1 := hopsB_len (hopsL ss (j : Int))
          have hhs2 := hopsB_len (hopsL tt (j : Int))
          have KS : Hid (∀ V, Below wr.heap.size wr V → V.cell? ⟨w.heap.size, 1, none⟩ = some (.slice a es.length cap) ∧ V.cell? ⟨mb, mo + kk, none⟩ = some (.int .i64 (j : Int))) := fun V hV => by
            have hB : Below BS w3 V := HB.out.trans (hV.mono hsr)
            exact ⟨(Q2.out.1.below hB (by omega)).cells.2, (hB.cell (p := ⟨mb, mo + kk, none⟩) (by show mb < BS; omega)).trans D1⟩
          have ER : Hid (EdR wr.drew (.slice a es.length cap) es) := (Q2.out.2.2.2.1.below HB.out (by omega)).below (Below.refl _ _).drew (Nat.le_refl _)
          clear hmv hx hbl
          generalize P0 ++ bodyB ss tt (ML.take kk) = acc at *
          go_upto_region 12 with fail
          refine wp_region_held (S := fun V => V.cell? ⟨w.heap.size, 1, none⟩ = some (.slice a es.length cap) ∧ V.cell? ⟨mb, mo + kk, none⟩ = some (.int .i64 (j : Int))) (by kernel_rfl) ?_
          simp only [List.size_toArray, List.length_cons, List.length_nil, Nat.reduceAdd]
          refine takeH (i := 0) (v := .pointer (some ⟨w.heap.size, 1, none⟩)) (d := 55) rfl rfl (by kernel_rfl) (by kernel_rfl) (by kernel_rfl) (fun _ _ _ h => h) (by rfl) (fun V hV => by obtain ⟨v1, v2⟩ := hV; go_simp) (KS.out _ (Below.refl _ _).drew) ?_
          simp only [Act.put, List.setIfInBounds_toArray, List.set_cons_zero, List.set_cons_succ]
          refine takeH (i := 1) (v := .slice a es.length cap) (d := 56) rfl rfl (by kernel_rfl) (by kernel_rfl) (by kernel_rfl) (fun _ _ _ h => h) (by rfl) (fun V hV => by obtain ⟨v1, v2⟩ := hV; go_simp) (KS.out _ (Below.refl _ _).drew) ?_
          simp only [Act.put, List.setIfInBounds_toArray, List.set_cons_zero, List.set_cons_succ]
          refine takeH (i := 2) (v := .slice (some ⟨mb, mo, none⟩) ML.length mc) (d := 57) rfl rfl (by kernel_rfl) (by kernel_rfl) (by kernel_rfl) (fun _ _ _ h => h) (by rfl) (fun V hV => by obtain ⟨v1, v2⟩ := hV; go_simp) (KS.out _ (Below.refl _ _).drew) ?_
          simp only [Act.put, List.setIfInBounds_toArray, List.set_cons_zero, List.set_cons_succ]
          refine takeH (i := 3) (v := .int .i64 (kk : Int)) (d := 58) rfl rfl (by kernel_rfl) (by kernel_rfl) (by kernel_rfl) (fun _ _ _ h => h) (by rfl) (fun V hV => by obtain ⟨v1, v2⟩ := hV; go_simp) (KS.out _ (Below.refl _ _).drew) ?_
          simp only [Act.put, List.setIfInBounds_toArray, List.set_cons_zero, List.set_cons_succ]
          refine takeH (i := 4) (v := .pointer (some ⟨mb, mo + kk, none⟩)) (d := 59) rfl rfl (by kernel_rfl) (by kernel_rfl) (by kernel_rfl) (fun _ _ _ h => h) (by rfl) (fun V hV => by obtain ⟨v1, v2⟩ := hV; go_simp) (KS.out _ (Below.refl _ _).drew) ?_
          simp only [Act.put, List.setIfInBounds_toArray, List.set_cons_zero, List.set_cons_succ]
          refine takeH (i := 5) (v := .int .i64 (j : Int)) (d := 60) rfl rfl (by kernel_rfl) (by kernel_rfl) (by kernel_rfl) (fun _ _ _ h => h) (by rfl) (fun V hV => by obtain ⟨v1, v2⟩ := hV; go_simp) (KS.out _ (Below.refl _ _).drew) ?_
          simp only [Act.put, List.setIfInBounds_toArray, List.set_cons_zero, List.set_cons_succ]
          refine oneH (i := 6) rfl (by kernel_rfl) rfl (call_gets (d := 61) (f := 32) (xs := #[.tmp 56, .tmp 60]) (ats := #[22, 3]) rfl rfl eho (vs := #[.slice a es.length cap, .int .i64 (j : Int)]) (by simp [Act.eval]) (HHF.out _ _ ER.out) ?_)
          rintro ov wo ⟨hoo, hbo⟩
          have Bo : Below wr.heap.size wr wo := below_undrew hbo
          refine ⟨KS.out _ Bo, ?_⟩
          simp only [Act.put, List.setIfInBounds_toArray, List.set_cons_zero, List.set_cons_succ]
          refine takeH (i := 7) (v := ov) (d := 13) rfl rfl (by kernel_rfl) (by kernel_rfl) (by kernel_rfl) (fun _ _ _ h => h) (by rfl) (fun V hV => by obtain ⟨v1, v2⟩ := hV; go_simp) (KS.out _ Bo) ?_
          simp only [Act.put, List.setIfInBounds_toArray, List.set_cons_zero, List.set_cons_succ]
          refine wpAnyH_done (by kernel_rfl) ?_ _
          have FO : Hid (HpR wo ov (hopsL ss (j : Int))) := RowK.own encH_len hoo
          have HBo : Hid (Below BS w3 wo) := HB.out.trans (Bo.mono hsr)
          have OWo : Hid (wo.ownsRow BS 5 1 u11 acc.length (acc.map (Value.int .u8))) := own_below OW.out Bo (Nat.le_refl _)
          obtain ⟨oa, oc, rfl⟩ := FO.out.shape
          have hso : BS ≤ wo.heap.size := by have := HBo.out.size; omega
          have KT : Hid (∀ V, Below wo.heap.size wo V → V.cell? ⟨RB, 1, none⟩ = some (.slice ra tt.length rc) ∧ V.cell? ⟨mb, mo + kk, none⟩ = some (.int .i64 (j : Int))) := fun V hV => by
            have hB : Below BS w3 V := HBo.out.trans (hV.mono hso)
            exact ⟨(Q2.out.2.1.below hB (by omega)).cells.2, (hB.cell (p := ⟨mb, mo + kk, none⟩) (by show mb < BS; omega)).trans D1⟩
          have ET : Hid (EdR wo.drew (.slice ra tt.length rc) tt) := (Q2.out.2.2.1.below HBo.out (by omega)).below (Below.refl _ _).drew (Nat.le_refl _)
          clear hoo hbo Bo KS ER OW HB
          show Exit.then _ _ _ _ _
          go_upto_region 13 with fail
          refine wp_region_held (S := fun V => V.cell? ⟨RB, 1, none⟩ = some (.slice ra tt.length rc) ∧ V.cell? ⟨mb, mo + kk, none⟩ = some (.int .i64 (j : Int))) (by kernel_rfl) ?_
          simp only [List.size_toArray, List.length_cons, List.length_nil, Nat.reduceAdd]
          refine takeH (i := 0) (v := .pointer (some ⟨RB, 1, none⟩)) (d := 62) rfl rfl (by kernel_rfl) (by kernel_rfl) (by kernel_rfl) (fun _ _ _ h => h) (by rfl) (fun V hV => by obtain ⟨v1, v2⟩ := hV; go_simp) (KT.out _ (Below.refl _ _).drew) ?_
          simp only [Act.put, List.setIfInBounds_toArray, List.set_cons_zero, List.set_cons_succ]
          refine takeH (i := 1) (v := .slice ra tt.length rc) (d := 63) rfl rfl (by kernel_rfl) (by kernel_rfl) (by kernel_rfl) (fun _ _ _ h => h) (by rfl) (fun V hV => by obtain ⟨v1, v2⟩ := hV; go_simp) (KT.out _ (Below.refl _ _).drew) ?_
          simp only [Act.put, List.setIfInBounds_toArray, List.set_cons_zero, List.set_cons_succ]
          refine takeH (i := 2) (v := .slice (some ⟨mb, mo, none⟩) ML.length mc) (d := 64) rfl rfl (by kernel_rfl) (by kernel_rfl) (by kernel_rfl) (fun _ _ _ h => h) (by rfl) (fun V hV => by obtain ⟨v1, v2⟩ := hV; go_simp) (KT.out _ (Below.refl _ _).drew) ?_
          simp only [Act.put, List.setIfInBounds_toArray, List.set_cons_zero, List.set_cons_succ]
          refine takeH (i := 3) (v := .int .i64 (kk : Int)) (d := 65) rfl rfl (by kernel_rfl) (by kernel_rfl) (by kernel_rfl) (fun _ _ _ h => h) (by rfl) (fun V hV => by obtain ⟨v1, v2⟩ := hV; go_simp) (KT.out _ (Below.refl _ _).drew) ?_
          simp only [Act.put, List.setIfInBounds_toArray, List.set_cons_zero, List.set_cons_succ]
          refine takeH (i := 4) (v := .pointer (some ⟨mb, mo + kk, none⟩)) (d := 66) rfl rfl (by kernel_rfl) (by kernel_rfl) (by kernel_rfl) (fun _ _ _ h => h) (by rfl) (fun V hV => by obtain ⟨v1, v2⟩ := hV; go_simp) (KT.out _ (Below.refl _ _).drew) ?_
          simp only [Act.put, List.setIfInBounds_toArray, List.set_cons_zero, List.set_cons_succ]
          refine takeH (i := 5) (v := .int .i64 (j : Int)) (d := 67) rfl rfl (by kernel_rfl) (by kernel_rfl) (by kernel_rfl) (fun _ _ _ h => h) (by rfl) (fun V hV => by obtain ⟨v1, v2⟩ := hV; go_simp) (KT.out _ (Below.refl _ _).drew) ?_
          simp only [Act.put, List.setIfInBounds_toArray, List.set_cons_zero, List.set_cons_succ]
          refine oneH (i := 6) rfl (by kernel_rfl) rfl (call_gets (d := 68) (f := 32) (xs := #[.tmp 63, .tmp 67]) (ats := #[22, 3]) rfl rfl eho (vs := #[.slice ra tt.length rc, .int .i64 (j : Int)]) (by simp [Act.eval]) (HHT.out _ _ _ ET.out) ?_)
          rintro iv wi ⟨hoi, hbi⟩
          have Bi : Below wo.heap.size wo wi := below_undrew hbi
          refine ⟨KT.out _ Bi, ?_⟩
          simp only [Act.put, List.setIfInBounds_toArray, List.set_cons_zero, List.set_cons_succ]
          refine takeH (i := 7) (v := iv) (d := 14) rfl rfl (by kernel_rfl) (by kernel_rfl) (by kernel_rfl) (fun _ _ _ h => h) (by rfl) (fun V hV => by obtain ⟨v1, v2⟩ := hV; go_simp) (KT.out _ Bi) ?_
          simp only [Act.put, List.setIfInBounds_toArray, List.set_cons_zero, List.set_cons_succ]
          refine wpAnyH_done (by kernel_rfl) ?_ _
          have FI : Hid (HpR wi iv (hopsL tt (j : Int))) := RowK.own encH_len hoi
          have FIO : Hid (wi.ownsRow BS 87 2 iv (hopsL tt (j : Int)).length ((hopsL tt (j : Int)).flatMap encH)) := own_lower hoi hso
          have FO2 : Hid (HpR wi (.slice oa (hopsL ss (j : Int)).length oc) (hopsL ss (j : Int))) := FO.out.below Bi (Nat.le_refl _)
          have HBi : Hid (Below BS w3 wi) := HBo.out.trans (Bi.mono hso)
          have OWi : Hid (wi.ownsRow BS 5 1 u11 acc.length (acc.map (Value.int .u8))) := own_below OWo.out Bi (Nat.le_refl _)
          obtain ⟨ia, ic, rfl⟩ := FI.out.shape
          have hsi : BS ≤ wi.heap.size := by have := HBi.out.size; omega
          clear hoi hbi Bi KT ET OWo HBo FO D1
          show Exit.then _ _ _ _ _
          go_wp2_with fail
          refine (hopBytes_any _ (hopsL ss (j : Int)) wi FO2.out HGJ.out).mono ?_
          rintro e w10 ⟨v10, rfl, hown10, hb10⟩
          have R10 : Hid (Reads .u8 w10 v10 (hopsB (hopsL ss (j : Int)))) := reads_own hown10
          have O10 : Hid (w10.ownsRow BS 5 1 u11 acc.length (acc.map (Value.int .u8))) := own_below OWi.out hb10 (Nat.le_refl _)
          have HB10 : Hid (Below BS w3 w10) := HBi.out.trans (hb10.mono hsi)
          have F10 : Hid (w10.ownsRow BS 87 2 (.slice ia (hopsL tt (j : Int)).length ic) (hopsL tt (j : Int)).length ((hopsL tt (j : Int)).flatMap encH)) := own_below FIO.out hb10 (Nat.le_refl _)
          have hs10 : BS ≤ w10.heap.size := by have := HB10.out.size; omega
          clear hown10 hb10 OWi HBi FI FO2 FIO
          generalize hopsB (hopsL ss (j : Int)) = A1 at *
          go_wp2_with (at_builtin; refine wpList_append_reads rfl _ _ rfl BS _ acc rfl O10.out _ A1 rfl R10.out (by omega) (by omega) ?_)
          intro v11 w11 hown11 hb11 hgr11
          have O11 : Hid (w11.ownsRow BS 5 1 v11 (acc ++ A1).length ((acc ++ A1).map (Value.int .u8))) := by
            show World.ownsRow _ _ _ _ _ _ _
            simpa using hown11
          have HB11 : Hid (Below BS w3 w11) := HB10.out.trans hb11
          have hs11 : BS ≤ w11.heap.size := by have := HB11.out.size; omega
          have hal : (acc ++ A1).length ≤ 6000000 := by rw [List.length_append]; omega
          have F11 : Hid (HpR w11 (.slice ia (hopsL tt (j : Int)).length ic) (hopsL tt (j : Int))) := RowK.own encH_len (F10.out.kept hgr11 (own_apart F10.out O10.out (by decide)))
          clear hown11 hb11 hgr11 O10 HB10 F10 R10
          generalize acc ++ A1 = acc2 at *
          go_wp2_with fail
          refine (hopBytes_any _ (hopsL tt (j : Int)) w11 F11.out HGJ2.out).mono ?_
          rintro e w12 ⟨v12, rfl, hown12, hb12⟩
          have R12 : Hid (Reads .u8 w12 v12 (hopsB (hopsL tt (j : Int)))) := reads_own hown12
          have O12 : Hid (w12.ownsRow BS 5 1 v11 acc2.length (acc2.map (Value.int .u8))) := own_below O11.out hb12 (Nat.le_refl _)
          have HB12 : Hid (Below BS w3 w12) := HB11.out.trans (hb12.mono hs11)
          have hs12 : BS ≤ w12.heap.size := by have := HB12.out.size; omega
          clear hown12 hb12 O11 HB11 F11
          generalize hopsB (hopsL tt (j : Int)) = A2 at *
          go_wp2_with (at_builtin; refine wpList_append_reads rfl _ _ rfl BS _ acc2 rfl O12.out _ A2 rfl R12.out (by omega) (by omega) ?_)
          intro v13 w13 hown13 hb13 _
          have O13 : Hid (w13.ownsRow BS 5 1 v13 (P0 ++ bodyB ss tt (ML.take (kk + 1))).length ((P0 ++ bodyB ss tt (ML.take (kk + 1))).map (Value.int .u8))) := by
            show World.ownsRow _ _ _ _ _ _ _
            rw [HT.out]; simpa using hown13
          have HB13 : Hid (Below BS w3 w13) := HB12.out.trans hb13
          clear hown13 hb13 O12 HB12 R12
          go_wp2_with fail
          go_roundw
          case rel => exact ⟨kk + 1, by omega, by go_num, O13.out, HB13.out⟩
          case measure => simp [intOf]; omega
        · have ek : ML.take kk = ML := List.take_of_length_le (by omega)
          rw [ek, ← HPY.out] at OW
          have RP : Hid (Reads .u8 wr u11 pay) := reads_own OW.out
          obtain ⟨pa, pc, e, _⟩ := RP.out
          subst e
          clear ek OW
          have HBW : Hid (Below w.heap.size w wr) := Q2.out.2.2.2.2.2.trans (HB.out.mono (by have := Q2.out.2.2.2.2.2.size; omega))
          have hsw := HBW.out.size
          by_cases hpl : pay.length ≤ 20000
          · have hr := HOK.out hpl
            subst hr
            go_wp2_with fail
            refine (wrapped_any _ pay wr RP.out HPB.out hpl).mono ?_
            rintro e w12 ⟨v12, rfl, hown12, hb12⟩
            have O12 : Hid (w12.ownsRow w.heap.size 5 1 v12 (wrap pay).length ((wrap pay).map (Value.int .u8))) := own_lower hown12 hsw
            have HB12 : Hid (Below w.heap.size w w12) := HBW.out.trans (hb12.mono hsw)
            clear hown12 hb12
            go_wp2_with fail
            go_ret2
            exact ⟨_, rfl, O12.out, HB12.out⟩
          · have hr := HOV.out hpl
            subst hr
            go_wp2_with fail
            refine (wrapped_over _ pay.length _ wr (by omega)).mono ?_
            rintro e w12 ⟨rfl, rfl⟩
            go_wp2_with fail
            go_ret2
            exact ⟨_, rfl, World.ownsRow_nil _ _ _ _, HBW.out⟩
    · have hr : buildF wk k n es = ([], errO wk k n k) := build_err hf he
      have hne : (errO wk k n k != 0) = true := by simpa using he
      rw [hr]
      rw [okL_no he] at HMN
      generalize errO wk k n k = fe at *
      clear hr he hf HGS HGT
      generalize sortE (es.map turnE) = ss at *
      go_enter Try.func10, Try.ntmps10
      go_upto_region 1 with fail
      generalize w.alloc (.cells #[.int .i64 n, .slice a es.length cap] 24) = w0 at *
      obtain ⟨c0, c1⟩ := G0.out.1.cells
      go_wp2_with fail
      refine (HCK.out w0 G0.out.2.2).mono ?_
      rintro e w1 ⟨sv, rfl, hown, hb1⟩
      obtain ⟨sa, sc, rfl⟩ := (RowK.own encE_len hown).shape
      have Q1 : Hid (GX (w1.alloc (.cells #[.int .i64 n, .slice sa ss.length sc] 24)) w.heap.size n (.slice a es.length cap) ∧ Below w.heap.size w (w1.alloc (.cells #[.int .i64 n, .slice sa ss.length sc] 24))) :=
        ⟨(G0.out.1.below hb1 (Nat.le_refl _)).below (below_alloc _ _) (Nat.le_refl _), (G0.out.2.1.trans (hb1.mono (by have := G0.out.2.1.size; omega))).alloc (by have := G0.out.2.1.size; have := hb1.size; omega) _⟩
      clear hown hb1 HCK G0 HR c0 c1
      go_upto_region 4 with fail
      generalize w1.alloc (.cells #[.int .i64 n, .slice sa ss.length sc] 24) = w2 at *
      obtain ⟨c0, c1⟩ := Q1.out.1.cells
      go_wp2_with fail
      refine (HMN.out w2).mono ?_
      rintro e w3 ⟨mv, rfl, hown, hb3⟩
      obtain ⟨ma, mc, rfl⟩ := (RowK.own encI_len hown).shape
      have Q2 : Hid (Below w.heap.size w w3) := Q1.out.2.trans (hb3.mono Q1.out.2.size)
      clear hown hb3
      go_wp2_with fail
      go_ret2
      exact ⟨_, rfl, World.ownsRow_nil _ _ _ _, Q2.out⟩
  · have hr : buildF wk k n es = ([], faultE n es) := build_fault hf
    have hne : (faultE n es != 0) = true := by simpa using hf
    rw [hr]
    rw [okN_no hf, okL_no hf] at HCK
    generalize faultE n es = fe at *
    clear hr hf
    go_enter Try.func10, Try.ntmps10
    go_upto_region 1 with fail
    generalize w.alloc (.cells #[.int .i64 n, .slice a es.length cap] 24) = w0 at *
    obtain ⟨c0, c1⟩ := G0.out.1.cells
    go_wp2_with fail
    refine (HCK.out w0 G0.out.2.2).mono ?_
    rintro e w1 ⟨sv, rfl, hown, hb1⟩
    obtain ⟨sa, sc, rfl⟩ := (RowK.own encE_len hown).shape
    have Q1 : Hid (Below w.heap.size w (w1.alloc (.cells #[.int .i64 0, .slice sa ([] : List Ed).length sc] 24))) := (G0.out.2.1.trans (hb1.mono (by have := G0.out.2.1.size; omega))).alloc (by have := G0.out.2.1.size; have := hb1.size; omega) _
    clear hown hb1
    go_wp2_with fail
    go_ret2
    exact ⟨_, rfl, World.ownsRow_nil _ _ _ _, Q1.out⟩
end Go.Proofs.Ytacpicnihgggaaa

namespace Go.Proofs.Ytacpicnihgggaaa
set_option maxRecDepth 100000
open Go.ChangeShapes Go.WideShapes Go.ChangeAt Go.RowKit

set_option maxHeartbeats 1000000 in
set_option maxRecDepth 100000 in
theorem sameGraph_yes (va vb : Value) (es : List Ed) (n : Int) (w : World) (ha : EdR w va es) (hb : EdR w vb es) :
    Calls Try.prog 12 #[.agg #[.int .i64 n, va], .agg #[.int .i64 n, vb]] w fun e w' => e = .returned (.bool true) ∧ Below w.heap.size w w' := by
  have HA : Hid (EdR w va es) := ha
  have HB : Hid (EdR w vb es) := hb
  obtain ⟨a, ca, rfl, hca, hma, _, _⟩ := ha
  obtain ⟨b, cb, rfl, hcb, hmb, _, _⟩ := hb
  unfold maxLen at hma hmb
  have hll : ((es.length : Int) != (es.length : Int)) = false := by simp
  have hnn : (n != n) = false := by simp
  go_enter Try.func12, Try.ntmps12
  go_wp2_with fail
  go_loopw [5] (fun i wr => ∃ k : Nat, k ≤ es.length ∧ i = .int .i64 k ∧ Below (w.heap.size + 2) ((w.alloc (.cells #[.int .i64 n, .slice a es.length ca] 24)).alloc (.cells #[.int .i64 n, .slice b es.length cb] 24)) wr) (fun i _ => es.length - (intOf i).toNat)
  case atStart => exact ⟨0, by omega, rfl, Below.refl _ _⟩
  case round =>
    obtain ⟨k, hk, rfl, hbel⟩ := hrel
    obtain ⟨q0, q1, _, _⟩ := gbox2 hbel
    obtain ⟨q2, q3⟩ := gbox1 hbel
    have HBL : Hid (Below (w.heap.size + 2) ((w.alloc (.cells #[.int .i64 n, .slice a es.length ca] 24)).alloc (.cells #[.int .i64 n, .slice b es.length cb] 24)) wr) := hbel
    clear hbel
    by_cases hlt : k < es.length
    · obtain ⟨xa, oa, cap', e1, _, _, la, hva⟩ := EdR.at (HA.out.below (below_two HBL.out) (Nat.le_refl _)) (by omega)
      injection e1 with e1 _ e3
      subst e1 e3
      obtain ⟨xb, ob, cap', e1, _, _, lb, hvb⟩ := EdR.at (HB.out.below (below_two HBL.out) (Nat.le_refl _)) (by omega)
      injection e1 with e1 _ e3
      subst e1 e3
      obtain ⟨x, hx⟩ := getE hlt
      obtain ⟨c1, c2, c3⟩ := hva k x hx
      obtain ⟨d1, d2, d3⟩ := hvb k x hx
      obtain ⟨xf, xt, xc⟩ := x
      simp only at c1 c2 c3 d1 d2 d3
      have p0 : (0 : Int) ≤ (k : Int) := by omega
      have p1 : (k : Int) < (es.length : Int) := by omega
      clear hva hvb hx
      go_wp2_with fail
      go_quiet (fail)
      go_wp2_with fail
      go_roundw
      case rel => exact ⟨k + 1, by omega, by go_num, below_drewN HBL.out _⟩
      case measure => simp [intOf]; omega
    · go_wp2_with fail
      go_ret
      exact ⟨rfl, below_two HBL.out⟩
end Go.Proofs.Ytacpicnihgggaaa

namespace Go.Proofs.Ytacpicnihgggaaa
set_option maxRecDepth 100000
open Go.ChangeShapes Go.WideShapes Go.ChangeAt Go.RowKit
attribute [local go_sem ↓] exec_append

set_option maxHeartbeats 1000000 in
theorem graphs_any (v : Value) (es : List Ed) (n : Int) (w : World) (h : EdR w v es) (hl : es.length * 24 ≤ 140737488351232) :
    Calls Try.prog 8 #[.agg #[.int .i64 n, v]] w fun e w' => ∃ v', e = .returned (.agg #[.int .i64 n, v']) ∧ EdR w' v' es ∧ Below w.heap.size w w' := by
  have HR : Hid (EdR w v es) := h
  obtain ⟨a, cap, rfl, hc, hm, _, _⟩ := h
  unfold maxLen at hm
  go_enter Try.func8, Try.ntmps8
  go_wp2_with fail
  have B0 : Below (w.heap.size + 2) ((w.alloc (.cells #[.int .i64 n, .slice a es.length cap] 24)).alloc (.cells #[.int .i64 0, .slice none 0 0] 24)) ((w.alloc (.cells #[.int .i64 n, .slice a es.length cap] 24)).alloc (.cells #[.int .i64 0, .slice none 0 0] 24)).drew := (Below.refl _ _).drew
  have hsz : ((w.alloc (.cells #[.int .i64 n, .slice a es.length cap] 24)).alloc (.cells #[.int .i64 0, .slice none 0 0] 24)).drew.heap.size = w.heap.size + 2 := by simp
  have hr0 := HR.out.below (below_two B0) (Nat.le_refl _)
  obtain ⟨v', w', a1, a2, a3, hown, hbel, _⟩ := app_rowK kE 22 (w.heap.size + 2) (.slice none 0 0) ([] : List Ed) (World.ownsRow_nil _ _ _ _) _ es hr0 (by simp [kE]; omega) (by unfold maxLen; simp; omega) (by rw [hsz]; omega)
  have BB : Hid (Below (w.heap.size + 2) ((w.alloc (.cells #[.int .i64 n, .slice a es.length cap] 24)).alloc (.cells #[.int .i64 0, .slice none 0 0] 24)) w') := B0.trans hbel
  have OW : Hid (w'.ownsRow (w.heap.size + 2) 67 3 v' es.length (es.flatMap encE)) := by show World.ownsRow _ _ _ _ _ _ _; simpa [kE] using hown
  obtain ⟨k0, k1, k2, k3⟩ := gbox2 BB.out
  obtain ⟨k4, k5⟩ := gbox1 BB.out
  obtain ⟨va, vn, vc, rfl⟩ : ∃ a n c, v' = .slice a n c := by obtain ⟨a, c, e, _⟩ := RowK.own encE_len OW.out; exact ⟨_, _, _, e⟩
  unfold kE at a1 a2 a3
  simp only at a1 a2 a3
  clear B0 hsz hr0 hown hbel
  go_region
  go_wp2_with fail
  obtain ⟨r0, r1⟩ := gput_cells (n := n) (v := .slice va vn vc) k0 k1
  have hb : ∀ (p : Addr), p.block = w.heap.size + 1 → p.block < w.heap.size + 2 := fun p hp => by omega
  refine bodyPost_ret (v := .agg #[.int .i64 n, .slice va vn vc]) (by simp [results, Try.results8, go_sem, r0, r1]) rfl ⟨_, rfl, ?_, ?_⟩
  · exact RowK.own encE_len (RowK.setBelow (RowK.setBelow OW.out (hb _ rfl) _) (hb _ rfl) _)
  · exact ((below_two BB.out).setCell (Nat.le_succ _) _).setCell (Nat.le_succ _) _
end Go.Proofs.Ytacpicnihgggaaa
