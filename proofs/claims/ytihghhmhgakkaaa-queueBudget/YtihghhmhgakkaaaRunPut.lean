/-
  Contracts of queue.pack and the document's own RunBytes: the bytes of a run.
-/
import Derived.Test.YtihghhmhgakkaaaQueueMath
import Derived.Test.YtihghhmhgakkaaaMailSort
import Derived.Test.YtihghhmhgakkaaaGapsOfWalk
namespace Go.Proofs.Ytihghhmhgakkaaa
set_option maxRecDepth 100000
open Go.ChangeShapes Go.WideShapes Go.ChangeAt Go.RowKit

theorem named_run {l : List Ml} (h1 : mayA l = true) (h2 : srtMb l = true) (h3 : l.length ≤ 1000) : Named (l.map Prod.fst) 0 := by
  refine .inr (.inr (.inr ⟨rfl, by simp; omega, fun i hi => ?_, fun i hi => ?_⟩))
  · rw [List.length_map] at hi
    have hm := mayM_iff.1 (mayA_iff.1 h1 l[i] (List.getElem_mem hi))
    rw [List.getD_eq_getElem?_getD, List.getElem?_map, List.getElem?_eq_getElem hi]
    simp only [Option.map_some, Option.getD_some]
    omega
  · rw [List.length_map] at hi
    have hs := (srtMb_iff l).1 h2 i l[i] l[i + 1] (List.getElem?_eq_getElem (by omega)) (List.getElem?_eq_getElem hi)
    rw [List.getD_eq_getElem?_getD, List.getD_eq_getElem?_getD, List.getElem?_map, List.getElem?_map, List.getElem?_eq_getElem (by omega), List.getElem?_eq_getElem hi]
    simp only [Option.map_some, Option.getD_some]
    unfold ltM at hs
    omega
/-- What a call answers that answers bytes. -/
def BytP (w : World) (b : List Int) (e : Ending) (w' : World) : Prop := ∃ v', e = .returned v' ∧ w'.ownsRow w.heap.size 5 1 v' b.length (b.map (Value.int .u8)) ∧ Below w.heap.size w w'
/-- The bytes of the Values. -/
def valsB (l : List Ml) : List Int := l.flatMap fun m => put m.2
theorem valsB_snoc (l : List Ml) (x : Ml) : valsB (l ++ [x]) = valsB l ++ put x.2 := by unfold valsB; simp
theorem valsB_len : ∀ (l : List Ml), (valsB l).length ≤ 10 * l.length
  | [] => by simp [valsB]
  | x :: l => by
    have h1 := valsB_len l
    have h2 := put_len x.2
    unfold valsB at *
    rw [List.flatMap_cons, List.length_append, List.length_cons]
    omega
theorem runB_eq (l : List Ml) : runB l = gapsF (l.map Prod.fst) 0 ++ valsB l := rfl
theorem gapsF_len (l : List Int) : (gapsF l 0).length ≤ 10 + 10 * l.length := by
  unfold gapsF
  rw [if_pos rfl, List.length_append]
  have h1 := put_len (l.length : Int)
  have h2 := gapsTo_len l l.length
  omega

set_option maxHeartbeats 2000000 in
set_option maxRecDepth 100000 in
theorem runBytes_any (v : Value) (l : List Ml) (w : World) (h : MlR w v l) (h1 : mayA l = true) (h2 : srtMb l = true) (h3 : l.length ≤ 1000) :
    Calls Try.prog 33 #[v] w fun e w' => ∃ v', e = .returned v' ∧ w'.ownsRow w.heap.size 5 1 v' (runB l).length ((runB l).map (Value.int .u8)) ∧ Below w.heap.size w w' := by
  have HR : Hid (MlR w v l) := h
  have HM : Hid (∀ m ∈ l, mayM m = true) := mayA_iff.1 h1
  have HN : Hid (Named (l.map Prod.fst) 0) := named_run h1 h2 h3
  obtain ⟨a, cap, rfl, hc, hm, _, _⟩ := h
  unfold maxLen at hm
  have HE : Hid (∀ v' w', w'.ownsRow w.heap.size 5 1 v' (gapsF (l.map Prod.fst) 0 ++ valsB l).length ((gapsF (l.map Prod.fst) 0 ++ valsB l).map (Value.int .u8)) → Below w.heap.size w w' → BytP w (runB l) (.returned v') w') := fun v' w' ho hb => ⟨_, rfl, by rw [runB_eq]; exact ho, hb⟩
  show Calls _ _ _ _ (BytP w (runB l))
  generalize BytP w (runB l) = P at *
  clear h1 h2
  go_enter Try.func33, Try.ntmps33
  go_wp2_with fail
  go_loopw [3, 4, 5] (fun x y i wr => ∃ k : Nat, k ≤ l.length ∧ i = .int .i64 k ∧ wr.ownsRow w.heap.size 3 1 x ((l.take k).map Prod.fst).length (((l.take k).map Prod.fst).flatMap encI) ∧ wr.ownsRow w.heap.size 5 1 y (valsB (l.take k)).length ((valsB (l.take k)).map (Value.int .u8)) ∧ Below w.heap.size w wr) (fun _ _ i _ => l.length - (intOf i).toNat)
  case atStart => exact ⟨0, by omega, rfl, World.ownsRow_nil _ _ _ _, World.ownsRow_nil _ _ _ _, Below.refl _ _⟩
  case round =>
    obtain ⟨k, hk, rfl, hot, hov, hbel⟩ := hrel
    have OT : Hid (wr.ownsRow w.heap.size 3 1 u3 ((l.take k).map Prod.fst).length (((l.take k).map Prod.fst).flatMap encI)) := hot
    have OV : Hid (wr.ownsRow w.heap.size 5 1 u4 (valsB (l.take k)).length ((valsB (l.take k)).map (Value.int .u8))) := hov
    have HB : Hid (Below w.heap.size w wr) := hbel
    have hsr := hbel.size
    clear hot hov hbel
    by_cases hlt : k < l.length
    · obtain ⟨b, off, cap', e1, _, _, lt, hv⟩ := MlR.at (HR.out.below HB.out (Nat.le_refl _)) (by omega)
      obtain ⟨b0, off0, cap0, e2, _, _, lt0, _⟩ := MlR.at HR.out (by omega)
      injection e1 with e1 e9 e3
      subst e1 e3
      injection e2 with e2 e8 e3
      injection e2 with e2
      injection e2 with e2 e7 _
      subst e2
      clear e9 e8 e7 e3
      obtain ⟨x, hx⟩ := getX hlt
      obtain ⟨c1, c2⟩ := hv k x hx
      obtain ⟨m1, m2, m3, m4⟩ := mayM_iff.1 (HM.out x (List.mem_of_getElem? hx))
      have HT : Hid ((l.take (k + 1)).map Prod.fst = (l.take k).map Prod.fst ++ [x.1]) := by show _ = _; rw [take_snoc hx, List.map_append]; rfl
      have HV : Hid (valsB (l.take (k + 1)) = valsB (l.take k) ++ put x.2) := by show _ = _; rw [take_snoc hx, valsB_snoc]
      have hl1 : ((l.take k).map Prod.fst).length ≤ 1000 := by simp; omega
      have hl2 : (valsB (l.take k)).length ≤ 10000 := by
        have q1 := valsB_len (l.take k)
        have q2 : (l.take k).length ≤ k := List.length_take_le _ _
        omega
      have p0 : (0 : Int) ≤ (k : Int) := by omega
      have p1 : (k : Int) < (l.length : Int) := by omega
      have hwr : IntKind.u64.wrap x.2 = x.2 := by rw [IntKind.wrap_u64]; omega
      clear hv hx
      generalize (l.take k).map Prod.fst = ts at *
      generalize valsB (l.take k) = vs at *
      go_wp2_with (at_builtin; refine wpList_append_newK kI rfl _ _ rfl w.heap.size _ ts rfl (OT.out.alloc _) wr.heap.size x.1 rfl #[.int .i64 x.1] rfl (0, 0) (heap_alloc_new _ _) (by simp [kI]; omega) (by unfold maxLen; omega) (by simp; omega) ?_)
      intro g gc w2 hot2 hb2 hg2
      have O2 : Hid (w2.ownsRow w.heap.size 3 1 (.slice (some ⟨g, 0, none⟩) (ts.length + 1) gc) ((l.take (k + 1)).map Prod.fst).length (((l.take (k + 1)).map Prod.fst).flatMap encI)) := by show World.ownsRow _ _ _ _ _ _ _; rw [HT.out]; simpa [kI] using hot2
      have V2 : Hid (w2.ownsRow w.heap.size 5 1 u4 vs.length (vs.map (Value.int .u8))) := (OV.out.alloc _).kept hg2 (own_apart OV.out OT.out (by decide))
      have B2 : Hid (Below w.heap.size w w2) := (HB.out.alloc hsr _).trans hb2
      have hs2 := B2.out.size
      have d1 := ((((Below.refl _ _).alloc hsr _).trans hb2).cell (p := ⟨b, off + k * 2, none⟩) lt0).trans c1
      have d2 := ((((Below.refl _ _).alloc hsr _).trans hb2).cell (p := ⟨b, off + k * 2 + 1, none⟩) lt0).trans c2
      clear hot2 hb2 hg2 OT OV c1 c2
      go_wp2_with fail
      refine (packed_any 9 x.2 _ m3 (lt_128_10 (by omega)) (by omega)).mono ?_
      rintro e w3 ⟨v3, rfl, ho3, hb3⟩
      have V3 : Hid (w3.ownsRow w.heap.size 5 1 u4 vs.length (vs.map (Value.int .u8))) := own_below V2.out hb3 (Nat.le_refl _)
      have O3 : Hid (w3.ownsRow w.heap.size 3 1 (.slice (some ⟨g, 0, none⟩) (ts.length + 1) gc) ((l.take (k + 1)).map Prod.fst).length (((l.take (k + 1)).map Prod.fst).flatMap encI)) := own_below O2.out hb3 (Nat.le_refl _)
      have P3 : Hid (Reads .u8 w3 v3 (put x.2)) := reads_own ho3
      have B3 : Hid (Below w.heap.size w w3) := B2.out.trans (hb3.mono hs2)
      have hs3 := B3.out.size
      have hpl := put_len x.2
      obtain ⟨ya, yc, rfl, _⟩ := id P3.out
      obtain ⟨za, zc, rfl⟩ : ∃ a c, u4 = .slice a vs.length c := by obtain ⟨a, c, e, _⟩ := reads_own V3.out; exact ⟨a, c, e⟩
      clear ho3 hb3 d1 d2 O2 V2
      generalize put x.2 = px at *
      go_wp2_with (at_builtin; refine wpList_append_reads rfl _ _ rfl w.heap.size _ vs rfl V3.out _ px rfl P3.out (by omega) (by omega) ?_)
      intro v4 w4 hov4 hb4 hg4
      have V4 : Hid (w4.ownsRow w.heap.size 5 1 v4 (valsB (l.take (k + 1))).length ((valsB (l.take (k + 1))).map (Value.int .u8))) := by show World.ownsRow _ _ _ _ _ _ _; rw [HV.out]; simpa using hov4
      have O4 : Hid (w4.ownsRow w.heap.size 3 1 (.slice (some ⟨g, 0, none⟩) (ts.length + 1) gc) ((l.take (k + 1)).map Prod.fst).length (((l.take (k + 1)).map Prod.fst).flatMap encI)) := O3.out.kept hg4 (own_apart O3.out V3.out (by decide))
      have B4 : Hid (Below w.heap.size w w4) := B3.out.trans hb4
      clear hov4 hb4 hg4 V3 O3
      go_wp2_with fail
      go_roundw
      case rel => exact ⟨k + 1, by omega, by go_num, O4.out, V4.out, B4.out⟩
      case measure => simp [intOf]; omega
    · have ek : l.take k = l := List.take_of_length_le (by omega)
      rw [ek] at OT OV
      have RT : Hid (Reads .i64 wr u3 (l.map Prod.fst)) := reads_own (k := .i64) (e := 3) (base := w.heap.size) (by rw [← flatI]; exact OT.out)
      have hl1 : (l.map Prod.fst).length ≤ 1000 := by simp; omega
      have hl2 := valsB_len l
      have hl3 := gapsF_len (l.map Prod.fst)
      obtain ⟨ta, tc, rfl, _⟩ := id RT.out
      obtain ⟨za, zc, rfl⟩ : ∃ a c, u4 = .slice a (valsB l).length c := by obtain ⟨a, c, e, _⟩ := reads_own OV.out; exact ⟨a, c, e⟩
      clear ek OT
      generalize l.map Prod.fst = ts at *
      generalize valsB l = vs at *
      go_wp2_with fail
      refine (gapsOf_any _ ts _ RT.out).mono ?_
      rintro e w2 ⟨cd, v2, rfl, hn2, ho2, hb2⟩
      obtain rfl : cd = 0 := hn2.one HN.out
      have G2 : Hid (w2.ownsRow w.heap.size 5 1 v2 (gapsF ts 0).length ((gapsF ts 0).map (Value.int .u8))) := own_lower ho2 hsr
      have R2 : Hid (Reads .u8 w2 (.slice za vs.length zc) vs) := (reads_own OV.out).below hb2 (Nat.le_refl _)
      have B2 : Hid (Below w.heap.size w w2) := HB.out.trans (hb2.mono hsr)
      have hs2 := B2.out.size
      obtain ⟨ga, gc, rfl⟩ : ∃ a c, v2 = .slice a (gapsF ts 0).length c := by obtain ⟨a, c, e, _⟩ := reads_own G2.out; exact ⟨a, c, e⟩
      clear hn2 ho2 hb2 OV HN
      generalize gapsF ts 0 = gs at *
      go_wp2_with (at_builtin; refine wpList_append_reads rfl _ _ rfl w.heap.size _ gs rfl G2.out _ vs rfl R2.out (by omega) (by omega) ?_)
      intro v4 w4 hov4 hb4 _
      have V4 : Hid (w4.ownsRow w.heap.size 5 1 v4 (gs ++ vs).length ((gs ++ vs).map (Value.int .u8))) := by show World.ownsRow _ _ _ _ _ _ _; simpa using hov4
      have HX : Hid (P (.returned v4) w4) := HE.out v4 w4 V4.out (B2.out.trans hb4)
      clear hov4 hb4
      go_wp2_with fail
      exact HX.out
set_option maxHeartbeats 2000000 in
set_option maxRecDepth 100000 in
theorem pack_any (v : Value) (es : List Ml) (w : World) (h : MlR w v es) (h1 : mayA es = true) (h3 : es.length ≤ 1000) :
    Calls Try.prog 29 #[v] w fun e w' => ∃ v', e = .returned v' ∧ w'.ownsRow w.heap.size 5 1 v' (runB (sortM es)).length ((runB (sortM es)).map (Value.int .u8)) ∧ Below w.heap.size w w' := by
  have HR : Hid (MlR w v es) := h
  have HS : Hid (∀ X, MlR X v es → Calls Try.prog 36 #[v] X (RefP X 0 (sortM es))) := fun X hX => by
    have := mergeSort_ref v es X hX
    rw [show errS es.length = 0 from if_neg (by omega)] at this
    exact this
  have hma : mayA (sortM es) = true := by rw [mayA_perm (sortM_perm es)]; exact h1
  have HM : Hid (∀ m ∈ sortM es, mayM m = true) := mayA_iff.1 hma
  have hl : (sortM es).length ≤ 1000 := by rw [sortM_len]; exact h3
  have HN : Hid (Named ((sortM es).map Prod.fst) 0) := named_run hma ((srtMb_iff _).2 (in_srtM (sortM_sorted es))) hl
  obtain ⟨a, cap, rfl⟩ := h.shape
  clear h h1 h3 hma
  have HE : Hid (∀ v' w', w'.ownsRow w.heap.size 5 1 v' (gapsF ((sortM es).map Prod.fst) 0 ++ valsB (sortM es)).length ((gapsF ((sortM es).map Prod.fst) 0 ++ valsB (sortM es)).map (Value.int .u8)) → Below w.heap.size w w' → BytP w (runB (sortM es)) (.returned v') w') := fun v' w' ho hb => ⟨_, rfl, by rw [runB_eq]; exact ho, hb⟩
  show Calls _ _ _ _ (BytP w (runB (sortM es)))
  generalize sortM es = l at *
  generalize BytP w (runB l) = P at *
  go_enter Try.func29, Try.ntmps29
  go_wp2_with fail
  refine (HS.out _ HR.out).mono ?_
  rintro e w1 ⟨v1, rfl, ho1, hb1⟩
  have HL : Hid (MlR w1 v1 l) := MlR.ownd ho1
  have B1 : Hid (Below w.heap.size w w1) := hb1
  have hs1 := hb1.size
  obtain ⟨va, vc, rfl⟩ := HL.out.shape
  obtain ⟨_, _, e1, hlc, hmc, _⟩ := id HL.out
  injection e1 with e1 e2 e3
  subst e1 e3
  unfold maxLen at hmc
  clear ho1 hb1 HS HR e2
  go_wp2_with fail
  go_loopw [5, 19] (fun x i wr => ∃ k : Nat, k ≤ l.length ∧ i = .int .i64 k ∧ wr.ownsRow w1.heap.size 3 1 x ((l.take k).map Prod.fst).length (((l.take k).map Prod.fst).flatMap encI) ∧ Below w1.heap.size w1 wr) (fun _ i _ => l.length - (intOf i).toNat)
  case atStart => exact ⟨0, by omega, rfl, World.ownsRow_nil _ _ _ _, Below.refl _ _⟩
  case round =>
    obtain ⟨k, hk, rfl, hot, hbel⟩ := hrel
    have OT : Hid (wr.ownsRow w1.heap.size 3 1 u5 ((l.take k).map Prod.fst).length (((l.take k).map Prod.fst).flatMap encI)) := hot
    have HB : Hid (Below w1.heap.size w1 wr) := hbel
    have hsr := hbel.size
    clear hot hbel
    by_cases hlt : k < l.length
    · obtain ⟨b, off, cap', e1, _, _, lt, hv⟩ := MlR.at (HL.out.below HB.out (Nat.le_refl _)) (by omega)
      injection e1 with e1 e9 e3
      subst e1 e3
      clear e9
      obtain ⟨x, hx⟩ := getX hlt
      obtain ⟨c1, c2⟩ := hv k x hx
      have HT : Hid ((l.take (k + 1)).map Prod.fst = (l.take k).map Prod.fst ++ [x.1]) := by show _ = _; rw [take_snoc hx, List.map_append]; rfl
      have hl1 : ((l.take k).map Prod.fst).length ≤ 1000 := by simp; omega
      have p0 : (0 : Int) ≤ (k : Int) := by omega
      have p1 : (k : Int) < (l.length : Int) := by omega
      clear hv hx
      generalize (l.take k).map Prod.fst = ts at *
      have hbx : ∀ o1 o2, Below w1.heap.size w1 ((wr.alloc o1).alloc o2) := fun o1 o2 => (HB.out.alloc hsr _).alloc (by simp; omega) _
      go_wp2_with (at_builtin; refine wpList_append_newK kI rfl _ _ rfl w1.heap.size _ ts rfl ((OT.out.alloc _).alloc _) (wr.heap.size + 1) x.1 rfl #[.int .i64 x.1] rfl (0, 0) (heap_second _ _ _ _) (by simp [kI]; omega) (by unfold maxLen; omega) (by simp; omega) ?_)
      intro g gc w2 hot2 hb2 _
      have O2 : Hid (w2.ownsRow w1.heap.size 3 1 (.slice (some ⟨g, 0, none⟩) (ts.length + 1) gc) ((l.take (k + 1)).map Prod.fst).length (((l.take (k + 1)).map Prod.fst).flatMap encI)) := by show World.ownsRow _ _ _ _ _ _ _; rw [HT.out]; simpa [kI] using hot2
      have B2 : Hid (Below w1.heap.size w1 w2) := (hbx _ _).trans hb2
      clear hot2 hb2
      go_wp2_with fail
      go_roundw
      case rel => exact ⟨k + 1, by omega, by go_num, O2.out, B2.out⟩
      case measure => simp [intOf]; omega
    · have ek : l.take k = l := List.take_of_length_le (by omega)
      rw [ek] at OT
      have RT : Hid (Reads .i64 wr u5 (l.map Prod.fst)) := reads_own (k := .i64) (e := 3) (base := w1.heap.size) (by rw [← flatI]; exact OT.out)
      have hl1 : (l.map Prod.fst).length ≤ 1000 := by simp; omega
      have hl3 := gapsF_len (l.map Prod.fst)
      obtain ⟨ta, tc, rfl, _⟩ := id RT.out
      clear ek OT
      generalize l.map Prod.fst = ts at *
      go_wp2_with fail
      refine (gaps_any _ ts _ RT.out).mono ?_
      rintro e w2 ⟨cd, v2, rfl, hn2, ho2, hb2⟩
      obtain rfl : cd = 0 := hn2.one HN.out
      have G2 : Hid (w2.ownsRow w1.heap.size 5 1 v2 (gapsF ts 0).length ((gapsF ts 0).map (Value.int .u8))) := own_lower ho2 hsr
      have B2 : Hid (Below w1.heap.size w1 w2) := HB.out.trans (hb2.mono hsr)
      have hs2 := B2.out.size
      obtain ⟨ga, gc, rfl⟩ : ∃ a c, v2 = .slice a (gapsF ts 0).length c := by obtain ⟨a, c, e, _⟩ := reads_own G2.out; exact ⟨a, c, e⟩
      clear hn2 ho2 hb2 HN HB RT
      generalize gapsF ts 0 = gs at *
      go_wp2_with fail
      go_loopw [8, 36] (fun y i wr => ∃ k : Nat, k ≤ l.length ∧ i = .int .i64 k ∧ wr.ownsRow w1.heap.size 5 1 y (gs ++ valsB (l.take k)).length ((gs ++ valsB (l.take k)).map (Value.int .u8)) ∧ Below w1.heap.size w1 wr) (fun _ i _ => l.length - (intOf i).toNat)
      case atStart => exact ⟨0, by omega, rfl, by simpa [valsB] using G2.out, B2.out⟩
      case round =>
        obtain ⟨j, hj, rfl, hov, hbel⟩ := hrel
        have OV : Hid (wr.ownsRow w1.heap.size 5 1 u8 (gs ++ valsB (l.take j)).length ((gs ++ valsB (l.take j)).map (Value.int .u8))) := hov
        have HB : Hid (Below w1.heap.size w1 wr) := hbel
        have hsr2 := hbel.size
        clear hov hbel B2 G2
        by_cases hlt2 : j < l.length
        · obtain ⟨b, off, cap', e1, _, _, lt, hv⟩ := MlR.at (HL.out.below HB.out (Nat.le_refl _)) (by omega)
          injection e1 with e1 e9 e3
          subst e1 e3
          clear e9
          obtain ⟨x, hx⟩ := getX hlt2
          obtain ⟨c1, c2⟩ := hv j x hx
          obtain ⟨m1, m2, m3, m4⟩ := mayM_iff.1 (HM.out x (List.mem_of_getElem? hx))
          have HV : Hid (gs ++ valsB (l.take (j + 1)) = (gs ++ valsB (l.take j)) ++ put x.2) := by show _ = _; rw [take_snoc hx, valsB_snoc, List.append_assoc]
          have hl2 : (gs ++ valsB (l.take j)).length ≤ 30000 := by
            have q1 := valsB_len (l.take j)
            have q2 : (l.take j).length ≤ j := List.length_take_le _ _
            rw [List.length_append]
            omega
          have p0 : (0 : Int) ≤ (j : Int) := by omega
          have p1 : (j : Int) < (l.length : Int) := by omega
          have hwr : IntKind.u64.wrap x.2 = x.2 := by rw [IntKind.wrap_u64]; omega
          have hbx : ∀ o1, Below w1.heap.size w1 (wr.alloc o1) := fun o1 => HB.out.alloc hsr2 _
          clear hv hx
          generalize gs ++ valsB (l.take j) = vs at *
          go_wp2_with fail
          refine (put_any x.2 _ m3 (by omega)).mono ?_
          rintro e w3 ⟨v3, rfl, ho3, hb3⟩
          have V3 : Hid (w3.ownsRow w1.heap.size 5 1 u8 vs.length (vs.map (Value.int .u8))) := own_below (OV.out.alloc _) hb3 (Nat.le_refl _)
          have P3 : Hid (Reads .u8 w3 v3 (put x.2)) := reads_own ho3
          have B3 : Hid (Below w1.heap.size w1 w3) := (hbx _).trans (hb3.mono (by simp; omega))
          have hs3 := B3.out.size
          have hpl := put_len x.2
          obtain ⟨ya, yc, rfl, _⟩ := id P3.out
          obtain ⟨za, zc, rfl⟩ : ∃ a c, u8 = .slice a vs.length c := by obtain ⟨a, c, e, _⟩ := reads_own V3.out; exact ⟨a, c, e⟩
          clear ho3 hb3 OV HB hbx
          generalize put x.2 = px at *
          go_wp2_with (at_builtin; refine wpList_append_reads rfl _ _ rfl w1.heap.size _ vs rfl V3.out _ px rfl P3.out (by omega) (by omega) ?_)
          intro v4 w4 hov4 hb4 _
          have V4 : Hid (w4.ownsRow w1.heap.size 5 1 v4 (gs ++ valsB (l.take (j + 1))).length ((gs ++ valsB (l.take (j + 1))).map (Value.int .u8))) := by show World.ownsRow _ _ _ _ _ _ _; rw [HV.out]; simpa using hov4
          have B4 : Hid (Below w1.heap.size w1 w4) := B3.out.trans hb4
          clear hov4 hb4 V3 B3
          go_wp2_with fail
          go_roundw
          case rel => exact ⟨j + 1, by omega, by go_num, V4.out, B4.out⟩
          case measure => simp [intOf]; omega
        · have ek : l.take j = l := List.take_of_length_le (by omega)
          have HX : Hid (P (.returned u8) wr) := HE.out u8 wr (own_lower (by have := OV.out; rwa [ek] at this) hs1) (B1.out.trans (HB.out.mono hs1))
          obtain ⟨za, zn, zc, rfl⟩ : ∃ a n c, u8 = .slice a n c := by obtain ⟨a, c, e, _⟩ := reads_own OV.out; exact ⟨a, _, c, e⟩
          clear ek OV HB
          go_wp2_with fail
          exact HX.out
end Go.Proofs.Ytihghhmhgakkaaa
