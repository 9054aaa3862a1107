/-
  Contract of the document's own SavedBytes: what P14.2 says.
  Contracts of the law's own helpers: sameBytes, sameDisk (of disks that read alike), octets, disks.
  What the document's own changes of a disk have in common: the disk is copied, a new one is built out of it.
  Contract of the document's own Removed: what P3.7 says.
  Contract of the document's own Appended: what P3.2 says.
  Contract of the document's PutSaved: P14.5.
-/
import Derived.Test.YtbfkmakfkbdafaaCkptPutsPartA
import Derived.Deep.CutRange
import Derived.Test.YtbfkmakfkbdafaaSameBytes

namespace Go.Proofs.Ytbfkmakfkbdafaa
set_option maxRecDepth 100000
open Go.ChangeShapes Go.WideShapes Go.ChangeAt Go.RowKit

set_option maxHeartbeats 8000000 in
set_option maxRecDepth 100000 in
theorem savedBytes_any (s : SvS) (vv vm : Value) (w : World) (hv : MlR w vv s.vals) (hm : MlR w vm s.mail) :
    Calls Try.prog 8 #[.agg #[.int .i64 s.step, .int .i64 s.phase, .bool s.fresh, vv, vm]] w (BytP2 w (encS s)) := by
  have HV : Hid (MlR w vv s.vals) := hv
  have HM : Hid (MlR w vm s.mail) := hm
  have CM : Hid (∀ X, MlR X vv s.vals → MlR X vm s.mail → Calls Try.prog 23 #[.agg #[.int .i64 s.step, .int .i64 s.phase, .bool s.fresh, vv, vm]] X fun e w' => e = .returned (.bool (svMay s)) ∧ Below X.heap.size X w') := fun X h1 h2 => savedMay_any s vv vm X h1 h2
  obtain ⟨va, vc, rfl, hvc, hvm, _, _⟩ := hv
  obtain ⟨ma, mc, rfl, hmc, hmm, _, _⟩ := hm
  unfold maxLen at hvm hmm
  have EN : Hid (svMay s = false → encS s = ([], 9)) := encS_no
  have EB : Hid (svMay s = true → ¬ (bytN (numsS s)).length ≤ 20000 → encS s = ([], 1)) := encS_big
  have EY : Hid (svMay s = true → (bytN (numsS s)).length ≤ 20000 → encS s = (wrap (bytN (numsS s)), 0)) := encS_yes
  have NI : Hid (svMay s = true → ∀ n ∈ numsS s, 0 ≤ n ∧ n ≤ 4398046511105) := numsS_in
  have BY : Hid (svMay s = true → ∀ x ∈ bytN (numsS s), 0 ≤ x ∧ x ≤ 255) := fun h => bytN_bytes (fun n hn => ⟨(numsS_in h n hn).1, by have := (numsS_in h n hn).2; omega⟩)
  have NB : Hid (svMay s = true → s.vals.length ≤ 200 ∧ s.mail.length ≤ 5000 ∧ (∀ x ∈ s.vals, -1 ≤ x.1 ∧ x.1 ≤ 4398046511104 ∧ -1 ≤ x.2 ∧ x.2 < 200)) := fun h => by
    obtain ⟨⟨h1, h2, h3⟩, h4, h5, h6, _, h7⟩ := svMay_iff.1 h
    exact ⟨h4, h6, fun x hx => valS_iff.1 (valA_iff.1 h5 x hx)⟩
  have NE : Hid (numsS s = (([s.step, s.phase, if s.fresh then 1 else 0, (s.vals.length : Int)] ++ pairN 1 s.vals) ++ [(s.mail.length : Int)]) ++ pairN 0 s.mail) := by
    show _ = _
    unfold numsS
    rw [List.append_assoc, List.append_assoc]
  have NL : Hid ((numsS s).length = 5 + 2 * s.vals.length + 2 * s.mail.length) := numsS_len s
  generalize encS s = R at *
  generalize svMay s = r at *
  generalize numsS s = NS at *
  obtain ⟨st, ph, fr, vs, ms⟩ := s
  simp only at HV HM CM hvc hvm hmc hmm NB NE NL ⊢
  have X0 : BX 25 (w.alloc (.cells #[.int .i64 st, .int .i64 ph, .bool fr, .slice va vs.length vc, .slice ma ms.length mc] 25)) w.heap.size #[.int .i64 st, .int .i64 ph, .bool fr, .slice va vs.length vc, .slice ma ms.length mc] := BX.new _ _ _
  have B0 : Below w.heap.size w (w.alloc (.cells #[.int .i64 st, .int .i64 ph, .bool fr, .slice va vs.length vc, .slice ma ms.length mc] 25)) := below_alloc _ _
  go_enter Try.func8, Try.ntmps8
  go_upto_region 1 with fail
  generalize w.alloc (.cells #[.int .i64 st, .int .i64 ph, .bool fr, .slice va vs.length vc, .slice ma ms.length mc] 25) = W0 at *
  have HK0 : Hid (∀ X, Below W0.heap.size W0 X → BX 25 X w.heap.size #[.int .i64 st, .int .i64 ph, .bool fr, .slice va vs.length vc, .slice ma ms.length mc] ∧ Below w.heap.size w X ∧ MlR X (.slice va vs.length vc) vs ∧ MlR X (.slice ma ms.length mc) ms) := fun X hX => ⟨X0.below hX X0.lt, B0.trans (hX.mono B0.size), HV.out.below (B0.trans (hX.mono B0.size)) (Nat.le_refl _), HM.out.below (B0.trans (hX.mono B0.size)) (Nat.le_refl _)⟩
  have A0 : Hid (Below W0.heap.size W0 W0) := Below.refl _ _
  obtain ⟨c0, c1, c2, c3, c4⟩ := X0.all5
  clear X0 B0 HV HM
  go_wp2_with fail
  refine (CM.out _ (HK0.out _ A0.out).2.2.1 (HK0.out _ A0.out).2.2.2).mono ?_
  rintro e W1 ⟨rfl, hb1⟩
  have A1 : Hid (Below W0.heap.size W0 W1) := hb1
  obtain ⟨Q1, bw1, _, _⟩ := HK0.out _ hb1
  have BW1 : Hid (Below w.heap.size w W1) := bw1
  clear c0 c1 c2 c3 c4 hb1 bw1 CM
  obtain ⟨c0, c1, c2, c3, c4⟩ := Q1.all5
  clear Q1
  cases r
  · have e := EN.out rfl
    subst e
    have HP : Hid (BytP2 w ([], 9) (.returned (.tuple #[.slice none 0 0, .int .i64 9])) W1) := BytP2.no BW1.out
    clear EN EB EY NI NB NE NL BY
    generalize BytP2 w ([], 9) = P at *
    go_wp2_with fail
    exact HP.out
  · obtain ⟨hvl, hml, hvb⟩ := NB.out rfl
    have HVB : Hid (∀ x ∈ vs, -1 ≤ x.1 ∧ x.1 ≤ 4398046511104 ∧ -1 ≤ x.2 ∧ x.2 < 200) := hvb
    have EB2 : Hid (¬ (bytN NS).length ≤ 20000 → R = ([], 1)) := EB.out rfl
    have EY2 : Hid ((bytN NS).length ≤ 20000 → R = (wrap (bytN NS), 0)) := EY.out rfl
    have HNI : Hid (∀ n ∈ NS, 0 ≤ n ∧ n ≤ 4398046511105) := NI.out rfl
    have HNB : Hid (∀ x ∈ bytN NS, 0 ≤ x ∧ x ≤ 255) := BY.out rfl
    have HNL : Hid (NS.length ≤ 10405) := by have := NL.out; show _ ≤ _; omega
    clear hvb EN EB EY NI NB NL BY
    have HK : Hid (∀ X, Below W1.heap.size W1 X → BX 25 X w.heap.size #[.int .i64 st, .int .i64 ph, .bool fr, .slice va vs.length vc, .slice ma ms.length mc] ∧ Below w.heap.size w X ∧ MlR X (.slice va vs.length vc) vs ∧ MlR X (.slice ma ms.length mc) ms) := fun X hX => HK0.out X (A1.out.trans (hX.mono A1.out.size))
    have hqw := BW1.out.size
    clear HK0 A0 A1 BW1
    have W2 : Hid ((W1.alloc (.cells #[.int .i64 st, .int .i64 ph, .int .i64 0, .int .i64 (vs.length : Int)] 3)).ownsRow W1.heap.size 3 1 (.slice (some ⟨W1.heap.size, 0, none⟩) 4 4) ([st, ph, 0, (vs.length : Int)] : List Int).length (([st, ph, 0, (vs.length : Int)] : List Int).flatMap encI) ∧ Below W1.heap.size W1 (W1.alloc (.cells #[.int .i64 st, .int .i64 ph, .int .i64 0, .int .i64 (vs.length : Int)] 3)) ∧ (W1.alloc (.cells #[.int .i64 st, .int .i64 ph, .int .i64 0, .int .i64 (vs.length : Int)] 3)).heap.size = W1.heap.size + 1) := ⟨own_lit4 W1 _ (Nat.le_refl _) _ _ _ _, below_alloc _ _, by simp⟩
    go_upto_region 4 with fail
    generalize W1.alloc (.cells #[.int .i64 st, .int .i64 ph, .int .i64 0, .int .i64 (vs.length : Int)] 3) = W3 at *
    obtain ⟨o3', b3', hsz3⟩ := W2.out
    have HSE : Hid (W3.heap.size = W1.heap.size + 1) := hsz3
    generalize hB : W1.heap.size = B at *
    have HBE : Hid (W1.heap.size = B) := hB
    have O3 : Hid (W3.ownsRow B 3 1 (.slice (some ⟨B, 0, none⟩) 4 4) ([st, ph, 0, (vs.length : Int)] : List Int).length (([st, ph, 0, (vs.length : Int)] : List Int).flatMap encI)) := o3'
    have A3 : Hid (Below B W1 W3) := b3'
    obtain ⟨Q3, _, _, _⟩ := HK.out _ b3'
    clear c0 c1 c2 c3 c4 W2 o3' b3' hsz3 hB
    obtain ⟨c0, c1, c2, c3, c4⟩ := Q3.all5
    clear Q3
    obtain ⟨fz, hfz⟩ : ∃ z : Int, (if fr then (1 : Int) else 0) = z := ⟨_, rfl⟩
    have HFZ : Hid ((if fr then (1 : Int) else 0) = fz) := hfz
    rw [hfz] at NE
    clear hfz
    go_upto_if 23 with fail
    go_cut [] from 23 to 23 (fun wx => wx.ownsRow B 3 1 (.slice (some ⟨B, 0, none⟩) 4 4) ([st, ph, fz, (vs.length : Int)] : List Int).length (([st, ph, fz, (vs.length : Int)] : List Int).flatMap encI) ∧ Below B W1 wx)
    case first =>
      cases fr
      · have e : (0 : Int) = fz := by rw [← HFZ.out]; rfl
        subst e
        clear HFZ
        go_wp2_with fail
        go_meet
        case rel => exact ⟨O3.out, A3.out⟩
      · have e : (1 : Int) = fz := by rw [← HFZ.out]; rfl
        subst e
        have O4 : Hid ((W3.setCell ⟨B, 2, none⟩ (.int .i64 1)).ownsRow B 3 1 (.slice (some ⟨B, 0, none⟩) 4 4) ([st, ph, 1, (vs.length : Int)] : List Int).length (([st, ph, 1, (vs.length : Int)] : List Int).flatMap encI)) := own_setN (j := 2) (x := 1) (xs := [st, ph, 0, (vs.length : Int)]) O3.out
        have A4 : Hid (Below B W1 (W3.setCell ⟨B, 2, none⟩ (.int .i64 1))) := A3.out.setCell (p := ⟨B, 2, none⟩) (Nat.le_refl _) _
        have z2 : W3.cell? ⟨B, 2, none⟩ = some (.int .i64 0) := own_atN (xs := [st, ph, 0, (vs.length : Int)]) O3.out (i := 2) rfl
        have z3 := frozenK O3.out 2
        clear HFZ
        go_wp2_with fail
        go_meet
        case rel => exact ⟨O4.out, A4.out⟩
    case rest =>
    obtain ⟨hoc, hbc⟩ := hcut
    have OC : Hid (wc.ownsRow B 3 1 (.slice (some ⟨B, 0, none⟩) 4 4) ([st, ph, fz, (vs.length : Int)] : List Int).length (([st, ph, fz, (vs.length : Int)] : List Int).flatMap encI)) := hoc
    have AC : Hid (Below B W1 wc) := hbc
    have HZ0 : Hid ([st, ph, fz, (vs.length : Int)] ++ pairN 1 (vs.take 0) = [st, ph, fz, (vs.length : Int)]) := by show _ = _; simp [pairN]
    have HL4 : Hid (([st, ph, fz, (vs.length : Int)] : List Int).length = 4) := rfl
    clear hoc hbc O3 A3 HFZ
    generalize [st, ph, fz, (vs.length : Int)] = N0 at *
    go_wp2_with fail
    clear c0 c1 c2 c3 c4
    go_loopw [4, 5] (fun l i wr => ∃ k : Nat, k ≤ vs.length ∧ i = .int .i64 k ∧ (∃ a n c, l = .slice a n c) ∧ wr.ownsRow B 3 1 l (N0 ++ pairN 1 (vs.take k)).length ((N0 ++ pairN 1 (vs.take k)).flatMap encI) ∧ Below B W1 wr) (fun _ i _ => vs.length - (intOf i).toNat)
    case atStart => exact ⟨0, by omega, rfl, ⟨_, _, _, rfl⟩, by rw [HZ0.out]; exact OC.out, AC.out⟩
    case round =>
      clear OC AC HZ0
      obtain ⟨k, hk, rfl, ⟨la, ln, lc, rfl⟩, how, hbel⟩ := hrel
      have OW : Hid (wr.ownsRow B 3 1 (.slice la ln lc) (N0 ++ pairN 1 (vs.take k)).length ((N0 ++ pairN 1 (vs.take k)).flatMap encI)) := how
      have AB : Hid (Below B W1 wr) := hbel
      have hsr : B ≤ wr.heap.size := by have := hbel.size; have := HBE.out; omega
      have hll : (N0 ++ pairN 1 (vs.take k)).length ≤ 500 := by have := HL4.out; rw [List.length_append, pairN_len, List.length_take]; omega
      obtain ⟨Q7, _, MV, _⟩ := HK.out _ hbel
      clear how hbel
      by_cases hlt : k < vs.length
      · obtain ⟨bv, ov, cv', e5, _, _, ltv, hvv⟩ := MlR.at (HK.out W1 (Below.refl _ _)).2.2.1 (by omega)
        injection e5 with e5 _ e6
        subst e5 e6
        obtain ⟨x, hx⟩ := getX hlt
        obtain ⟨y0, y1⟩ := hvv k x hx
        obtain ⟨g1, g2, g3, g4⟩ := HVB.out x (List.mem_of_getElem? hx)
        have HT : Hid (N0 ++ pairN 1 (vs.take (k + 1)) = (N0 ++ pairN 1 (vs.take k)) ++ [x.1 + 1, x.2 + 1]) := by show _ = _; rw [take_snoc hx, pairN_app, pairN_one, List.append_assoc]
        have p0 : (0 : Int) ≤ (k : Int) := by omega
        have p1 : (k : Int) < (vs.length : Int) := by omega
        have w1 : IntKind.i64.wrap (x.1 + 1) = x.1 + 1 := wrap_id64 (by omega) (by omega)
        have w2 : IntKind.i64.wrap (x.2 + 1) = x.2 + 1 := wrap_id64 (by omega) (by omega)
        obtain ⟨x1, x2⟩ := x
        simp only at y0 y1 g1 g2 g3 g4 HT w1 w2
        generalize N0 ++ pairN 1 (vs.take k) = M at *
        have HSB : Hid (∀ V, Below B W1 V → (V.cell? ⟨w.heap.size, 3, none⟩ = some (.slice (some ⟨bv, ov, none⟩) vs.length vc) ∧ V.cell? ⟨bv, ov + k * 2, none⟩ = some (.int .i64 x1) ∧ V.cell? ⟨bv, ov + k * 2 + 1, none⟩ = some (.int .i64 x2))) := fun V hV => ⟨(HK.out V hV).1.all5.2.2.2.1, (hV.cell (p := ⟨bv, ov + k * 2, none⟩) (by have := HBE.out; show bv < B; omega)).trans y0, (hV.cell (p := ⟨bv, ov + k * 2 + 1, none⟩) (by have := HBE.out; show bv < B; omega)).trans y1⟩
        have HS : Hid (∀ V, Below wr.heap.size wr V → (V.cell? ⟨w.heap.size, 3, none⟩ = some (.slice (some ⟨bv, ov, none⟩) vs.length vc) ∧ V.cell? ⟨bv, ov + k * 2, none⟩ = some (.int .i64 x1) ∧ V.cell? ⟨bv, ov + k * 2 + 1, none⟩ = some (.int .i64 x2))) := fun V hV => HSB.out V (AB.out.trans (hV.mono hsr))
        obtain ⟨c0, c1, c2, c3, c4⟩ := Q7.all5
        clear hvv hx Q7 MV y0 y1
        go_upto_region 9 with fail
        clear c0 c1 c2 c3 c4
        have bd : Below wr.heap.size wr wr.drew := (Below.refl _ _).drew
        have HS0 : Hid (wr.drew.cell? ⟨w.heap.size, 3, none⟩ = some (.slice (some ⟨bv, ov, none⟩) vs.length vc) ∧ wr.drew.cell? ⟨bv, ov + k * 2, none⟩ = some (.int .i64 x1) ∧ wr.drew.cell? ⟨bv, ov + k * 2 + 1, none⟩ = some (.int .i64 x2)) := HS.out _ bd
        have ba : Below wr.heap.size wr (wr.drew.alloc (.cells #[.int .i64 (x1 + 1), .int .i64 (x2 + 1)] 3)) := bd.alloc bd.size _
        have HSA : Hid ((wr.drew.alloc (.cells #[.int .i64 (x1 + 1), .int .i64 (x2 + 1)] 3)).cell? ⟨w.heap.size, 3, none⟩ = some (.slice (some ⟨bv, ov, none⟩) vs.length vc) ∧ (wr.drew.alloc (.cells #[.int .i64 (x1 + 1), .int .i64 (x2 + 1)] 3)).cell? ⟨bv, ov + k * 2, none⟩ = some (.int .i64 x1) ∧ (wr.drew.alloc (.cells #[.int .i64 (x1 + 1), .int .i64 (x2 + 1)] 3)).cell? ⟨bv, ov + k * 2 + 1, none⟩ = some (.int .i64 x2)) := HS.out _ ba
        have owA : (wr.drew.alloc (.cells #[.int .i64 (x1 + 1), .int .i64 (x2 + 1)] 3)).ownsRow B 3 1 (.slice la ln lc) M.length (M.flatMap encI) := own_below OW.out ba (Nat.le_refl _)
        obtain ⟨v8, w8, hrun8, hown8, hg8⟩ := run_append_rowK kI (w := wr.drew.alloc (.cells #[.int .i64 (x1 + 1), .int .i64 (x2 + 1)] 3)) 47 B (.slice la ln lc) M owA (.slice (some ⟨wr.heap.size, 0, none⟩) 2 2) [x1 + 1, x2 + 1] (RowK.own encI_len (own_lit2 wr.drew B (by show B ≤ wr.heap.size; omega) (x1 + 1) (x2 + 1))) (by show (M.length + 2) * 8 ≤ _; omega) (by unfold maxLen; simp only [List.length_cons, List.length_nil]; omega) (by have := ba.size; omega)
        have b8 : Below B W1 w8 := (AB.out.trans (ba.mono (by omega))).grown hg8 (by have := ba.size; omega) (fun g hg => (own_ge owA hg).1)
        have HS8 : Hid (w8.cell? ⟨w.heap.size, 3, none⟩ = some (.slice (some ⟨bv, ov, none⟩) vs.length vc) ∧ w8.cell? ⟨bv, ov + k * 2, none⟩ = some (.int .i64 x1) ∧ w8.cell? ⟨bv, ov + k * 2 + 1, none⟩ = some (.int .i64 x2)) := HSB.out _ b8
        refine wp_region_held (S := fun V => (V.cell? ⟨w.heap.size, 3, none⟩ = some (.slice (some ⟨bv, ov, none⟩) vs.length vc) ∧ V.cell? ⟨bv, ov + k * 2, none⟩ = some (.int .i64 x1) ∧ V.cell? ⟨bv, ov + k * 2 + 1, none⟩ = some (.int .i64 x2))) (by kernel_rfl) ?_
        simp only [List.size_toArray, List.length_cons, List.length_nil, Nat.reduceAdd]
        refine takeH (i := 0) (v := .slice la ln lc) (d := 33) rfl rfl (by kernel_rfl) (by kernel_rfl) (by kernel_rfl) (fun _ _ _ h => h) (by rfl) (fun V hV => by obtain ⟨v1, v2, v3⟩ := hV; go_simp) HS0.out ?_
        simp only [Act.put, List.setIfInBounds_toArray, List.set_cons_zero, List.set_cons_succ]
        refine takeH (i := 1) (v := .pointer (some ⟨w.heap.size, 3, none⟩)) (d := 34) rfl rfl (by kernel_rfl) (by kernel_rfl) (by kernel_rfl) (fun _ _ _ h => h) (by rfl) (fun V hV => by obtain ⟨v1, v2, v3⟩ := hV; go_simp) HS0.out ?_
        simp only [Act.put, List.setIfInBounds_toArray, List.set_cons_zero, List.set_cons_succ]
        refine takeH (i := 2) (v := .slice (some ⟨bv, ov, none⟩) vs.length vc) (d := 35) rfl rfl (by kernel_rfl) (by kernel_rfl) (by kernel_rfl) (fun _ _ _ h => h) (by rfl) (fun V hV => by obtain ⟨v1, v2, v3⟩ := hV; go_simp) HS0.out ?_
        simp only [Act.put, List.setIfInBounds_toArray, List.set_cons_zero, List.set_cons_succ]
        refine takeH (i := 3) (v := .int .i64 (k : Int)) (d := 36) rfl rfl (by kernel_rfl) (by kernel_rfl) (by kernel_rfl) (fun _ _ _ h => h) (by rfl) (fun V hV => by obtain ⟨v1, v2, v3⟩ := hV; go_simp) HS0.out ?_
        simp only [Act.put, List.setIfInBounds_toArray, List.set_cons_zero, List.set_cons_succ]
        refine takeH (i := 4) (v := .pointer (some ⟨bv, ov + k * 2, none⟩)) (d := 37) rfl rfl (by kernel_rfl) (by kernel_rfl) (by kernel_rfl) (fun _ _ _ h => h) (by rfl) (fun V hV => by obtain ⟨v1, v2, v3⟩ := hV; go_simp) HS0.out ?_
        simp only [Act.put, List.setIfInBounds_toArray, List.set_cons_zero, List.set_cons_succ]
        refine takeH (i := 5) (v := .pointer (some ⟨bv, ov + k * 2, none⟩)) (d := 38) rfl rfl (by kernel_rfl) (by kernel_rfl) (by kernel_rfl) (fun _ _ _ h => h) (by rfl) (fun V hV => by obtain ⟨v1, v2, v3⟩ := hV; go_simp) HS0.out ?_
        simp only [Act.put, List.setIfInBounds_toArray, List.set_cons_zero, List.set_cons_succ]
        refine takeH (i := 6) (v := .int .i64 x1) (d := 39) rfl rfl (by kernel_rfl) (by kernel_rfl) (by kernel_rfl) (fun _ _ _ h => h) (by rfl) (fun V hV => by obtain ⟨v1, v2, v3⟩ := hV; go_simp) HS0.out ?_
        simp only [Act.put, List.setIfInBounds_toArray, List.set_cons_zero, List.set_cons_succ]
        refine takeH (i := 7) (v := .int .i64 (x1 + 1)) (d := 40) rfl rfl (by kernel_rfl) (by kernel_rfl) (by kernel_rfl) (fun _ _ _ h => h) (by rfl) (fun V hV => by obtain ⟨v1, v2, v3⟩ := hV; go_simp) HS0.out ?_
        simp only [Act.put, List.setIfInBounds_toArray, List.set_cons_zero, List.set_cons_succ]
        refine takeH (i := 8) (v := .pointer (some ⟨w.heap.size, 3, none⟩)) (d := 41) rfl rfl (by kernel_rfl) (by kernel_rfl) (by kernel_rfl) (fun _ _ _ h => h) (by rfl) (fun V hV => by obtain ⟨v1, v2, v3⟩ := hV; go_simp) HS0.out ?_
        simp only [Act.put, List.setIfInBounds_toArray, List.set_cons_zero, List.set_cons_succ]
        refine takeH (i := 9) (v := .slice (some ⟨bv, ov, none⟩) vs.length vc) (d := 42) rfl rfl (by kernel_rfl) (by kernel_rfl) (by kernel_rfl) (fun _ _ _ h => h) (by rfl) (fun V hV => by obtain ⟨v1, v2, v3⟩ := hV; go_simp) HS0.out ?_
        simp only [Act.put, List.setIfInBounds_toArray, List.set_cons_zero, List.set_cons_succ]
        refine takeH (i := 10) (v := .int .i64 (k : Int)) (d := 43) rfl rfl (by kernel_rfl) (by kernel_rfl) (by kernel_rfl) (fun _ _ _ h => h) (by rfl) (fun V hV => by obtain ⟨v1, v2, v3⟩ := hV; go_simp) HS0.out ?_
        simp only [Act.put, List.setIfInBounds_toArray, List.set_cons_zero, List.set_cons_succ]
        refine takeH (i := 11) (v := .pointer (some ⟨bv, ov + k * 2, none⟩)) (d := 44) rfl rfl (by kernel_rfl) (by kernel_rfl) (by kernel_rfl) (fun _ _ _ h => h) (by rfl) (fun V hV => by obtain ⟨v1, v2, v3⟩ := hV; go_simp) HS0.out ?_
        simp only [Act.put, List.setIfInBounds_toArray, List.set_cons_zero, List.set_cons_succ]
        refine takeH (i := 12) (v := .pointer (some ⟨bv, ov + k * 2 + 1, none⟩)) (d := 45) rfl rfl (by kernel_rfl) (by kernel_rfl) (by kernel_rfl) (fun _ _ _ h => h) (by rfl) (fun V hV => by obtain ⟨v1, v2, v3⟩ := hV; go_simp) HS0.out ?_
        simp only [Act.put, List.setIfInBounds_toArray, List.set_cons_zero, List.set_cons_succ]
        refine takeH (i := 13) (v := .int .i64 x2) (d := 46) rfl rfl (by kernel_rfl) (by kernel_rfl) (by kernel_rfl) (fun _ _ _ h => h) (by rfl) (fun V hV => by obtain ⟨v1, v2, v3⟩ := hV; go_simp) HS0.out ?_
        simp only [Act.put, List.setIfInBounds_toArray, List.set_cons_zero, List.set_cons_succ]
        refine takeH (i := 14) (v := .int .i64 (x2 + 1)) (d := 47) rfl rfl (by kernel_rfl) (by kernel_rfl) (by kernel_rfl) (fun _ _ _ h => h) (by rfl) (fun V hV => by obtain ⟨v1, v2, v3⟩ := hV; go_simp) HS0.out ?_
        simp only [Act.put, List.setIfInBounds_toArray, List.set_cons_zero, List.set_cons_succ]
        refine oneH (i := 15) rfl (by kernel_rfl) rfl (op_run (d := 48) (v' := .slice (some ⟨wr.heap.size, 0, none⟩) 2 2) (w' := wr.drew.alloc (.cells #[.int .i64 (x1 + 1), .int .i64 (x2 + 1)] 3)) rfl (by go_simp) ⟨HSA.out, ?_⟩)
        simp only [Act.put, List.setIfInBounds_toArray, List.set_cons_zero, List.set_cons_succ]
        refine oneH (i := 16) rfl (by kernel_rfl) rfl (call_append (d := 49) (s := .tmp 33) (x := .tmp 48) (t := 47) rfl rfl rfl rfl hrun8 ⟨HS8.out, ?_⟩)
        simp only [Act.put, List.setIfInBounds_toArray, List.set_cons_zero, List.set_cons_succ]
        obtain ⟨ya, yn, yc, rfl⟩ : ∃ a n c, v8 = .slice a n c := by
          obtain ⟨p1, p2, e⟩ := (RowK.own encI_len hown8 : InR w8 v8 (M ++ [x1 + 1, x2 + 1])).shape
          exact ⟨_, _, _, e⟩
        refine takeH (i := 17) (v := .slice ya yn yc) (d := 4) rfl rfl (by kernel_rfl) (by kernel_rfl) (by kernel_rfl) (fun _ _ _ h => h) (by rfl) (fun V hV => by obtain ⟨v1, v2, v3⟩ := hV; go_simp) HS8.out ?_
        simp only [Act.put, List.setIfInBounds_toArray, List.set_cons_zero, List.set_cons_succ]
        refine wpAnyH_done (by kernel_rfl) ?_ _
        have NO : Hid (w8.ownsRow B 3 1 (.slice ya yn yc) (M ++ [x1 + 1, x2 + 1]).length ((M ++ [x1 + 1, x2 + 1]).flatMap encI)) := hown8
        have NA : Hid (Below B W1 w8) := b8
        clear HS0 HSA HS8 HS owA hrun8 hown8 hg8 b8 ba bd OW AB
        go_wp2_with fail
        go_roundw
        case rel => exact ⟨k + 1, by omega, by go_num, ⟨_, _, _, rfl⟩, by rw [HT.out]; exact NO.out, NA.out⟩
        case measure => simp [intOf]; omega
      · have ek : vs.take k = vs := List.take_of_length_le (by omega)
        rw [ek] at OW hll
        obtain ⟨c0, c1, c2, c3, c4⟩ := Q7.all5
        generalize N0 ++ pairN 1 vs = N1 at *
        obtain ⟨V7, hV7⟩ : ∃ V, V = wr := ⟨wr, rfl⟩
        rw [← hV7] at OW AB hsr c0 c1 c2 c3 c4 ⊢
        clear ek Q7 MV hV7
        have owA : Hid ((V7.alloc (.cells #[.int .i64 (ms.length : Int)] 3)).ownsRow B 3 1 (.slice la ln lc) N1.length (N1.flatMap encI)) := OW.out.alloc _
        have RL : Hid (InR (V7.alloc (.cells #[.int .i64 (ms.length : Int)] 3)) (.slice (some ⟨V7.heap.size, 0, none⟩) 1 1) [(ms.length : Int)]) := RowK.own encI_len (own_lit1 V7 B hsr _)
        have baA : Hid (Below B W1 (V7.alloc (.cells #[.int .i64 (ms.length : Int)] 3)) ∧ B ≤ (V7.alloc (.cells #[.int .i64 (ms.length : Int)] 3)).heap.size) := ⟨AB.out.alloc hsr _, by simp; omega⟩
        go_wp2_with (at_builtin; refine wpList_append_rowK kI rfl _ _ rfl B _ N1 rfl owA.out _ [(ms.length : Int)] rfl RL.out ?d1 ?d2 baA.out.2 ?_)
        case d1 => show (N1.length + 1) * 8 ≤ _; omega
        case d2 => unfold maxLen; simp only [List.length_cons, List.length_nil]; omega
        intro v8 w8 hown8' hb8 _
        have hown8 : w8.ownsRow B 3 1 v8 (N1 ++ [(ms.length : Int)]).length ((N1 ++ [(ms.length : Int)]).flatMap encI) := by rw [flat_snoc, List.length_append]; exact hown8'
        clear hown8'
        obtain ⟨ya, yn, yc, rfl⟩ : ∃ a n c, v8 = .slice a n c := by
          obtain ⟨p1, p2, e⟩ := (RowK.own encI_len hown8 : InR w8 v8 (N1 ++ [(ms.length : Int)])).shape
          exact ⟨_, _, _, e⟩
        have O8 : Hid (w8.ownsRow B 3 1 (.slice ya yn yc) (N1 ++ [(ms.length : Int)]).length ((N1 ++ [(ms.length : Int)]).flatMap encI)) := hown8
        have A8 : Hid (Below B W1 w8) := baA.out.1.trans hb8
        have HL2 : Hid ((N1 ++ [(ms.length : Int)]).length ≤ 501) := by show _ ≤ _; rw [List.length_append]; simp only [List.length_cons, List.length_nil]; omega
        have HZ2 : Hid ((N1 ++ [(ms.length : Int)]) ++ pairN 0 (ms.take 0) = N1 ++ [(ms.length : Int)]) := by show _ = _; simp [pairN]
        clear hown8 hb8 owA RL baA OW AB c0 c1 c2 c3 c4
        obtain ⟨Q8, _, _, _⟩ := HK.out _ A8.out
        obtain ⟨c0, c1, c2, c3, c4⟩ := Q8.all5
        clear Q8
        generalize N1 ++ [(ms.length : Int)] = N2 at *
        go_wp2_with fail
        clear c0 c1 c2 c3 c4
        go_loopw [4, 6] (fun l i wr => ∃ k : Nat, k ≤ ms.length ∧ i = .int .i64 k ∧ (∃ a n c, l = .slice a n c) ∧ wr.ownsRow B 3 1 l (N2 ++ pairN 0 (ms.take k)).length ((N2 ++ pairN 0 (ms.take k)).flatMap encI) ∧ Below B W1 wr) (fun _ i _ => ms.length - (intOf i).toNat)
        case atStart => exact ⟨0, by omega, rfl, ⟨_, _, _, rfl⟩, by rw [HZ2.out]; exact O8.out, A8.out⟩
        case round =>
          clear O8 A8 HZ2 hsr hll
          obtain ⟨k, hk, rfl, ⟨la, ln, lc, rfl⟩, how, hbel⟩ := hrel
          have OW : Hid (wr.ownsRow B 3 1 (.slice la ln lc) (N2 ++ pairN 0 (ms.take k)).length ((N2 ++ pairN 0 (ms.take k)).flatMap encI)) := how
          have AB : Hid (Below B W1 wr) := hbel
          have hsr : B ≤ wr.heap.size := by have := hbel.size; have := HBE.out; omega
          have hll : (N2 ++ pairN 0 (ms.take k)).length ≤ 11000 := by have := HL2.out; rw [List.length_append, pairN_len, List.length_take]; omega
          obtain ⟨Q7, BW7, _, MM⟩ := HK.out _ hbel
          clear how hbel
          by_cases hlt : k < ms.length
          · obtain ⟨bv, ov, cv', e5, _, _, ltv, hvv⟩ := MlR.at (HK.out W1 (Below.refl _ _)).2.2.2 (by omega)
            injection e5 with e5 _ e6
            subst e5 e6
            obtain ⟨x, hx⟩ := getX hlt
            obtain ⟨y0, y1⟩ := hvv k x hx
            have HT : Hid (N2 ++ pairN 0 (ms.take (k + 1)) = (N2 ++ pairN 0 (ms.take k)) ++ [x.1, x.2]) := by show _ = _; rw [take_snoc hx, pairN_app, pairN_one, List.append_assoc, Int.add_zero, Int.add_zero]
            have p0 : (0 : Int) ≤ (k : Int) := by omega
            have p1 : (k : Int) < (ms.length : Int) := by omega
            obtain ⟨x1, x2⟩ := x
            simp only at y0 y1 HT
            generalize N2 ++ pairN 0 (ms.take k) = M at *
            have HSB : Hid (∀ V, Below B W1 V → (V.cell? ⟨w.heap.size, 4, none⟩ = some (.slice (some ⟨bv, ov, none⟩) ms.length mc) ∧ V.cell? ⟨bv, ov + k * 2, none⟩ = some (.int .i64 x1) ∧ V.cell? ⟨bv, ov + k * 2 + 1, none⟩ = some (.int .i64 x2))) := fun V hV => ⟨(HK.out V hV).1.all5.2.2.2.2, (hV.cell (p := ⟨bv, ov + k * 2, none⟩) (by have := HBE.out; show bv < B; omega)).trans y0, (hV.cell (p := ⟨bv, ov + k * 2 + 1, none⟩) (by have := HBE.out; show bv < B; omega)).trans y1⟩
            have HS : Hid (∀ V, Below wr.heap.size wr V → (V.cell? ⟨w.heap.size, 4, none⟩ = some (.slice (some ⟨bv, ov, none⟩) ms.length mc) ∧ V.cell? ⟨bv, ov + k * 2, none⟩ = some (.int .i64 x1) ∧ V.cell? ⟨bv, ov + k * 2 + 1, none⟩ = some (.int .i64 x2))) := fun V hV => HSB.out V (AB.out.trans (hV.mono hsr))
            obtain ⟨c0, c1, c2, c3, c4⟩ := Q7.all5
            clear hvv hx Q7 MM BW7 y0 y1
            go_upto_region 14 with fail
            clear c0 c1 c2 c3 c4
            have bd : Below wr.heap.size wr wr.drew := (Below.refl _ _).drew
            have HS0 : Hid (wr.drew.cell? ⟨w.heap.size, 4, none⟩ = some (.slice (some ⟨bv, ov, none⟩) ms.length mc) ∧ wr.drew.cell? ⟨bv, ov + k * 2, none⟩ = some (.int .i64 x1) ∧ wr.drew.cell? ⟨bv, ov + k * 2 + 1, none⟩ = some (.int .i64 x2)) := HS.out _ bd
            have ba : Below wr.heap.size wr (wr.drew.alloc (.cells #[.int .i64 (x1), .int .i64 (x2)] 3)) := bd.alloc bd.size _
            have HSA : Hid ((wr.drew.alloc (.cells #[.int .i64 (x1), .int .i64 (x2)] 3)).cell? ⟨w.heap.size, 4, none⟩ = some (.slice (some ⟨bv, ov, none⟩) ms.length mc) ∧ (wr.drew.alloc (.cells #[.int .i64 (x1), .int .i64 (x2)] 3)).cell? ⟨bv, ov + k * 2, none⟩ = some (.int .i64 x1) ∧ (wr.drew.alloc (.cells #[.int .i64 (x1), .int .i64 (x2)] 3)).cell? ⟨bv, ov + k * 2 + 1, none⟩ = some (.int .i64 x2)) := HS.out _ ba
            have owA : (wr.drew.alloc (.cells #[.int .i64 (x1), .int .i64 (x2)] 3)).ownsRow B 3 1 (.slice la ln lc) M.length (M.flatMap encI) := own_below OW.out ba (Nat.le_refl _)
            obtain ⟨v8, w8, hrun8, hown8, hg8⟩ := run_append_rowK kI (w := wr.drew.alloc (.cells #[.int .i64 (x1), .int .i64 (x2)] 3)) 47 B (.slice la ln lc) M owA (.slice (some ⟨wr.heap.size, 0, none⟩) 2 2) [x1, x2] (RowK.own encI_len (own_lit2 wr.drew B (by show B ≤ wr.heap.size; omega) (x1) (x2))) (by show (M.length + 2) * 8 ≤ _; omega) (by unfold maxLen; simp only [List.length_cons, List.length_nil]; omega) (by have := ba.size; omega)
            have b8 : Below B W1 w8 := (AB.out.trans (ba.mono (by omega))).grown hg8 (by have := ba.size; omega) (fun g hg => (own_ge owA hg).1)
            have HS8 : Hid (w8.cell? ⟨w.heap.size, 4, none⟩ = some (.slice (some ⟨bv, ov, none⟩) ms.length mc) ∧ w8.cell? ⟨bv, ov + k * 2, none⟩ = some (.int .i64 x1) ∧ w8.cell? ⟨bv, ov + k * 2 + 1, none⟩ = some (.int .i64 x2)) := HSB.out _ b8
            refine wp_region_held (S := fun V => (V.cell? ⟨w.heap.size, 4, none⟩ = some (.slice (some ⟨bv, ov, none⟩) ms.length mc) ∧ V.cell? ⟨bv, ov + k * 2, none⟩ = some (.int .i64 x1) ∧ V.cell? ⟨bv, ov + k * 2 + 1, none⟩ = some (.int .i64 x2))) (by kernel_rfl) ?_
            simp only [List.size_toArray, List.length_cons, List.length_nil, Nat.reduceAdd]
            refine takeH (i := 0) (v := .slice la ln lc) (d := 63) rfl rfl (by kernel_rfl) (by kernel_rfl) (by kernel_rfl) (fun _ _ _ h => h) (by rfl) (fun V hV => by obtain ⟨v1, v2, v3⟩ := hV; go_simp) HS0.out ?_
            simp only [Act.put, List.setIfInBounds_toArray, List.set_cons_zero, List.set_cons_succ]
            refine takeH (i := 1) (v := .pointer (some ⟨w.heap.size, 4, none⟩)) (d := 64) rfl rfl (by kernel_rfl) (by kernel_rfl) (by kernel_rfl) (fun _ _ _ h => h) (by rfl) (fun V hV => by obtain ⟨v1, v2, v3⟩ := hV; go_simp) HS0.out ?_
            simp only [Act.put, List.setIfInBounds_toArray, List.set_cons_zero, List.set_cons_succ]
            refine takeH (i := 2) (v := .slice (some ⟨bv, ov, none⟩) ms.length mc) (d := 65) rfl rfl (by kernel_rfl) (by kernel_rfl) (by kernel_rfl) (fun _ _ _ h => h) (by rfl) (fun V hV => by obtain ⟨v1, v2, v3⟩ := hV; go_simp) HS0.out ?_
            simp only [Act.put, List.setIfInBounds_toArray, List.set_cons_zero, List.set_cons_succ]
            refine takeH (i := 3) (v := .int .i64 (k : Int)) (d := 66) rfl rfl (by kernel_rfl) (by kernel_rfl) (by kernel_rfl) (fun _ _ _ h => h) (by rfl) (fun V hV => by obtain ⟨v1, v2, v3⟩ := hV; go_simp) HS0.out ?_
            simp only [Act.put, List.setIfInBounds_toArray, List.set_cons_zero, List.set_cons_succ]
            refine takeH (i := 4) (v := .pointer (some ⟨bv, ov + k * 2, none⟩)) (d := 67) rfl rfl (by kernel_rfl) (by kernel_rfl) (by kernel_rfl) (fun _ _ _ h => h) (by rfl) (fun V hV => by obtain ⟨v1, v2, v3⟩ := hV; go_simp) HS0.out ?_
            simp only [Act.put, List.setIfInBounds_toArray, List.set_cons_zero, List.set_cons_succ]
            refine takeH (i := 5) (v := .pointer (some ⟨bv, ov + k * 2, none⟩)) (d := 68) rfl rfl (by kernel_rfl) (by kernel_rfl) (by kernel_rfl) (fun _ _ _ h => h) (by rfl) (fun V hV => by obtain ⟨v1, v2, v3⟩ := hV; go_simp) HS0.out ?_
            simp only [Act.put, List.setIfInBounds_toArray, List.set_cons_zero, List.set_cons_succ]
            refine takeH (i := 6) (v := .int .i64 x1) (d := 69) rfl rfl (by kernel_rfl) (by kernel_rfl) (by kernel_rfl) (fun _ _ _ h => h) (by rfl) (fun V hV => by obtain ⟨v1, v2, v3⟩ := hV; go_simp) HS0.out ?_
            simp only [Act.put, List.setIfInBounds_toArray, List.set_cons_zero, List.set_cons_succ]
            refine takeH (i := 7) (v := .pointer (some ⟨w.heap.size, 4, none⟩)) (d := 70) rfl rfl (by kernel_rfl) (by kernel_rfl) (by kernel_rfl) (fun _ _ _ h => h) (by rfl) (fun V hV => by obtain ⟨v1, v2, v3⟩ := hV; go_simp) HS0.out ?_
            simp only [Act.put, List.setIfInBounds_toArray, List.set_cons_zero, List.set_cons_succ]
            refine takeH (i := 8) (v := .slice (some ⟨bv, ov, none⟩) ms.length mc) (d := 71) rfl rfl (by kernel_rfl) (by kernel_rfl) (by kernel_rfl) (fun _ _ _ h => h) (by rfl) (fun V hV => by obtain ⟨v1, v2, v3⟩ := hV; go_simp) HS0.out ?_
            simp only [Act.put, List.setIfInBounds_toArray, List.set_cons_zero, List.set_cons_succ]
            refine takeH (i := 9) (v := .int .i64 (k : Int)) (d := 72) rfl rfl (by kernel_rfl) (by kernel_rfl) (by kernel_rfl) (fun _ _ _ h => h) (by rfl) (fun V hV => by obtain ⟨v1, v2, v3⟩ := hV; go_simp) HS0.out ?_
            simp only [Act.put, List.setIfInBounds_toArray, List.set_cons_zero, List.set_cons_succ]
            refine takeH (i := 10) (v := .pointer (some ⟨bv, ov + k * 2, none⟩)) (d := 73) rfl rfl (by kernel_rfl) (by kernel_rfl) (by kernel_rfl) (fun _ _ _ h => h) (by rfl) (fun V hV => by obtain ⟨v1, v2, v3⟩ := hV; go_simp) HS0.out ?_
            simp only [Act.put, List.setIfInBounds_toArray, List.set_cons_zero, List.set_cons_succ]
            refine takeH (i := 11) (v := .pointer (some ⟨bv, ov + k * 2 + 1, none⟩)) (d := 74) rfl rfl (by kernel_rfl) (by kernel_rfl) (by kernel_rfl) (fun _ _ _ h => h) (by rfl) (fun V hV => by obtain ⟨v1, v2, v3⟩ := hV; go_simp) HS0.out ?_
            simp only [Act.put, List.setIfInBounds_toArray, List.set_cons_zero, List.set_cons_succ]
            refine takeH (i := 12) (v := .int .i64 x2) (d := 75) rfl rfl (by kernel_rfl) (by kernel_rfl) (by kernel_rfl) (fun _ _ _ h => h) (by rfl) (fun V hV => by obtain ⟨v1, v2, v3⟩ := hV; go_simp) HS0.out ?_
            simp only [Act.put, List.setIfInBounds_toArray, List.set_cons_zero, List.set_cons_succ]
            refine oneH (i := 13) rfl (by kernel_rfl) rfl (op_run (d := 76) (v' := .slice (some ⟨wr.heap.size, 0, none⟩) 2 2) (w' := wr.drew.alloc (.cells #[.int .i64 (x1), .int .i64 (x2)] 3)) rfl (by go_simp) ⟨HSA.out, ?_⟩)
            simp only [Act.put, List.setIfInBounds_toArray, List.set_cons_zero, List.set_cons_succ]
            refine oneH (i := 14) rfl (by kernel_rfl) rfl (call_append (d := 77) (s := .tmp 63) (x := .tmp 76) (t := 47) rfl rfl rfl rfl hrun8 ⟨HS8.out, ?_⟩)
            simp only [Act.put, List.setIfInBounds_toArray, List.set_cons_zero, List.set_cons_succ]
            obtain ⟨ya, yn, yc, rfl⟩ : ∃ a n c, v8 = .slice a n c := by
              obtain ⟨p1, p2, e⟩ := (RowK.own encI_len hown8 : InR w8 v8 (M ++ [x1, x2])).shape
              exact ⟨_, _, _, e⟩
            refine takeH (i := 15) (v := .slice ya yn yc) (d := 4) rfl rfl (by kernel_rfl) (by kernel_rfl) (by kernel_rfl) (fun _ _ _ h => h) (by rfl) (fun V hV => by obtain ⟨v1, v2, v3⟩ := hV; go_simp) HS8.out ?_
            simp only [Act.put, List.setIfInBounds_toArray, List.set_cons_zero, List.set_cons_succ]
            refine wpAnyH_done (by kernel_rfl) ?_ _
            have NO : Hid (w8.ownsRow B 3 1 (.slice ya yn yc) (M ++ [x1, x2]).length ((M ++ [x1, x2]).flatMap encI)) := hown8
            have NA : Hid (Below B W1 w8) := b8
            clear HS0 HSA HS8 HS owA hrun8 hown8 hg8 b8 ba bd OW AB
            go_wp2_with fail
            go_roundw
            case rel => exact ⟨k + 1, by omega, by go_num, ⟨_, _, _, rfl⟩, by rw [HT.out]; exact NO.out, NA.out⟩
            case measure => simp [intOf]; omega
          · have ek : ms.take k = ms := List.take_of_length_le (by omega)
            rw [ek, ← NE.out] at OW
            have HB7 : Hid (Below w.heap.size w wr) := BW7
            obtain ⟨c0, c1, c2, c3, c4⟩ := Q7.all5
            obtain ⟨V9, hV9⟩ : ∃ V, V = wr := ⟨wr, rfl⟩
            rw [← hV9] at OW AB hsr HB7 c0 c1 c2 c3 c4 ⊢
            obtain ⟨p1, p2, e9⟩ := (RowK.own encI_len OW.out : InR V9 (.slice la ln lc) NS).shape
            injection e9 with e9 e10 e11
            subst e9 e10 e11
            have hnl := HNL.out
            clear ek Q7 MM hV9 BW7 hll HK HL2 HVB NE
            go_wp2_with fail
            clear c0 c1 c2 c3 c4
            go_loopw [7, 8] (fun l i wr => ∃ k : Nat, k ≤ NS.length ∧ i = .int .i64 k ∧ (∃ a n c, l = .slice a n c) ∧ wr.ownsRow V9.heap.size 5 1 l (bytN (NS.take k)).length ((bytN (NS.take k)).map (Value.int .u8)) ∧ Below V9.heap.size V9 wr) (fun _ i _ => NS.length - (intOf i).toNat)
            case atStart => exact ⟨0, by omega, rfl, ⟨_, _, _, rfl⟩, World.ownsRow_nil _ _ _ _, Below.refl _ _⟩
            case round =>
              obtain ⟨k, hk, rfl, ⟨pa, pn, pc, rfl⟩, how, hbel⟩ := hrel
              have OB : Hid (wr.ownsRow V9.heap.size 5 1 (.slice pa pn pc) (bytN (NS.take k)).length ((bytN (NS.take k)).map (Value.int .u8))) := how
              have A9 : Hid (Below V9.heap.size V9 wr) := hbel
              have hs9 := hbel.size
              have hlb : (bytN (NS.take k)).length ≤ 110000 := by
                have h1 := bytN_len (NS.take k)
                rw [List.length_take] at h1
                omega
              clear how hbel
              by_cases hlt : k < NS.length
              · obtain ⟨b, off, cap', e1, _, _, lt, hv⟩ := InR.at ((RowK.own encI_len OW.out : InR V9 (.slice la NS.length lc) NS).below A9.out (Nat.le_refl _)) (by omega)
                injection e1 with e1 _ e3
                subst e1 e3
                obtain ⟨x, hx⟩ := getX hlt
                have d1 := hv k x hx
                obtain ⟨g1, g2⟩ := HNI.out x (List.mem_of_getElem? hx)
                have HT : Hid (bytN (NS.take (k + 1)) = bytN (NS.take k) ++ put x) := by show _ = _; rw [take_snoc hx, bytN_app, bytN_one]
                have p0 : (0 : Int) ≤ (k : Int) := by omega
                have p1 : (k : Int) < (NS.length : Int) := by omega
                have wx : IntKind.u64.wrap x = x := by rw [IntKind.wrap_u64]; omega
                have hpl := putLen_le x
                have CP : Hid (∀ X, Calls Try.prog 24 #[.int .u64 x] X fun e w' => ∃ v', e = .returned v' ∧ w'.ownsRow X.heap.size 5 1 v' (put x).length ((put x).map (Value.int .u8)) ∧ Below X.heap.size X w') := fun X => packed_any 9 x X g1 (by omega) (by omega)
                generalize bytN (NS.take k) = M at *
                clear hv hx
                go_wp2_with fail
                refine (CP.out _).mono ?_
                rintro e w2 ⟨v2, rfl, ho2, hb2⟩
                have O2 : Hid (w2.ownsRow V9.heap.size 5 1 (.slice pa pn pc) M.length (M.map (Value.int .u8))) := own_below OB.out hb2 (Nat.le_refl _)
                have R2 : Hid (Reads .u8 w2 v2 (put x)) := reads_own ho2
                have A2 : Hid (Below V9.heap.size V9 w2) := A9.out.trans (hb2.mono hs9)
                have hs2 := A2.out.size
                obtain ⟨qa, qn, qc, rfl⟩ : ∃ a n c, v2 = .slice a n c := by
                  rcases ho2.2 with ⟨hv, h0⟩ | ⟨g, cap, cur, hv, _⟩
                  · exact ⟨none, 0, 0, hv⟩
                  · exact ⟨_, _, _, hv⟩
                clear ho2 hb2 CP d1
                go_wp2_with (at_builtin; refine wpList_append_reads rfl _ _ rfl V9.heap.size _ M rfl O2.out _ (put x) rfl R2.out (by omega) hs2 ?_)
                intro v3 w3 hown3 hb3 _
                obtain ⟨qa3, qn3, qc3, rfl⟩ : ∃ a n c, v3 = .slice a n c := by
                  rcases hown3.2 with ⟨hv, h0⟩ | ⟨g, cap, cur, hv, _⟩
                  · exact ⟨none, 0, 0, hv⟩
                  · exact ⟨_, _, _, hv⟩
                have O3 : Hid (w3.ownsRow V9.heap.size 5 1 (.slice qa3 qn3 qc3) (M ++ put x).length ((M ++ put x).map (Value.int .u8))) := by show World.ownsRow _ _ _ _ _ _ _; simpa using hown3
                have A3 : Hid (Below V9.heap.size V9 w3) := A2.out.trans hb3
                clear hown3 hb3
                go_wp2_with fail
                go_roundw
                case rel => exact ⟨k + 1, by omega, by go_num, ⟨_, _, _, rfl⟩, by rw [HT.out]; exact O3.out, A3.out⟩
                case measure => simp [intOf]; omega
              · have ek : NS.take k = NS := List.take_of_length_le (by omega)
                rw [ek] at OB
                have hpn : pn = (bytN NS).length := own_lenB OB.out
                have HB9 : Hid (Below w.heap.size w wr) := HB7.out.trans (A9.out.mono HB7.out.size)
                have RN : Hid (Reads .u8 wr (.slice pa pn pc) (bytN NS)) := reads_own OB.out
                subst hpn
                generalize bytN NS = NN at *
                clear ek A9 OB OW AB HB7 HNI
                by_cases hsz : NN.length ≤ 20000
                · have HRE : Hid (R = (wrap NN, 0)) := EY2.out hsz
                  have CW : Hid (∀ X, X = wr → _) := fun X (_ : X = wr) => wrapped_any (.slice pa NN.length pc) NN wr RN.out HNB.out hsz
                  clear EB2 EY2
                  go_wp2_with fail
                  refine (CW.out _ rfl).mono ?_
                  rintro e W9 ⟨v9, rfl, ho9, hb9⟩
                  have HP : Hid (BytP2 w R (.returned (.tuple #[v9, .int .i64 0])) W9) := by
                    show BytP2 _ _ _ _
                    rw [HRE.out]
                    exact ⟨_, rfl, own_lower ho9 HB9.out.size, HB9.out.trans (hb9.mono HB9.out.size)⟩
                  clear ho9 hb9 CW
                  generalize BytP2 w R = P at *
                  go_wp2_with fail
                  exact HP.out
                · have HRE : Hid (R = ([], 1)) := EB2.out hsz
                  have CW : Hid (∀ X, X = wr → _) := fun X (_ : X = wr) => wrapped_over pa NN.length pc wr (by omega)
                  clear EB2 EY2
                  go_wp2_with fail
                  refine (CW.out _ rfl).mono ?_
                  rintro e W9 ⟨rfl, rfl⟩
                  have HP : Hid (BytP2 w R (.returned (.tuple #[.slice none 0 0, .int .i64 1])) W9) := by
                    show BytP2 _ _ _ _
                    rw [HRE.out]
                    exact BytP2.no HB9.out
                  clear CW
                  generalize BytP2 w R = P at *
                  go_wp2_with fail
                  exact HP.out
end Go.Proofs.Ytbfkmakfkbdafaa

namespace Go.Proofs.Ytbfkmakfkbdafaa
set_option maxRecDepth 100000
open Go.ChangeShapes Go.WideShapes Go.ChangeAt Go.RowKit

theorem sameBytes_yes (va vb : Value) (xs : List Int) (w : World) (ha : Reads .u8 w va xs) (hb : Reads .u8 w vb xs) (hx : ∀ x ∈ xs, 0 ≤ x ∧ x ≤ 255) :
    Calls Try.prog 9 #[va, vb] w fun e w' => e = .returned (.bool true) ∧ w' = w :=
  (sameBytes_any va vb xs xs w ha hb hx hx).mono fun e w' h => ⟨by rw [h.1]; simp, h.2⟩

set_option maxHeartbeats 1000000 in
set_option maxRecDepth 100000 in
theorem sameDisk_yes (va vb : Value) (fs : List FileL) (w : World) (ha : DiskR w va fs) (hb : DiskR w vb fs) (hg : Good fs) :
    Calls Try.prog 17 #[.agg #[va], .agg #[vb]] w fun e w' => e = .returned (.bool true) ∧ Below w.heap.size w w' := by
  have HG : Hid (Good fs) := hg
  obtain ⟨a, ca, rfl, hca, hma, _, hela⟩ := ha
  obtain ⟨b, cb, rfl, hcb, hmb, _, helb⟩ := hb
  have HA : Hid (0 < fs.length → ∃ x off, a = some ⟨x, off, none⟩ ∧ x < w.heap.size ∧ ∃ vs : Nat → Value, ∀ i, i < fs.length → FileC w x (off + i * 3) (vs i) (fs.getD i noF)) := hela
  have HB : Hid (0 < fs.length → ∃ x off, b = some ⟨x, off, none⟩ ∧ x < w.heap.size ∧ ∃ vs : Nat → Value, ∀ i, i < fs.length → FileC w x (off + i * 3) (vs i) (fs.getD i noF)) := helb
  clear hela helb hg
  unfold maxLen at hma hmb
  have hll : ((fs.length : Int) != (fs.length : Int)) = false := by simp
  go_enter Try.func17, Try.ntmps17
  go_wp2_with fail
  go_loopw [5] (fun i wr => ∃ k : Nat, k ≤ fs.length ∧ i = .int .i64 k ∧ Below (w.heap.size + 2) ((w.alloc (.cells #[.slice a fs.length ca] 40)).alloc (.cells #[.slice b fs.length cb] 40)) wr) (fun i _ => fs.length - (intOf i).toNat)
  case atStart => exact ⟨0, by omega, rfl, Below.refl _ _⟩
  case round =>
    obtain ⟨k, hk, rfl, hbel⟩ := hrel
    have x0 := two_cell0 hbel
    have x1 := two_cell1 hbel
    have HBL : Hid (Below (w.heap.size + 2) ((w.alloc (.cells #[.slice a fs.length ca] 40)).alloc (.cells #[.slice b fs.length cb] 40)) wr) := hbel
    have hsz : w.heap.size + 2 ≤ wr.heap.size := by have := hbel.size; simp at this; omega
    clear hbel
    by_cases hlt : k < fs.length
    · obtain ⟨xa, oa, rfl, la, va, hva⟩ := HA.out (by omega)
      obtain ⟨xb, ob, rfl, lb, vb, hvb⟩ := HB.out (by omega)
      have BW : Below w.heap.size w wr := below_two HBL.out
      obtain ⟨a1, a2, a3, a4⟩ := (hva k hlt).below BW (Nat.le_refl _)
      obtain ⟨b1, b2, b3, b4⟩ := (hvb k hlt).below BW (Nat.le_refl _)
      have HBY : Hid (∀ x ∈ (fs.getD k noF).data, 0 ≤ x ∧ x ≤ 255) := (HG.out k hlt).1
      have RA : Hid (Reads .u8 wr (va k) (fs.getD k noF).data) := a4
      have RB : Hid (Reads .u8 wr (vb k) (fs.getD k noF).data) := b4
      have hnm : ((fs.getD k noF).name.toList == (fs.getD k noF).name.toList) = true := by simp
      have hsy : ((fs.getD k noF).synced != (fs.getD k noF).synced) = false := by simp
      clear hva hvb HA HB a4 b4
      generalize fs.getD k noF = f at *
      generalize va k = u at *
      generalize vb k = v at *
      obtain ⟨ua, un, uc, rfl⟩ : ∃ a n c, u = .slice a n c := by obtain ⟨a, c, h, _⟩ := RA.out; exact ⟨_, _, _, h⟩
      obtain ⟨wa, wn, wc, rfl⟩ : ∃ a n c, v = .slice a n c := by obtain ⟨a, c, h, _⟩ := RB.out; exact ⟨_, _, _, h⟩
      have xx1 : ∀ X, (wr.alloc X).cell? ⟨w.heap.size + 1, 0, none⟩ = some (.slice (some ⟨xb, ob, none⟩) fs.length cb) := fun X => ((below_alloc wr X).cell (p := ⟨w.heap.size + 1, 0, none⟩) (show w.heap.size + 1 < wr.heap.size by omega)).trans x1
      have lx : xb < wr.heap.size := by omega
      have y1 : ∀ X, (wr.alloc X).cell? ⟨xb, ob + k * 3, none⟩ = some (.string f.name) := fun X => ((below_alloc wr X).cell (p := ⟨xb, ob + k * 3, none⟩) lx).trans b1
      have y2 : ∀ X, (wr.alloc X).cell? ⟨xb, ob + k * 3 + 1, none⟩ = some (.slice wa wn wc) := fun X => ((below_alloc wr X).cell (p := ⟨xb, ob + k * 3 + 1, none⟩) lx).trans b2
      have y3 : ∀ X, (wr.alloc X).cell? ⟨xb, ob + k * 3 + 2, none⟩ = some (.int .i64 f.synced) := fun X => ((below_alloc wr X).cell (p := ⟨xb, ob + k * 3 + 2, none⟩) lx).trans b3
      clear b1 b2 b3 BW
      go_wp2_with fail
      refine (sameBytes_yes _ _ f.data _ ?_ ?_ HBY.out).mono ?_
      · exact (RA.out.below (below_alloc _ _) (Nat.le_refl _)).below (below_alloc _ _) (Nat.le_refl _)
      · exact (RB.out.below (below_alloc _ _) (Nat.le_refl _)).below (below_alloc _ _) (Nat.le_refl _)
      rintro e w' ⟨rfl, rfl⟩
      go_wp2_with fail
      go_roundw
      case rel => exact ⟨k + 1, by omega, by go_num, (HBL.out.alloc (by omega) _).alloc (by simp; omega) _⟩
      case measure => simp [intOf]; omega
    · go_wp2_with fail
      go_ret
      exact ⟨ret_bool rfl, below_two HBL.out⟩

set_option maxHeartbeats 400000 in
theorem disks_any (v : Value) (fs : List FileL) (w : World) (h : DiskR w v fs) (hg : Good fs) (hl : fs.length * 48 ≤ 140737488351232) :
    Calls Try.prog 14 #[.agg #[v]] w fun e w' => ∃ v', e = .returned (.agg #[v']) ∧ DiskR w' v' fs ∧ Below w.heap.size w w' := by
  have HD : Hid (DiskR w v fs) := h
  obtain ⟨a, cap, rfl, _, _, _, _⟩ := h
  go_enter Try.func14, Try.ntmps14
  go_wp2_with fail
  refine (diskCopy_any _ fs _ ?_ hg hl).mono ?_
  · exact (HD.out.below (below_alloc _ _) (Nat.le_refl _)).below (below_alloc _ _) (Nat.le_refl _)
  rintro e w1 ⟨v1, vs, rfl, ho, hb⟩
  have hb2 : Below (w.heap.size + 2) ((w.alloc (.cells #[.slice a fs.length cap] 40)).alloc (.cells #[.slice none 0 0] 40)) w1 := by simpa using hb
  have r1 := two_cell1 hb2
  have r2 : w1.frozen? ⟨w.heap.size + 1, 0, none⟩ = false := (hb2.frozen (p := ⟨w.heap.size + 1, 0, none⟩) (Nat.lt_succ_self _)).trans (frozen_second _ _ _ _)
  have O1 : Hid (OwnD w1 (w.heap.size + 2) v1 fs vs) := by simpa [Hid] using ho
  have B1 : Hid (Below w.heap.size w w1) := below_two hb2
  clear hb hb2 ho
  obtain ⟨ua, un, uc, rfl⟩ : ∃ a n c, v1 = .slice a n c := by rcases O1.out.shape with ⟨h, _⟩ | ⟨g, c, h, _⟩ <;> exact ⟨_, _, _, h⟩
  go_wp2_with fail
  refine bodyPost_ret (v := .agg #[.slice ua un uc]) (by simp [results, Try.results14, go_sem, r1]) rfl ⟨_, rfl, (O1.out.setBelow (show w.heap.size + 1 < w.heap.size + 2 by omega) _).reads, ?_⟩
  exact B1.out.setCell (show w.heap.size ≤ w.heap.size + 1 by omega) _
end Go.Proofs.Ytbfkmakfkbdafaa

namespace Go.Proofs.Ytbfkmakfkbdafaa
set_option maxRecDepth 100000
open Go.ChangeShapes Go.WideShapes Go.ChangeAt Go.RowKit

/-- A row of files of the call's own from block rb on, whose data lies in rows of the call's own from block db on. -/
structure RowD (w : World) (rb db : Nat) (v : Value) (fs : List FileL) (vs : List Value) : Prop where
  len : vs.length = fs.length
  row : w.ownsRow rb 68 3 v fs.length (rows fs vs)
  data : ∀ i, i < fs.length → w.ownsRow db 5 1 (vs.getD i undef) (fs.getD i noF).data.length ((fs.getD i noF).data.map (Value.int .u8))

theorem RowD.nil (w : World) (rb db : Nat) : RowD w rb db (.slice none 0 0) [] [] := ⟨rfl, World.ownsRow_nil _ _ _ _, fun i hi => by simp at hi⟩
theorem RowD.below {w w' : World} {rb db B : Nat} {v : Value} {fs : List FileL} {vs : List Value} (h : RowD w rb db v fs vs) (hb : Below B w w') (hB : w.heap.size ≤ B) : RowD w' rb db v fs vs :=
  ⟨h.len, own_below h.row hb hB, fun i hi => own_below (h.data i hi) hb hB⟩
theorem RowD.drew {w : World} {rb db : Nat} {v : Value} {fs : List FileL} {vs : List Value} (h : RowD w rb db v fs vs) : RowD w.drew rb db v fs vs := ⟨h.len, h.row.drew, fun i hi => (h.data i hi).drew⟩
theorem RowD.alloc {w : World} {rb db : Nat} {v : Value} {fs : List FileL} {vs : List Value} (h : RowD w rb db v fs vs) (o : Obj) : RowD (w.alloc o) rb db v fs vs := h.below (below_alloc w o) (Nat.le_refl _)
theorem RowD.not {w : World} {rb db k : Nat} {v : Value} {fs : List FileL} {vs : List Value} (h : RowD w rb db v fs vs) (hk : k < rb) : some k ≠ v.ownBlock := fun e => by have := (h.row.lt k e.symm).1; omega
/-- A cell of another block is written that holds no byte. -/
theorem RowD.set {w : World} {rb db : Nat} {v x : Value} {fs : List FileL} {vs : List Value} {p : Nat} (h : RowD w rb db v fs vs) (hp : p < rb) (hd : ∀ i, i < fs.length → (vs.getD i undef).ownBlock = none ∨ (vs.getD i undef).ownBlock ≠ some p) : RowD (w.setCell ⟨p, 0, none⟩ x) rb db v fs vs :=
  ⟨h.len, ownsRow_setCell_below h.row hp x, fun i hi => own_other (h.data i hi) (hd i hi)⟩
theorem RowD.reads {w : World} {rb db : Nat} {v : Value} {fs : List FileL} {vs : List Value} (h : RowD w rb db v fs vs) : DiskR w v fs := by
  rcases h.row.2 with ⟨hv, h0⟩ | ⟨g, cap, cur, hv, hg, hgg, hc, hm, _⟩
  · have : fs = [] := List.eq_nil_of_length_eq_zero h0
    subst this hv
    exact ⟨none, 0, rfl, by simp, by simp [maxLen], fun _ => rfl, fun hn => by simp at hn⟩
  · subst hv
    have hcell : ∀ j u, (rows fs vs)[j]? = some u → w.cell? ⟨g, j, none⟩ = some u := fun j u hu => by
      have := h.row.cells rfl j u hu
      rwa [addr_add] at this
    refine ⟨_, cap, rfl, hc, hm, fun e => (by cases e), fun _ => ⟨g, 0, rfl, (Array.getElem?_eq_some_iff.1 hgg).1, fun i => vs.getD i undef, fun i hi => ?_⟩⟩
    obtain ⟨r1, r2, r3⟩ := rows_at i h.len hi
    rw [Nat.zero_add]
    exact ⟨hcell _ _ r1, hcell _ _ r2, hcell _ _ r3, reads_own (h.data i hi)⟩
theorem RowD.shape {w : World} {rb db : Nat} {v : Value} {fs : List FileL} {vs : List Value} (h : RowD w rb db v fs vs) : ∃ a c, v = .slice a fs.length c := by
  obtain ⟨a, c, e, _⟩ := h.reads; exact ⟨a, c, e⟩
theorem RowD.snoc {w w' : World} {rb db : Nat} {v v' dv : Value} {fs : List FileL} {vs : List Value} {f : FileL} (h : RowD w rb db v fs vs)
    (hrow : w'.ownsRow rb 68 3 v' (fs.length + 1) (rows fs vs ++ [.string f.name, dv, .int .i64 f.synced])) (hg : w.grownBy w' v.ownBlock)
    (hd : w.ownsRow db 5 1 dv f.data.length (f.data.map (Value.int .u8))) : RowD w' rb db v' (fs ++ [f]) (vs ++ [dv]) := by
  refine ⟨by simp [h.len], by rw [rows_snoc _ _ h.len]; simpa using hrow, ?_⟩
  intro i hi
  by_cases hlt : i < fs.length
  · rw [getD_app_left (by rw [h.len]; exact hlt), getD_app_left hlt]
    exact (h.data i hlt).kept hg (own_apart (h.data i hlt) h.row (by decide))
  · have e : i = fs.length := by simp at hi; omega
    subst e
    rw [getD_app_last]
    have e2 : (vs ++ [dv]).getD fs.length undef = dv := by rw [← h.len]; exact getD_app_last
    rw [e2]
    exact hd.kept hg (own_apart hd h.row (by decide))
/-- What an append of one file to such a row comes to. -/
theorem run_snoc {w : World} {rb db : Nat} {v : Value} {fs : List FileL} {vs : List Value} (h : RowD w rb db v fs vs) (f : FileL) {da : Option Addr} {dn dc : Nat} (hd : w.ownsRow db 5 1 (.slice da dn dc) f.data.length (f.data.map (Value.int .u8))) (hl : (fs.length + 1) * 48 ≤ 140737488355328) (hrb : rb ≤ w.heap.size) :
    ∃ g c w', AppOk Try.prog #[38, 38] 38 #[v, .slice (some ⟨w.heap.size, 0, none⟩) 1 1] (w.alloc (.cells #[.string f.name, .slice da dn dc, .int .i64 f.synced] 68)).drew ∧
      appV Try.prog #[38, 38] 38 #[v, .slice (some ⟨w.heap.size, 0, none⟩) 1 1] (w.alloc (.cells #[.string f.name, .slice da dn dc, .int .i64 f.synced] 68)).drew = .slice (some ⟨g, 0, none⟩) (fs.length + 1) c ∧
      appW Try.prog #[38, 38] 38 #[v, .slice (some ⟨w.heap.size, 0, none⟩) 1 1] (w.alloc (.cells #[.string f.name, .slice da dn dc, .int .i64 f.synced] 68)).drew = w' ∧
      RowD w' rb db (.slice (some ⟨g, 0, none⟩) (fs.length + 1) c) (fs ++ [f]) (vs ++ [.slice da dn dc]) ∧ Below rb w w' ∧ w.heap.size ≤ w'.heap.size := by
  obtain ⟨i0, hi, hz0, hz1, hz2⟩ := info_parts Try.infoF
  obtain ⟨g, c, w', hrun, hown, hgrow, _, _⟩ := run_append_lies (P := Try.prog) (w.alloc (.cells #[.string f.name, .slice da dn dc, .int .i64 f.synced] 68)).drew 38 38 rb 68 i0 _ 3 48 Try.underlying38 hi hz0 hz1 hz2 rfl (by omega) v _ _ ((h.row.alloc _).drew)
    ⟨w.heap.size, 0, none⟩ 1 1 [.string f.name, .slice da dn dc, .int .i64 f.synced] (by rfl) (World.news_of_block (cs := #[.string f.name, .slice da dn dc, .int .i64 f.synced]) (t := 68) (fr := (0, 0)) (heap_alloc_new w _)) (file_oneCell f rfl)
    (by omega) (by unfold maxLen; omega) (by omega) (by simp; omega) _ rfl
  obtain ⟨a1, a2, a3⟩ := appOk_of hrun
  refine ⟨g, c, w', a1, a2, a3, (h.alloc _).drew.snoc hown hgrow (hd.alloc _).drew, ?_, ?_⟩
  · exact (((Below.refl rb w).alloc hrb _).drew).grown hgrow (by simp; omega) (fun j hj => (h.row.lt j hj).1)
  · have := hgrow.size; simp at this; omega

/-- 'append(s, f)' of one file to such a row, as a law for the walk. -/
theorem wpList_append_file {w : World} {ops : Array Oper} {rest : List Oper} {o : Oper} {a : Act} {Q : Exit → Act → World → Prop} (hgd : o.guard = none) (s x : Operand)
    (ho : o.op = .call { callee := .builtin .append, args := #[s, x], argTypes := #[38, 38] })
    (rb db : Nat) (v : Value) (fs : List FileL) (vs : List Value) (hs : a.eval s = v) (h : RowD w rb db v fs vs) (f : FileL) (da : Option Addr) (dn dc : Nat) (hd : w.ownsRow db 5 1 (.slice da dn dc) f.data.length (f.data.map (Value.int .u8)))
    (B : Nat) (hx : a.eval x = .slice (some ⟨B, 0, none⟩) 1 1) (hblk : w.heap[B]? = some (.cells #[.string f.name, .slice da dn dc, .int .i64 f.synced] 68 (0, 0))) (hl : (fs.length + 1) * 48 ≤ 140737488355328) (hrb : rb ≤ w.heap.size)
    (hk : ∀ g c w', RowD w' rb db (.slice (some ⟨g, 0, none⟩) (fs.length + 1) c) (fs ++ [f]) (vs ++ [.slice da dn dc]) → Below rb w w' → wpList Try.prog ops Q rest (a.put o.dst (.slice (some ⟨g, 0, none⟩) (fs.length + 1) c)) w') :
    wpList Try.prog ops Q (o :: rest) a w := by
  obtain ⟨i0, hi, hz0, hz1, hz2⟩ := info_parts Try.infoF
  refine wpList_append_lies w hgd s x 38 ho rb 68 i0 _ 3 48 Try.underlying38 hi hz0 hz1 hz2 rfl (by omega) v _ _ hs h.row ⟨B, 0, none⟩ 1 1 [.string f.name, .slice da dn dc, .int .i64 f.synced] hx rfl (World.news_of_block (cs := #[.string f.name, .slice da dn dc, .int .i64 f.synced]) hblk) (file_oneCell f rfl) (by omega) (by unfold maxLen; omega) (by omega) hrb _ rfl ?_
  intro g c w' hown hgrow _ _
  exact hk g c w' (h.snoc hown hgrow hd) ((Below.refl rb w).grown hgrow hrb (fun j hj => (h.row.lt j hj).1))
end Go.Proofs.Ytbfkmakfkbdafaa

namespace Go.Proofs.Ytbfkmakfkbdafaa
set_option maxRecDepth 100000
open Go.ChangeShapes Go.WideShapes Go.ChangeAt Go.RowKit
attribute [local go_sem ↓] exec_append

theorem skip_lt {fs : List FileL} {k a : Nat} (hk : k < fs.length) (h : k ≠ a) : (fs.take (k + 1)).eraseIdx a = (fs.take k).eraseIdx a ++ [fs.getD k noF] := by
  have hl : (fs.take k).length = k := List.length_take_of_le (by omega)
  rw [take_snocF hk]
  by_cases ha : a < k
  · rw [List.eraseIdx_append_of_lt_length (by omega)]
  · rw [List.eraseIdx_of_length_le (by simp; omega), List.eraseIdx_of_length_le (by omega)]
theorem skip_at {fs : List FileL} {k : Nat} (hk : k < fs.length) : (fs.take (k + 1)).eraseIdx k = (fs.take k).eraseIdx k := by
  have hl : (fs.take k).length = k := List.length_take_of_le (by omega)
  have e2 : (fs.take k).eraseIdx k = fs.take k := List.eraseIdx_of_length_le (by omega)
  rw [e2, take_snocF hk, List.eraseIdx_append_of_length_le (by omega), hl, Nat.sub_self]
  simp
theorem skip_len (fs : List FileL) (k a : Nat) : ((fs.take k).eraseIdx a).length ≤ fs.length := by
  have h1 := List.length_eraseIdx_le (fs.take k) a
  have h2 : (fs.take k).length ≤ fs.length := by rw [List.length_take]; omega
  omega

set_option maxHeartbeats 2000000 in
set_option maxRecDepth 100000 in
theorem removed_any (v : Value) (fs : List FileL) (n : ByteArray) (w : World) (h : DiskR w v fs) (hg : Good fs) (hl : fs.length * 48 ≤ 140737488351232) :
    Calls Try.prog 38 #[.agg #[v], .string n] w fun e w' => ∃ v', e = .returned (.tuple #[.agg #[v'], .int .i64 (chF fs (removeF fs n)).2]) ∧ DiskR w' v' (chF fs (removeF fs n)).1 ∧ Below w.heap.size w w' := by
  have HG : Hid (Good fs) := hg
  have HD : Hid (DiskR w v fs) := h
  obtain ⟨a, cap, rfl, hc, hm, _, _⟩ := h
  clear hg
  unfold maxLen at hm
  go_enter Try.func38, Try.ntmps38
  go_wp2_with fail
  refine (diskMay_any _ fs _ ?_).mono ?_
  · exact (HD.out.below (below_alloc _ _) (Nat.le_refl _)).below (below_alloc _ _) (Nat.le_refl _)
  rintro e w1 ⟨rfl, hb1⟩
  have B0 : Hid (Below (w.heap.size + 2) ((w.alloc (.cells #[.slice a fs.length cap] 40)).alloc (.cells #[.slice none 0 0] 40)) w1) := by simpa [Hid] using hb1
  have r0 := two_cell0 B0.out
  have t1 := two_cell1 B0.out
  have t2 := two_frozen1 B0.out
  have hs1 : w.heap.size + 2 ≤ w1.heap.size := by have := B0.out.size; simp at this; omega
  have B1 : Hid (Below w.heap.size w w1) := below_two B0.out
  have D1 : Hid (DiskR w1 (.slice a fs.length cap) fs) := HD.out.below B1.out (Nat.le_refl _)
  clear hb1
  cases hmay : mayB fs with
  | false =>
    have HF : Hid (chF fs (removeF fs n) = ([], 9)) := by simp [chF, Hid, hmay]
    clear hmay
    go_wp2_with fail
    refine bodyPost_ret (v := .tuple #[.agg #[.slice none 0 0], .int .i64 9]) (by simp [results, Try.results38, go_sem, t1]) rfl ⟨.slice none 0 0, by rw [HF.out], by rw [HF.out]; exact diskR_nil _, B1.out.setCell (show w.heap.size ≤ w.heap.size + 1 by omega) _⟩
  | true =>
    have HFC : Hid (chF fs (removeF fs n) = removeF fs n) := by simp [chF, Hid, hmay]
    have h40 := (may_iff.1 hmay).1
    clear hmay
    go_wp2_with fail
    refine (fileAt_any _ fs n _ D1.out).mono ?_
    rintro e w2 ⟨rfl, hb2⟩
    have B2 : Hid (Below (w.heap.size + 2) ((w.alloc (.cells #[.slice a fs.length cap] 40)).alloc (.cells #[.slice none 0 0] 40)) w2) := B0.out.trans (hb2.mono (by omega))
    have r02 := two_cell0 B2.out
    have t12 := two_cell1 B2.out
    have t22 := two_frozen1 B2.out
    have hs2 : w.heap.size + 2 ≤ w2.heap.size := by have := hb2.size; omega
    clear hb2 r0 t1 t2
    rcases atF_cases fs n with ⟨k, hk, e, _, _⟩ | ⟨e, _⟩
    · have HF : Hid (removeF fs n = (fs.eraseIdx k, 0)) := removeF_some e
      rw [e]
      clear e
      have D2 : Hid (DiskR w2 (.slice a fs.length cap) fs) := HD.out.below (below_two B2.out) (Nat.le_refl _)
      go_wp2_with fail
      refine (diskCopy_any _ fs _ D2.out HG.out hl).mono ?_
      rintro e w3 ⟨v3, vs3, rfl, ho3, hb3⟩
      have B3 : Hid (Below (w.heap.size + 2) ((w.alloc (.cells #[.slice a fs.length cap] 40)).alloc (.cells #[.slice none 0 0] 40)) w3) := B2.out.trans (hb3.mono (by omega))
      have hs3 := hb3.size
      have O3 : Hid (OwnD w3 w2.heap.size v3 fs vs3) := ho3
      clear hb3 ho3
      rcases O3.out.row_or with ⟨_, rfl⟩ | ⟨g, gcap, rfl, hg, hrow⟩
      · simp at hk
      have R3 : Hid (RowF w3 g gcap fs (fun i => vs3.getD i undef)) := hrow
      have hgl := hrow.lt
      have hcl := hrow.le
      have hcm := hrow.max
      unfold maxLen at hcm
      clear hrow
      go_wp2_with fail
      go_loopw [9] (fun i wr => ∃ (m : Nat) (u : Value) (us : List Value), m ≤ fs.length ∧ i = .int .i64 m ∧ RowD wr (w3.heap.size + 2) w2.heap.size u ((fs.take m).eraseIdx k) us ∧ (∀ j, j < us.length → ∀ b, (us.getD j undef).ownBlock = some b → b < w3.heap.size) ∧ wr.cell? ⟨w3.heap.size + 1, 0, none⟩ = some u ∧ wr.frozen? ⟨w3.heap.size + 1, 0, none⟩ = false ∧ w3.heap.size + 2 ≤ wr.heap.size ∧ Below (w3.heap.size + 1) (w3.alloc (.cells #[.slice (some ⟨g, 0, none⟩) fs.length gcap] 40)) wr) (fun i _ => fs.length - (intOf i).toNat)
      case atStart => exact ⟨0, _, [], by omega, rfl, by simpa using RowD.nil _ _ _, fun j hj => by simp at hj, cell_second _ _ _ _, frozen_second _ _ _ _, by simp, (Below.refl _ _).alloc (by simp) _⟩
      case round =>
        obtain ⟨m, u, us, hm, rfl, hrd, hus, hcu, hfu, hsz, hbel⟩ := hrel
        have HRD : Hid (RowD wr (w3.heap.size + 2) w2.heap.size u ((fs.take m).eraseIdx k) us) := hrd
        have HUS : Hid (∀ j, j < us.length → ∀ b, (us.getD j undef).ownBlock = some b → b < w3.heap.size) := hus
        have HB : Hid (Below (w3.heap.size + 1) (w3.alloc (.cells #[.slice (some ⟨g, 0, none⟩) fs.length gcap] 40)) wr) := hbel
        have B4 : Hid (Below w3.heap.size w3 wr) := box_below hbel
        have hcb : wr.cell? ⟨w3.heap.size, 0, none⟩ = some (.slice (some ⟨g, 0, none⟩) fs.length gcap) := box_cell hbel
        obtain ⟨ua, uc, hue⟩ := hrd.shape
        subst hue
        clear hrd hus hbel
        by_cases hlt : m < fs.length
        · by_cases hmk : m = k
          · have HSK : Hid ((fs.take (m + 1)).eraseIdx k = (fs.take m).eraseIdx k) := by subst hmk; exact skip_at hlt
            have hne : ((m : Int) != (k : Int)) = false := by simp [hmk]
            clear hmk
            go_wp2_with fail
            go_roundw
            case rel => exact ⟨m + 1, _, us, by omega, by go_num, by rw [HSK.out]; exact HRD.out, HUS.out, by rw [HSK.out] at *; exact hcu, hfu, hsz, HB.out⟩
            case measure => simp [intOf]; omega
          · have HSK : Hid ((fs.take (m + 1)).eraseIdx k = (fs.take m).eraseIdx k ++ [fs.getD m noF]) := skip_lt hlt hmk
            have hne : ((m : Int) != (k : Int)) = true := by simp; omega
            obtain ⟨c1, c2, c3, _⟩ := (R3.out.file m hlt).below B4.out (Nat.le_refl _)
            have OD : Hid (wr.ownsRow w2.heap.size 5 1 (vs3.getD m undef) (fs.getD m noF).data.length ((fs.getD m noF).data.map (Value.int .u8))) := own_below (O3.out.data m hlt) B4.out (Nat.le_refl _)
            have hbk : ∀ b, (vs3.getD m undef).ownBlock = some b → b < w3.heap.size := O3.out.lt m hlt
            have c2' : wr.cell? ⟨g, m * 3 + 1, none⟩ = some (vs3.getD m undef) := c2
            clear c2 hmk
            generalize vs3.getD m undef = dv at *
            obtain ⟨da, dn, dc, rfl⟩ : ∃ a n c, dv = .slice a n c := by obtain ⟨a, c, h, _⟩ := reads_own OD.out; exact ⟨_, _, _, h⟩
            generalize fs.getD m noF = f at *
            have hll := skip_len fs m k
            obtain ⟨gg, gc, w5, a1, a2, a3, hr5, hb5, hs5⟩ := run_snoc HRD.out f OD.out (by omega) hsz
            have HUL : Hid (us.length = ((fs.take m).eraseIdx k).length) := HRD.out.len
            have R5 : Hid (RowD w5 (w3.heap.size + 2) w2.heap.size (.slice (some ⟨gg, 0, none⟩) (((fs.take m).eraseIdx k).length + 1) gc) ((fs.take (m + 1)).eraseIdx k) (us ++ [.slice da dn dc])) := by show RowD _ _ _ _ _ _; rw [HSK.out]; exact hr5
            have HBK : Hid (∀ b, (Value.slice da dn dc).ownBlock = some b → b < w3.heap.size) := hbk
            have k5 : ∀ X, (wr.alloc X).cell? ⟨w3.heap.size + 1, 0, none⟩ = some (.slice ua ((fs.take m).eraseIdx k).length uc) := fun X => ((below_alloc wr X).cell (p := ⟨w3.heap.size + 1, 0, none⟩) (show w3.heap.size + 1 < wr.heap.size by omega)).trans hcu
            have z1 : w5.cell? ⟨w3.heap.size + 1, 0, none⟩ = some (.slice ua ((fs.take m).eraseIdx k).length uc) := (hb5.cell (p := ⟨w3.heap.size + 1, 0, none⟩) (Nat.lt_succ_self _)).trans hcu
            have z2 : w5.frozen? ⟨w3.heap.size + 1, 0, none⟩ = false := (hb5.frozen (p := ⟨w3.heap.size + 1, 0, none⟩) (Nat.lt_succ_self _)).trans hfu
            have HB5 : Hid (Below (w3.heap.size + 1) (w3.alloc (.cells #[.slice (some ⟨g, 0, none⟩) fs.length gcap] 40)) w5) := HB.out.trans (hb5.mono (by omega))
            clear hr5 hb5 hbk
            generalize ((fs.take m).eraseIdx k).length = ln at *
            have q0 : (0 : Int) ≤ (m : Int) := by omega
            have q1 : (m : Int) < (fs.length : Int) := by omega
            go_wp2_with fail
            go_region
            go_wp2_with fail
            have ND : ∀ j, j < ((fs.take (m + 1)).eraseIdx k).length → ((us ++ [Value.slice da dn dc]).getD j undef).ownBlock = none ∨ ((us ++ [Value.slice da dn dc]).getD j undef).ownBlock ≠ some (w3.heap.size + 1) := fun j hj => by
              right
              intro e9
              have hlt9 : w3.heap.size + 1 < w3.heap.size := by
                by_cases hj2 : j < us.length
                · rw [getD_app_left hj2] at e9; exact HUS.out j hj2 _ e9
                · have ej : j = us.length := by have := R5.out.len; simp at this; omega
                  subst ej
                  rw [getD_app_last] at e9; exact HBK.out _ e9
              omega
            go_roundw
            case rel => exact ⟨m + 1, _, _, by omega, by go_num, R5.out.set (show w3.heap.size + 1 < w3.heap.size + 2 by omega) ND, fun j hj b e9 => by
                by_cases hj2 : j < us.length
                · rw [getD_app_left hj2] at e9; exact HUS.out j hj2 _ e9
                · have ej : j = us.length := by simp at hj; omega
                  subst ej
                  rw [getD_app_last] at e9; exact HBK.out _ e9, World.cell?_setCell_same _ _ _ z1, (World.frozen?_setCell _ _ _ _).trans z2, by rw [size_setCell]; omega, HB5.out.setCell (p := ⟨w3.heap.size + 1, 0, none⟩) (show w3.heap.size + 1 ≤ w3.heap.size + 1 from Nat.le_refl _) _⟩
            case measure => simp [intOf]; omega
        · have HSK : Hid ((fs.take m).eraseIdx k = fs.eraseIdx k) := by show _ = _; rw [List.take_of_length_le (by omega)]
          have B5 : Hid (Below (w.heap.size + 2) ((w.alloc (.cells #[.slice a fs.length cap] 40)).alloc (.cells #[.slice none 0 0] 40)) wr) := B3.out.trans (B4.out.mono (by omega))
          have t15 := two_cell1 B5.out
          have t25 := two_frozen1 B5.out
          have D6 : Hid (∀ y, DiskR (wr.setCell ⟨w.heap.size + 1, 0, none⟩ y) (.slice ua ((fs.take m).eraseIdx k).length uc) (fs.eraseIdx k)) := fun y => by
            have h9 := HRD.out.reads.setBox (y := y) (two_block1 B5.out)
            rw [HSK.out] at h9 ⊢
            exact h9
          generalize ((fs.take m).eraseIdx k).length = ln at *
          go_wp2_with fail
          exact bodyPost_ret (v := .tuple #[.agg #[.slice ua ln uc], .int .i64 0]) (by simp [results, Try.results38, go_sem, t15]) rfl ⟨_, by rw [HFC.out, HF.out], by rw [HFC.out, HF.out]; exact D6.out _, (below_two B5.out).setCell (show w.heap.size ≤ w.heap.size + 1 by omega) _⟩
    · have HF : Hid (removeF fs n = ([], 7)) := removeF_none e
      rw [e]
      clear e
      go_wp2_with fail
      refine bodyPost_ret (v := .tuple #[.agg #[.slice none 0 0], .int .i64 7]) (by simp [results, Try.results38, go_sem, t12]) rfl ⟨.slice none 0 0, by rw [HFC.out, HF.out], by rw [HFC.out, HF.out]; exact diskR_nil _, (below_two B2.out).setCell (show w.heap.size ≤ w.heap.size + 1 by omega) _⟩
end Go.Proofs.Ytbfkmakfkbdafaa

namespace Go.Proofs.Ytbfkmakfkbdafaa
set_option maxRecDepth 100000
open Go.ChangeShapes Go.WideShapes Go.ChangeAt Go.RowKit
attribute [local go_sem ↓] exec_append

/-- A disk of the call's own in the block g, by way of the box o; the data of file k is dl. -/
structure PutD (w : World) (B o g cap k : Nat) (fs : List FileL) (vs : Nat → Value) (dv : Value) (dl : List Int) : Prop where
  le : fs.length ≤ cap
  max : cap ≤ maxLen
  lt : g < w.heap.size
  olt : o < w.heap.size
  free : ∀ j, w.frozen? ⟨g, j, none⟩ = false
  nm : w.cell? ⟨g, k * 3, none⟩ = some (.string (fs.getD k noF).name)
  dc : w.cell? ⟨g, k * 3 + 1, none⟩ = some dv
  sy : w.cell? ⟨g, k * 3 + 2, none⟩ = some (.int .i64 (fs.getD k noF).synced)
  own : w.ownsRow B 5 1 dv dl.length (dl.map (Value.int .u8))
  cells : ∀ i, i < fs.length → i ≠ k → w.cell? ⟨g, i * 3, none⟩ = some (.string (fs.getD i noF).name) ∧ w.cell? ⟨g, i * 3 + 1, none⟩ = some (vs i) ∧ w.cell? ⟨g, i * 3 + 2, none⟩ = some (.int .i64 (fs.getD i noF).synced)
  owns : ∀ i, i < fs.length → i ≠ k → w.ownsRow B 5 1 (vs i) (fs.getD i noF).data.length ((fs.getD i noF).data.map (Value.int .u8))
  apart : ∀ i, i < fs.length → i ≠ k → (vs i).ownBlock = none ∨ (vs i).ownBlock ≠ dv.ownBlock
  far : ∀ i, i < fs.length → i ≠ k → (vs i).ownBlock = none ∨ (vs i).ownBlock ≠ some g
  gd : dv.ownBlock ≠ some g
  od : dv.ownBlock ≠ some o
  og : o ≠ g
  box : w.cell? ⟨o, 0, none⟩ = some (.slice (some ⟨g, 0, none⟩) fs.length cap)

theorem PutD.below {w w' : World} {A B o g cap k : Nat} {fs : List FileL} {vs : Nat → Value} {dv : Value} {dl : List Int} (h : PutD w B o g cap k fs vs dv dl) (hb : Below A w w') (hA : w.heap.size ≤ A) : PutD w' B o g cap k fs vs dv dl := by
  have hg := Nat.lt_of_lt_of_le h.lt hA
  have ho := Nat.lt_of_lt_of_le h.olt hA
  have c : ∀ j, w'.cell? ⟨g, j, none⟩ = w.cell? ⟨g, j, none⟩ := fun j => hb.cell (p := ⟨g, j, none⟩) hg
  exact ⟨h.le, h.max, Nat.lt_of_lt_of_le h.lt hb.size, Nat.lt_of_lt_of_le h.olt hb.size, fun j => (hb.frozen (p := ⟨g, j, none⟩) hg).trans (h.free j), (c _).trans h.nm, (c _).trans h.dc, (c _).trans h.sy, own_below h.own hb hA,
    fun i hi hne => ⟨(c _).trans (h.cells i hi hne).1, (c _).trans (h.cells i hi hne).2.1, (c _).trans (h.cells i hi hne).2.2⟩, fun i hi hne => own_below (h.owns i hi hne) hb hA, h.apart, h.far, h.gd, h.od, h.og, (hb.cell (p := ⟨o, 0, none⟩) ho).trans h.box⟩
theorem PutD.alloc {w : World} {B o g cap k : Nat} {fs : List FileL} {vs : Nat → Value} {dv : Value} {dl : List Int} (h : PutD w B o g cap k fs vs dv dl) (x : Obj) : PutD (w.alloc x) B o g cap k fs vs dv dl := h.below (below_alloc w x) (Nat.le_refl _)
theorem PutD.drew {w : World} {B o g cap k : Nat} {fs : List FileL} {vs : Nat → Value} {dv : Value} {dl : List Int} (h : PutD w B o g cap k fs vs dv dl) : PutD w.drew B o g cap k fs vs dv dl := h.below (Below.refl w.heap.size w).drew (Nat.le_refl _)

theorem PutD.mid {w w' : World} {B o g cap k : Nat} {fs : List FileL} {vs : Nat → Value} {dv : Value} {dl : List Int} (h : PutD w B o g cap k fs vs dv dl) (hg : w.grownBy w' dv.ownBlock) :
    w'.cell? ⟨g, k * 3 + 1, none⟩ = some dv ∧ w'.frozen? ⟨g, k * 3 + 1, none⟩ = false ∧ w'.cell? ⟨o, 0, none⟩ = some (.slice (some ⟨g, 0, none⟩) fs.length cap) :=
  ⟨(hg.cell_far ⟨g, k * 3 + 1, none⟩ h.lt (fun e => h.gd e.symm)).trans h.dc, (hg.frozen_far ⟨g, k * 3 + 1, none⟩ h.lt (fun e => h.gd e.symm)).trans (h.free _), (hg.cell_far ⟨o, 0, none⟩ h.olt (fun e => h.od e.symm)).trans h.box⟩
/-- The data of file k was appended to, and stored. -/
theorem PutD.step {w w' : World} {B o g cap k g' n c : Nat} {fs : List FileL} {vs : Nat → Value} {dv : Value} {dl dl' : List Int} (h : PutD w B o g cap k fs vs dv dl) (hg : w.grownBy w' dv.ownBlock) (hown : w'.ownsRow B 5 1 (.slice (some ⟨g', 0, none⟩) n c) dl'.length (dl'.map (Value.int .u8))) (hat : dv.ownBlock = some g' ∨ g' = w.heap.size) :
    PutD (w'.setCell ⟨g, k * 3 + 1, none⟩ (.slice (some ⟨g', 0, none⟩) n c)) B o g cap k fs vs (.slice (some ⟨g', 0, none⟩) n c) dl' := by
  obtain ⟨m1, m2, m3⟩ := h.mid hg
  have cell : ∀ j, w'.cell? ⟨g, j, none⟩ = w.cell? ⟨g, j, none⟩ := fun j => hg.cell_far ⟨g, j, none⟩ h.lt (fun e => h.gd e.symm)
  have frz : ∀ j, w'.frozen? ⟨g, j, none⟩ = w.frozen? ⟨g, j, none⟩ := fun j => hg.frozen_far ⟨g, j, none⟩ h.lt (fun e => h.gd e.symm)
  have hgg : g' ≠ g := fun e => by
    subst e
    rcases hat with e | e
    · exact h.gd e
    · have := h.lt; omega
  have hgo : g' ≠ o := fun e => by
    subst e
    rcases hat with e | e
    · exact h.od e
    · have := h.olt; omega
  have oth : ∀ i, i < fs.length → i ≠ k → (vs i).ownBlock = none ∨ (vs i).ownBlock ≠ some g' := fun i hi hne => by
    rcases hat with e | e
    · rw [← e]; exact h.apart i hi hne
    · subst e
      refine .inr fun e => ?_
      have := ((h.owns i hi hne).lt _ e).2
      omega
  have sc : ∀ {j x}, j ≠ k * 3 + 1 → (w'.setCell ⟨g, k * 3 + 1, none⟩ x).cell? ⟨g, j, none⟩ = w.cell? ⟨g, j, none⟩ := fun hj => by
    rw [World.cell?_setCell_other _ _ _ _ (addr_ne (fun e => hj e.symm)), cell]
  refine ⟨h.le, h.max, ?_, ?_, fun j => (World.frozen?_setCell _ _ _ _).trans ((frz j).trans (h.free j)), (sc (by omega)).trans h.nm, World.cell?_setCell_same _ _ _ m1, (sc (by omega)).trans h.sy, own_other hown (.inr (fun e => hgg (by injection e))), ?_, ?_, oth, h.far, fun e => hgg (by injection e), fun e => hgo (by injection e), h.og, ?_⟩
  · rw [size_setCell]; exact Nat.lt_of_lt_of_le h.lt hg.size
  · rw [size_setCell]; exact Nat.lt_of_lt_of_le h.olt hg.size
  · intro i hi hne
    obtain ⟨c1, c2, c3⟩ := h.cells i hi hne
    exact ⟨(sc (by omega)).trans c1, (sc (by omega)).trans c2, (sc (by omega)).trans c3⟩
  · intro i hi hne
    exact own_other ((h.owns i hi hne).kept hg (h.apart i hi hne)) (h.far i hi hne)
  · rw [World.cell?_setCell_other _ _ _ _ (fun e => h.og (congrArg Addr.block e).symm)]; exact m3
theorem PutD.reads {w : World} {B o g cap k : Nat} {fs : List FileL} {vs : Nat → Value} {dv : Value} {dl : List Int} (h : PutD w B o g cap k fs vs dv dl) (hk : k < fs.length) : DiskR w (.slice (some ⟨g, 0, none⟩) fs.length cap) (fs.set k { fs.getD k noF with data := dl }) := by
  refine ⟨_, cap, by rw [List.length_set], by rw [List.length_set]; exact h.le, h.max, fun e => (by cases e), fun _ => ⟨g, 0, rfl, h.lt, fun i => if i = k then dv else vs i, fun i hi => ?_⟩⟩
  rw [List.length_set] at hi
  rw [Nat.zero_add]
  by_cases e : i = k
  · subst e
    rw [getD_set_eq hi]
    show FileC _ _ _ (if i = i then dv else _) _
    rw [if_pos rfl]
    exact ⟨h.nm, h.dc, h.sy, reads_own h.own⟩
  · rw [getD_set_ne e]
    show FileC _ _ _ (if i = k then dv else vs i) _
    rw [if_neg e]
    obtain ⟨c1, c2, c3⟩ := h.cells i hi e
    exact ⟨c1, c2, c3, reads_own (h.owns i hi e)⟩
theorem OwnD.put0 {w : World} {B o g n cap k : Nat} {fs : List FileL} {vs : List Value} (h : OwnD w B (.slice (some ⟨g, 0, none⟩) n cap) fs vs) (hk : k < fs.length) (holt : o < w.heap.size) (hog : o ≠ g) (hod : (vs.getD k undef).ownBlock ≠ some o) (hbox : w.cell? ⟨o, 0, none⟩ = some (.slice (some ⟨g, 0, none⟩) fs.length cap)) :
    PutD w B o g cap k fs (fun i => vs.getD i undef) (vs.getD k undef) (fs.getD k noF).data := by
  obtain ⟨hrow, _⟩ := h.rowF
  obtain ⟨c1, c2, c3, _⟩ := hrow.file k hk
  have hfar : ∀ i, i < fs.length → (vs.getD i undef).ownBlock = none ∨ (vs.getD i undef).ownBlock ≠ some g := fun i hi => own_apart (h.data i hi) h.row (by decide)
  have hgd : (vs.getD k undef).ownBlock ≠ some g := fun e => by
    rcases hfar k hk with e1 | e1
    · rw [e1] at e; cases e
    · exact e1 e
  refine ⟨hrow.le, hrow.max, hrow.lt, holt, hrow.free, c1, c2, c3, h.data k hk, ?_, fun i hi _ => h.data i hi, ?_, fun i hi _ => hfar i hi, hgd, hod, hog, hbox⟩
  · intro i hi _
    obtain ⟨d1, d2, d3, _⟩ := hrow.file i hi
    exact ⟨d1, d2, d3⟩
  · intro i hi hne
    rcases Nat.lt_or_gt_of_ne hne with hlt | hgt
    · rcases h.apart i k hlt hk with e1 | e1
      · rcases (h.data i hi).2 with ⟨hv, _⟩ | ⟨g', _, _, hv, _⟩
        · exact .inl (by show (vs.getD i undef).ownBlock = none; rw [hv]; rfl)
        · exact .inr (by show (vs.getD i undef).ownBlock ≠ _; rw [e1, hv]; intro hh; cases hh)
      · exact .inr (fun e2 => e1 e2.symm)
    · exact h.apart k i hgt hi

/-- A cell of a block that the disk does not own is written. -/
theorem OwnD.setFar {w : World} {base p : Nat} {v : Value} {fs : List FileL} {vs : List Value} (h : OwnD w base v fs vs) (hv : v.ownBlock ≠ some p) (hd : ∀ i, i < fs.length → (vs.getD i undef).ownBlock ≠ some p) (x : Value) : OwnD (w.setCell ⟨p, 0, none⟩ x) base v fs vs :=
  ⟨h.len, own_other h.row (.inr hv), fun i hi => own_other (h.data i hi) (.inr (hd i hi)), h.apart⟩
/-- What an append of one byte to a row of bytes comes to. -/
theorem run_byte {w : World} {B : Nat} {dv : Value} {dl : List Int} (h : w.ownsRow B 5 1 dv dl.length (dl.map (Value.int .u8))) (x : Int) (hl : dl.length + 1 ≤ 140737488355328) (hB : B ≤ w.heap.size) :
    ∃ g c w', AppOk Try.prog #[27, 27] 27 #[dv, .slice (some ⟨w.heap.size, 0, none⟩) 1 1] (w.alloc (.cells #[.int .u8 x] 5)).drew ∧
      appV Try.prog #[27, 27] 27 #[dv, .slice (some ⟨w.heap.size, 0, none⟩) 1 1] (w.alloc (.cells #[.int .u8 x] 5)).drew = .slice (some ⟨g, 0, none⟩) (dl.length + 1) c ∧
      appW Try.prog #[27, 27] 27 #[dv, .slice (some ⟨w.heap.size, 0, none⟩) 1 1] (w.alloc (.cells #[.int .u8 x] 5)).drew = w' ∧
      w'.ownsRow B 5 1 (.slice (some ⟨g, 0, none⟩) (dl.length + 1) c) (dl ++ [x]).length ((dl ++ [x]).map (Value.int .u8)) ∧ (w.alloc (.cells #[.int .u8 x] 5)).drew.grownBy w' dv.ownBlock ∧ (dv.ownBlock = some g ∨ g = (w.alloc (.cells #[.int .u8 x] 5)).drew.heap.size) := by
  obtain ⟨i0, hi, hz0, hz1, hz2⟩ := info_parts Try.info5
  obtain ⟨g, c, w', hrun, hown, hgrow, hat, _⟩ := run_append_lies (P := Try.prog) (w.alloc (.cells #[.int .u8 x] 5)).drew 27 27 B 5 i0 _ 1 1 Try.underlying27 hi hz0 hz1 hz2 rfl (by omega) dv _ _ ((h.alloc _).drew)
    ⟨w.heap.size, 0, none⟩ 1 1 [.int .u8 x] (by rfl) (World.news_of_block (cs := #[.int .u8 x]) (t := 5) (fr := (0, 0)) (heap_alloc_new w _)) (fun u hu => by simp at hu; subst hu; rfl)
    (by omega) (by unfold maxLen; omega) (by omega) (by simp; omega) _ rfl
  obtain ⟨a1, a2, a3⟩ := appOk_of hrun
  exact ⟨g, c, w', a1, a2, a3, by simpa using hown, hgrow, hat⟩

set_option maxHeartbeats 4000000 in
set_option maxRecDepth 100000 in
theorem appended_any (v : Value) (fs : List FileL) (n : ByteArray) (b : Value) (x : List Int) (w : World) (h : DiskR w v fs) (hg : Good fs) (hl : fs.length * 48 ≤ 140737488351232) (_hn : n.size ≤ maxLen) (hr : Reads .u8 w b x) :
    Calls Try.prog 39 #[.agg #[v], .string n, b] w fun e w' => ∃ v', e = .returned (.tuple #[.agg #[v'], .int .i64 (chF fs (appendF fs n x)).2]) ∧ DiskR w' v' (chF fs (appendF fs n x)).1 ∧ Below w.heap.size w w' := by
  obtain ⟨i0, hi, hz0, hz1, hz2⟩ := info_parts Try.infoF
  have HG : Hid (Good fs) := hg
  have HD : Hid (DiskR w v fs) := h
  have HR : Hid (Reads .u8 w b x) := hr
  obtain ⟨a, cap, rfl, hc, hm, _, _⟩ := h
  obtain ⟨ba, bc, rfl, hbc, hbm, _, _⟩ := hr
  clear hg
  unfold maxLen at hm hbm
  go_enter Try.func39, Try.ntmps39
  go_wp2_with fail
  refine (diskMay_any _ fs _ ?_).mono ?_
  · exact (HD.out.below (below_alloc _ _) (Nat.le_refl _)).below (below_alloc _ _) (Nat.le_refl _)
  rintro e w1 ⟨rfl, hb1⟩
  have B0 : Hid (Below (w.heap.size + 2) ((w.alloc (.cells #[.slice a fs.length cap] 40)).alloc (.cells #[.slice none 0 0] 40)) w1) := by simpa [Hid] using hb1
  have r0 := two_cell0 B0.out
  have t1 := two_cell1 B0.out
  have t2 := two_frozen1 B0.out
  have hs1 : w.heap.size + 2 ≤ w1.heap.size := by have := B0.out.size; simp at this; omega
  have B1 : Hid (Below w.heap.size w w1) := below_two B0.out
  have D1 : Hid (DiskR w1 (.slice a fs.length cap) fs) := HD.out.below B1.out (Nat.le_refl _)
  clear hb1
  cases hmay : mayB fs with
  | false =>
    have HF : Hid (chF fs (appendF fs n x) = ([], 9)) := by simp [chF, Hid, hmay]
    clear hmay
    go_wp2_with fail
    refine bodyPost_ret (v := .tuple #[.agg #[.slice none 0 0], .int .i64 9]) (by simp [results, Try.results39, go_sem, t1]) rfl ⟨.slice none 0 0, by rw [HF.out], by rw [HF.out]; exact diskR_nil _, B1.out.setCell (show w.heap.size ≤ w.heap.size + 1 by omega) _⟩
  | true =>
    have HFC : Hid (chF fs (appendF fs n x) = appendF fs n x) := by simp [chF, Hid, hmay]
    have HMAY : Hid (mayB fs = true) := hmay
    have h40 := (may_iff.1 hmay).1
    clear hmay
    go_wp2_with fail
    refine (in_any _ _ _ _).mono ?_
    rintro e w1' ⟨rfl, rfl⟩
    cases h0 : nmB n with
    | false =>
      have HF : Hid (appendF fs n x = ([], 1)) := appendF_size h0
      have hin : inB (n.size : Int) 1 20 = false := inB_no (by simp [nmB] at h0; omega)
      clear h0
      rw [hin]
      go_wp2_with fail
      refine bodyPost_ret (v := .tuple #[.agg #[.slice none 0 0], .int .i64 1]) (by simp [results, Try.results39, go_sem, t1]) rfl ⟨.slice none 0 0, by rw [HFC.out, HF.out], by rw [HFC.out, HF.out]; exact diskR_nil _, B1.out.setCell (show w.heap.size ≤ w.heap.size + 1 by omega) _⟩
    | true =>
      have hin : inB (n.size : Int) 1 20 = true := inB_yes (by simp [nmB] at h0; omega)
      rw [hin]
      go_wp2_with fail
      refine (diskCopy_any _ fs _ D1.out HG.out hl).mono ?_
      rintro e w3 ⟨v3, vs3, rfl, ho3, hb3⟩
      have B3 : Hid (Below (w.heap.size + 2) ((w.alloc (.cells #[.slice a fs.length cap] 40)).alloc (.cells #[.slice none 0 0] 40)) w3) := B0.out.trans (hb3.mono (by omega))
      have r03 := two_cell0 B3.out
      have t13 := two_cell1 B3.out
      have t23 := two_frozen1 B3.out
      have hs3 := hb3.size
      have O3 : Hid (OwnD w3 w1'.heap.size v3 fs vs3) := ho3
      have D3 : Hid (DiskR w3 (.slice a fs.length cap) fs) := HD.out.below (below_two B3.out) (Nat.le_refl _)
      obtain ⟨ya, yc, hv3, _, _, _, _⟩ := ho3.reads
      subst hv3
      clear hb3 ho3 r0 t1 t2 hin
      have r03' : ∀ X, (w3.alloc X).cell? ⟨w.heap.size, 0, none⟩ = some (.slice a fs.length cap) := fun X => ((below_alloc w3 X).cell (p := ⟨w.heap.size, 0, none⟩) (show w.heap.size < w3.heap.size by omega)).trans r03
      go_wp2_with fail
      refine (fileAt_any _ fs n _ ?_).mono ?_
      · exact D3.out.below (below_alloc _ _) (Nat.le_refl _)
      rintro e w2 ⟨rfl, hb2⟩
      have hb2' : Below (w3.heap.size + 1) (w3.alloc (.cells #[.slice ya fs.length yc] 40)) w2 := by simpa using hb2
      have B32 : Hid (Below w3.heap.size w3 w2) := box_below hb2'
      have bx0 := box_cell hb2'
      have bf0 : w2.frozen? ⟨w3.heap.size, 0, none⟩ = false := (hb2'.frozen (p := ⟨w3.heap.size, 0, none⟩) (Nat.lt_succ_self _)).trans (frozen_new0 _ _ _)
      have B2 : Hid (Below (w.heap.size + 2) ((w.alloc (.cells #[.slice a fs.length cap] 40)).alloc (.cells #[.slice none 0 0] 40)) w2) := B3.out.trans (B32.out.mono (by omega))
      have r02 := two_cell0 B2.out
      have t12 := two_cell1 B2.out
      have t22 := two_frozen1 B2.out
      have hs2 : w3.heap.size + 1 ≤ w2.heap.size := by have := hb2'.size; simp at this; omega
      have O2 : Hid (OwnD w2 w1'.heap.size (.slice ya fs.length yc) fs vs3) := O3.out.below B32.out (Nat.le_refl _)
      clear hb2 hb2' r03 r03' t13 t23
      rcases atF_cases fs n with ⟨k, hk, e, _, _⟩ | ⟨e, _⟩
      · have HF : Hid (appendF fs n x = putF fs k x) := appendF_some h0 e
        rw [e]
        clear e h0
        rcases O2.out.row_or with ⟨_, hnil⟩ | ⟨g, yc', hv, hg, hrow⟩
        · subst hnil; simp at hk
        injection hv with hv1 _ hv3
        subst hv1 hv3
        have hglt : g < w3.heap.size := by
          rcases O3.out.row_or with ⟨h9, _⟩ | ⟨g', yc', hv, _, hr9⟩
          · cases h9
          · injection hv with hv1 _ _
            injection hv1 with hv1
            injection hv1 with hv1
            subst hv1
            exact hr9.lt
        have P2 : Hid (PutD w2 w1'.heap.size w3.heap.size g yc k fs (fun i => vs3.getD i undef) (vs3.getD k undef) (fs.getD k noF).data) := O2.out.put0 hk (by omega) (by omega) (fun e9 => by have := O3.out.lt k hk _ e9; omega) bx0
        clear hrow bx0
        have hd0 := P2.out.own
        have hdl9 : (fs.getD k noF).data.length ≤ 100000 ∨ 100000 < (fs.getD k noF).data.length := by omega
        have bx := P2.out.box
        have dc := P2.out.dc
        rw [(show fs.length = fs.length from rfl)] at bx
        have HP : Hid (vs3.getD k undef = vs3.getD k undef) := rfl
        obtain ⟨da, dcap, hdv, hdc, hdm, _, _⟩ := reads_own hd0
        unfold maxLen at hdm
        have P2' : Hid (PutD w2 w1'.heap.size w3.heap.size g yc k fs (fun i => vs3.getD i undef) (.slice da (fs.getD k noF).data.length dcap) (fs.getD k noF).data) := by rw [← hdv]; exact P2.out
        rw [hdv] at dc
        have hKL : k < fs.length := hk
        have q0 : (0 : Int) ≤ (k : Int) := by omega
        have q1 : (k : Int) < (fs.length : Int) := by omega
        have hcm := P2.out.max
        have hcl := P2.out.le
        rw [(show fs.length = fs.length from rfl)] at hcl
        unfold maxLen at hcm
        clear hd0 hdv HP
        by_cases hov : 100000 < (fs.getD k noF).data.length + x.length
        · have HF2 : Hid (putF fs k x = ([], 10)) := putF_over hov
          have hov' : (100000 : Int) - ((fs.getD k noF).data.length : Int) < (x.length : Int) := by omega
          generalize (fs.getD k noF).data = dl at *
          go_wp2_with fail
          refine bodyPost_ret (v := .tuple #[.agg #[.slice none 0 0], .int .i64 10]) (by simp [results, Try.results39, go_sem, t12]) rfl ⟨.slice none 0 0, by rw [HFC.out, HF.out, HF2.out], by rw [HFC.out, HF.out, HF2.out]; exact diskR_nil _, (below_two B2.out).setCell (show w.heap.size ≤ w.heap.size + 1 by omega) _⟩
        · have HF2 : Hid (putF fs k x = (fs.set k { fs.getD k noF with data := (fs.getD k noF).data ++ x }, 0)) := putF_ok hov
          have hov' : ¬ (100000 : Int) - ((fs.getD k noF).data.length : Int) < (x.length : Int) := by omega
          generalize hDL : (fs.getD k noF).data = dl at *
          clear hDL
          go_wp2_with fail
          go_loopw [10] (fun i wr => ∃ (m : Nat) (dv : Value), m ≤ x.length ∧ i = .int .i64 m ∧ PutD wr w1'.heap.size w3.heap.size g yc k fs (fun i => vs3.getD i undef) dv (dl ++ x.take m) ∧ w2.heap.size ≤ wr.heap.size ∧ Below (w.heap.size + 2) ((w.alloc (.cells #[.slice a fs.length cap] 40)).alloc (.cells #[.slice none 0 0] 40)) wr) (fun i _ => x.length - (intOf i).toNat)
          case atStart => exact ⟨0, _, by omega, rfl, by simpa using P2'.out, Nat.le_refl _, B2.out⟩
          case round =>
            obtain ⟨m, dv, hm, rfl, hput, hsz, hbel⟩ := hrel
            have HPT : Hid (PutD wr w1'.heap.size w3.heap.size g yc k fs (fun i => vs3.getD i undef) dv (dl ++ x.take m)) := hput
            have HB : Hid (Below (w.heap.size + 2) ((w.alloc (.cells #[.slice a fs.length cap] 40)).alloc (.cells #[.slice none 0 0] 40)) wr) := hbel
            have bx4 := hput.box
            rw [(show fs.length = fs.length from rfl)] at bx4
            have dc4 := hput.dc
            obtain ⟨ea, ec, hev, _, _, _, _⟩ := reads_own hput.own
            rw [hev] at HPT dc4
            have hgl := hput.lt
            have hlen : (dl ++ x.take m).length ≤ 100000 := by rw [List.length_append, List.length_take]; omega
            clear hput hbel hev
            by_cases hlt : m < x.length
            · obtain ⟨b0, off, bc', e1, _, _, hb0, hcell⟩ := (HR.out.below (below_two HB.out) (Nat.le_refl _)).plain (by omega)
              injection e1 with e1 _ e3
              subst e1 e3
              have hck := hcell m hlt
              have HTk : Hid (x.take (m + 1) = x.take m ++ [x.getD m 0]) := take_snocI hlt
              generalize x.getD m 0 = y at *
              obtain ⟨gg, gc, w5, a1, a2, a3, hown5, hgrow5, hat5⟩ := run_byte HPT.out.own y (by omega) (by omega)
              obtain ⟨z1, z2, z3⟩ := ((HPT.out.alloc _).drew).mid hgrow5
              have P5 : Hid (PutD (w5.setCell ⟨g, k * 3 + 1, none⟩ (.slice (some ⟨gg, 0, none⟩) ((dl ++ x.take m).length + 1) gc)) w1'.heap.size w3.heap.size g yc k fs (fun i => vs3.getD i undef) (.slice (some ⟨gg, 0, none⟩) ((dl ++ x.take m).length + 1) gc) (dl ++ x.take (m + 1))) := by
                show PutD _ _ _ _ _ _ _ _ _ _
                rw [HTk.out, ← List.append_assoc]
                exact ((HPT.out.alloc _).drew).step hgrow5 hown5 hat5
              have B5 : Hid (Below (w.heap.size + 2) ((w.alloc (.cells #[.slice a fs.length cap] 40)).alloc (.cells #[.slice none 0 0] 40)) w5) := ((HB.out.alloc (by omega) _).drew).grown hgrow5 (by simp; omega) (fun j hj => by have := (HPT.out.own.lt j hj).1; omega)
              have hs5 : wr.heap.size ≤ w5.heap.size := by have := hgrow5.size; simp at this; omega
              have hgB : w.heap.size + 2 ≤ g := by omega
              rw [(show fs.length = fs.length from rfl)] at z3
              have k5 : ∀ X, (wr.alloc X).cell? ⟨w3.heap.size, 0, none⟩ = some (.slice (some ⟨g, 0, none⟩) fs.length yc) := fun X => ((below_alloc wr X).cell (p := ⟨w3.heap.size, 0, none⟩) (show w3.heap.size < wr.heap.size by omega)).trans bx4
              have k6 : ∀ X, (wr.alloc X).cell? ⟨g, k * 3 + 1, none⟩ = some (.slice ea (dl ++ x.take m).length ec) := fun X => ((below_alloc wr X).cell (p := ⟨g, k * 3 + 1, none⟩) hgl).trans dc4
              clear hown5 hgrow5 hat5 hcell
              generalize hLN : (dl ++ x.take m).length = ln at *
              clear hLN
              go_wp2_with fail
              go_region
              go_wp2_with fail
              go_roundw
              case rel => exact ⟨m + 1, _, by omega, by go_num, P5.out, by rw [size_setCell]; omega, B5.out.setCell (p := ⟨g, k * 3 + 1, none⟩) (show w.heap.size + 2 ≤ g by omega) _⟩
              case measure => simp [intOf]; omega
            · have ek : x.take m = x := List.take_of_length_le (by omega)
              have D6 : Hid (∀ z, DiskR (wr.setCell ⟨w.heap.size + 1, 0, none⟩ z) (.slice (some ⟨g, 0, none⟩) fs.length yc) (fs.set k { fs.getD k noF with data := dl ++ x })) := fun z => by
                have h9 := (HPT.out.reads (by rw [(show fs.length = fs.length from rfl)]; exact hKL)).setBox (y := z) (two_block1 HB.out)
                rw [ek, (show fs.length = fs.length from rfl)] at h9
                exact h9
              have t15 := two_cell1 HB.out
              have t25 := two_frozen1 HB.out
              clear ek
              generalize x.take m = xm at *
              go_wp2_with fail
              exact bodyPost_ret (v := .tuple #[.agg #[.slice (some ⟨g, 0, none⟩) fs.length yc], .int .i64 0]) (by simp [results, Try.results39, go_sem, t15]) rfl ⟨_, by rw [HFC.out, HF.out, HF2.out], by rw [HFC.out, HF.out, HF2.out]; exact D6.out _, (below_two HB.out).setCell (show w.heap.size ≤ w.heap.size + 1 by omega) _⟩
      · by_cases hfull : fs.length = 40
        · have HF : Hid (appendF fs n x = ([], 10)) := appendF_full h0 e hfull
          rw [e]
          clear e h0
          have hfe : ((fs.length : Int) == 40) = true := by rw [hfull]; rfl
          clear hfull
          go_wp2_with fail
          refine bodyPost_ret (v := .tuple #[.agg #[.slice none 0 0], .int .i64 10]) (by simp [results, Try.results39, go_sem, t12]) rfl ⟨.slice none 0 0, by rw [HFC.out, HF.out], by rw [HFC.out, HF.out]; exact diskR_nil _, (below_two B2.out).setCell (show w.heap.size ≤ w.heap.size + 1 by omega) _⟩
        · have HF : Hid (appendF fs n x = putF (fs ++ [⟨n, [], 0⟩]) fs.length x) := appendF_new h0 e hfull
          rw [e]
          clear e h0
          have hfe : ((fs.length : Int) == 40) = false := by rw [beq_eq_false_iff_ne]; omega
          have HFL : Hid (fs.length ≠ 40) := hfull
          clear hfull
          go_wp2_with (at_builtin; refine wpList_append_lies _ rfl _ _ _ rfl w1'.heap.size 68 i0 _ 3 48 Try.underlying38 hi hz0 hz1 hz2 rfl (by omega) _ _ _ rfl (O2.out.row.alloc _) ⟨w2.heap.size, 0, none⟩ 1 1 [.string n, .slice none 0 0, .int .i64 0] rfl rfl (World.news_of_block (cs := #[.string n, .slice none 0 0, .int .i64 0]) (t := 68) (fr := (0, 0)) (heap_alloc_new w2 _)) (file_oneCell ⟨n, [], 0⟩ rfl) (by omega) (by unfold maxLen; omega) (by omega) (by simp; omega) (w2.heap.size + 1) (by simp) ?_)
          intro g gcap w4 hown4 hgrow4 hat4 hlt4
          have O4 : OwnD w4 w1'.heap.size (.slice (some ⟨g, 0, none⟩) (fs.length + 1) gcap) (fs ++ [⟨n, [], 0⟩]) (vs3 ++ [.slice none 0 0]) := (O2.out.alloc _).snoc (B := w2.heap.size + 1) (f := ⟨n, [], 0⟩) hown4 hgrow4 (World.ownsRow_nil _ _ _ _) (by omega) (fun i hi k hk => by have := O2.out.lt i hi k hk; omega)
          have hol : ∀ j, (Value.slice ya fs.length yc).ownBlock = some j → j < w3.heap.size := fun j hj => (O3.out.row.lt j hj).2
          have hno : some w3.heap.size ≠ (Value.slice ya fs.length yc).ownBlock := fun e9 => by have := hol _ e9.symm; omega
          have hog : w3.heap.size ≠ g := fun e9 => by
            rcases hat4 with e8 | e8
            · have := hol _ e8; omega
            · omega
          have hvo : ∀ i, i < (fs ++ [(⟨n, [], 0⟩ : FileL)]).length → ((vs3 ++ [Value.slice none 0 0]).getD i undef).ownBlock ≠ some w3.heap.size := fun i hi9 e9 => by
            by_cases hlt9 : i < fs.length
            · rw [getD_app_left (by rw [O3.out.len]; exact hlt9)] at e9
              have := O3.out.lt i hlt9 _ e9
              omega
            · have ei : i = vs3.length := by rw [O3.out.len]; simp at hi9; omega
              subst ei
              rw [getD_app_last] at e9
              cases e9
          have c4 : w4.cell? ⟨w3.heap.size, 0, none⟩ = some (.slice ya fs.length yc) := (hgrow4.cell_far ⟨w3.heap.size, 0, none⟩ (show w3.heap.size < _ by simp; omega) hno).trans (((below_alloc w2 _).cell (p := ⟨w3.heap.size, 0, none⟩) (show w3.heap.size < w2.heap.size by omega)).trans bx0)
          have f4 : w4.frozen? ⟨w3.heap.size, 0, none⟩ = false := (hgrow4.frozen_far ⟨w3.heap.size, 0, none⟩ (show w3.heap.size < _ by simp; omega) hno).trans (((below_alloc w2 _).frozen (p := ⟨w3.heap.size, 0, none⟩) (show w3.heap.size < w2.heap.size by omega)).trans bf0)
          have B4 : Hid (Below (w.heap.size + 2) ((w.alloc (.cells #[.slice a fs.length cap] 40)).alloc (.cells #[.slice none 0 0] 40)) (w4.setCell ⟨w3.heap.size, 0, none⟩ (.slice (some ⟨g, 0, none⟩) (fs.length + 1) gcap))) := ((B2.out.alloc (by omega) _).grown hgrow4 (by simp; omega) (fun j hj => by have := (O2.out.row.lt j hj).1; omega)).setCell (p := ⟨w3.heap.size, 0, none⟩) (show w.heap.size + 2 ≤ w3.heap.size by omega) _
          have hs4 : w2.heap.size ≤ w4.heap.size := by have := hgrow4.size; simp at this; omega
          have HSZ : Hid (w2.heap.size ≤ (w4.setCell ⟨w3.heap.size, 0, none⟩ (.slice (some ⟨g, 0, none⟩) (fs.length + 1) gcap)).heap.size) := by show _ ≤ _; rw [size_setCell]; exact hs4
          have O5 : OwnD (w4.setCell ⟨w3.heap.size, 0, none⟩ (.slice (some ⟨g, 0, none⟩) (fs.length + 1) gcap)) w1'.heap.size (.slice (some ⟨g, 0, none⟩) (fs.length + 1) gcap) (fs ++ [⟨n, [], 0⟩]) (vs3 ++ [.slice none 0 0]) := O4.setFar (fun e9 => hog (by injection e9 with e9; exact e9.symm)) hvo _
          have hgB : w1'.heap.size ≤ g := (O4.row.lt g rfl).1
          have t14 := two_cell1 B4.out
          have t24 := two_frozen1 B4.out
          have c5 : (w4.setCell ⟨w3.heap.size, 0, none⟩ (.slice (some ⟨g, 0, none⟩) (fs.length + 1) gcap)).cell? ⟨w3.heap.size, 0, none⟩ = some (.slice (some ⟨g, 0, none⟩) (fs.length + 1) gcap) := World.cell?_setCell_same _ _ _ c4
          have P3 : PutD (w4.setCell ⟨w3.heap.size, 0, none⟩ (.slice (some ⟨g, 0, none⟩) (fs.length + 1) gcap)) w1'.heap.size w3.heap.size g gcap fs.length (fs ++ [⟨n, [], 0⟩]) (fun i => (vs3 ++ [Value.slice none 0 0]).getD i undef) ((vs3 ++ [Value.slice none 0 0]).getD fs.length undef) ((fs ++ [(⟨n, [], 0⟩ : FileL)]).getD fs.length noF).data := O5.put0 (by simp) (by rw [size_setCell]; omega) hog (hvo _ (by simp)) (by rw [c5]; simp)
          have HL : Hid ((fs ++ [(⟨n, [], 0⟩ : FileL)]).length = fs.length + 1) := by show _ = _; simp
          generalize (fs ++ [(⟨n, [], 0⟩ : FileL)]) = FZ at *
          generalize (fun i => (vs3 ++ [Value.slice none 0 0]).getD i undef) = VS at *
          generalize (vs3 ++ [Value.slice none 0 0]).getD fs.length undef = dv0 at *
          have P2 : Hid (PutD (w4.setCell ⟨w3.heap.size, 0, none⟩ (.slice (some ⟨g, 0, none⟩) (fs.length + 1) gcap)) w1'.heap.size w3.heap.size g gcap fs.length FZ VS dv0 (FZ.getD fs.length noF).data) := P3
          clear O4 O5 P3 hown4 hgrow4 hat4 hol hno hvo bx0 bf0 c5
          have hd0 := P2.out.own
          have hdl9 : (FZ.getD fs.length noF).data.length ≤ 100000 ∨ 100000 < (FZ.getD fs.length noF).data.length := by omega
          have bx := P2.out.box
          have dc := P2.out.dc
          rw [HL.out] at bx
          have HP : Hid (dv0 = dv0) := rfl
          obtain ⟨da, dcap, hdv, hdc, hdm, _, _⟩ := reads_own hd0
          unfold maxLen at hdm
          have P2' : Hid (PutD (w4.setCell ⟨w3.heap.size, 0, none⟩ (.slice (some ⟨g, 0, none⟩) (fs.length + 1) gcap)) w1'.heap.size w3.heap.size g gcap fs.length FZ VS (.slice da (FZ.getD fs.length noF).data.length dcap) (FZ.getD fs.length noF).data) := by rw [← hdv]; exact P2.out
          rw [hdv] at dc
          have hKL : fs.length < (fs.length + 1) := Nat.lt_succ_self _
          have q0 : (0 : Int) ≤ (fs.length : Int) := by omega
          have q1 : (fs.length : Int) < (fs.length : Int) + 1 := by omega
          have hcm := P2.out.max
          have hcl := P2.out.le
          rw [HL.out] at hcl
          unfold maxLen at hcm
          clear hd0 hdv HP
          by_cases hov : 100000 < (FZ.getD fs.length noF).data.length + x.length
          · have HF2 : Hid (putF FZ fs.length x = ([], 10)) := putF_over hov
            have hov' : (100000 : Int) - ((FZ.getD fs.length noF).data.length : Int) < (x.length : Int) := by omega
            generalize (FZ.getD fs.length noF).data = dl at *
            go_wp2_with fail
            refine bodyPost_ret (v := .tuple #[.agg #[.slice none 0 0], .int .i64 10]) (by simp [results, Try.results39, go_sem, t14]) rfl ⟨.slice none 0 0, by rw [HFC.out, HF.out, HF2.out], by rw [HFC.out, HF.out, HF2.out]; exact diskR_nil _, (below_two B4.out).setCell (show w.heap.size ≤ w.heap.size + 1 by omega) _⟩
          · have HF2 : Hid (putF FZ fs.length x = (FZ.set fs.length { FZ.getD fs.length noF with data := (FZ.getD fs.length noF).data ++ x }, 0)) := putF_ok hov
            have hov' : ¬ (100000 : Int) - ((FZ.getD fs.length noF).data.length : Int) < (x.length : Int) := by omega
            generalize hDL : (FZ.getD fs.length noF).data = dl at *
            clear hDL
            go_wp2_with fail
            go_loopw [10] (fun i wr => ∃ (m : Nat) (dv : Value), m ≤ x.length ∧ i = .int .i64 m ∧ PutD wr w1'.heap.size w3.heap.size g gcap fs.length FZ VS dv (dl ++ x.take m) ∧ w2.heap.size ≤ wr.heap.size ∧ Below (w.heap.size + 2) ((w.alloc (.cells #[.slice a fs.length cap] 40)).alloc (.cells #[.slice none 0 0] 40)) wr) (fun i _ => x.length - (intOf i).toNat)
            case atStart => exact ⟨0, _, by omega, rfl, by simpa using P2'.out, HSZ.out, B4.out⟩
            case round =>
              obtain ⟨m, dv, hm, rfl, hput, hsz, hbel⟩ := hrel
              have HPT : Hid (PutD wr w1'.heap.size w3.heap.size g gcap fs.length FZ VS dv (dl ++ x.take m)) := hput
              have HB : Hid (Below (w.heap.size + 2) ((w.alloc (.cells #[.slice a fs.length cap] 40)).alloc (.cells #[.slice none 0 0] 40)) wr) := hbel
              have bx4 := hput.box
              rw [HL.out] at bx4
              have dc4 := hput.dc
              obtain ⟨ea, ec, hev, _, _, _, _⟩ := reads_own hput.own
              rw [hev] at HPT dc4
              have hgl := hput.lt
              have hlen : (dl ++ x.take m).length ≤ 100000 := by rw [List.length_append, List.length_take]; omega
              clear hput hbel hev
              by_cases hlt : m < x.length
              · obtain ⟨b0, off, bc', e1, _, _, hb0, hcell⟩ := (HR.out.below (below_two HB.out) (Nat.le_refl _)).plain (by omega)
                injection e1 with e1 _ e3
                subst e1 e3
                have hck := hcell m hlt
                have HTk : Hid (x.take (m + 1) = x.take m ++ [x.getD m 0]) := take_snocI hlt
                generalize x.getD m 0 = y at *
                obtain ⟨gg, gc, w5, a1, a2, a3, hown5, hgrow5, hat5⟩ := run_byte HPT.out.own y (by omega) (by omega)
                obtain ⟨z1, z2, z3⟩ := ((HPT.out.alloc _).drew).mid hgrow5
                have P5 : Hid (PutD (w5.setCell ⟨g, fs.length * 3 + 1, none⟩ (.slice (some ⟨gg, 0, none⟩) ((dl ++ x.take m).length + 1) gc)) w1'.heap.size w3.heap.size g gcap fs.length FZ VS (.slice (some ⟨gg, 0, none⟩) ((dl ++ x.take m).length + 1) gc) (dl ++ x.take (m + 1))) := by
                  show PutD _ _ _ _ _ _ _ _ _ _
                  rw [HTk.out, ← List.append_assoc]
                  exact ((HPT.out.alloc _).drew).step hgrow5 hown5 hat5
                have B5 : Hid (Below (w.heap.size + 2) ((w.alloc (.cells #[.slice a fs.length cap] 40)).alloc (.cells #[.slice none 0 0] 40)) w5) := ((HB.out.alloc (by omega) _).drew).grown hgrow5 (by simp; omega) (fun j hj => by have := (HPT.out.own.lt j hj).1; omega)
                have hs5 : wr.heap.size ≤ w5.heap.size := by have := hgrow5.size; simp at this; omega
                have hgB : w.heap.size + 2 ≤ g := by omega
                rw [HL.out] at z3
                have k5 : ∀ X, (wr.alloc X).cell? ⟨w3.heap.size, 0, none⟩ = some (.slice (some ⟨g, 0, none⟩) (fs.length + 1) gcap) := fun X => ((below_alloc wr X).cell (p := ⟨w3.heap.size, 0, none⟩) (show w3.heap.size < wr.heap.size by omega)).trans bx4
                have k6 : ∀ X, (wr.alloc X).cell? ⟨g, fs.length * 3 + 1, none⟩ = some (.slice ea (dl ++ x.take m).length ec) := fun X => ((below_alloc wr X).cell (p := ⟨g, fs.length * 3 + 1, none⟩) hgl).trans dc4
                clear hown5 hgrow5 hat5 hcell
                generalize hLN : (dl ++ x.take m).length = ln at *
                clear hLN
                go_wp2_with fail
                go_region
                go_wp2_with fail
                go_roundw
                case rel => exact ⟨m + 1, _, by omega, by go_num, P5.out, by rw [size_setCell]; omega, B5.out.setCell (p := ⟨g, fs.length * 3 + 1, none⟩) (show w.heap.size + 2 ≤ g by omega) _⟩
                case measure => simp [intOf]; omega
              · have ek : x.take m = x := List.take_of_length_le (by omega)
                have D6 : Hid (∀ z, DiskR (wr.setCell ⟨w.heap.size + 1, 0, none⟩ z) (.slice (some ⟨g, 0, none⟩) (fs.length + 1) gcap) (FZ.set fs.length { FZ.getD fs.length noF with data := dl ++ x })) := fun z => by
                  have h9 := (HPT.out.reads (by rw [HL.out]; exact hKL)).setBox (y := z) (two_block1 HB.out)
                  rw [ek, HL.out] at h9
                  exact h9
                have t15 := two_cell1 HB.out
                have t25 := two_frozen1 HB.out
                clear ek
                generalize x.take m = xm at *
                go_wp2_with fail
                exact bodyPost_ret (v := .tuple #[.agg #[.slice (some ⟨g, 0, none⟩) (fs.length + 1) gcap], .int .i64 0]) (by simp [results, Try.results39, go_sem, t15]) rfl ⟨_, by rw [HFC.out, HF.out, HF2.out], by rw [HFC.out, HF.out, HF2.out]; exact D6.out _, (below_two HB.out).setCell (show w.heap.size ≤ w.heap.size + 1 by omega) _⟩
end Go.Proofs.Ytbfkmakfkbdafaa

namespace Go.Proofs.Ytbfkmakfkbdafaa
set_option maxRecDepth 100000
open Go.ChangeShapes Go.WideShapes Go.ChangeAt Go.RowKit

set_option maxHeartbeats 2000000 in
set_option maxRecDepth 100000 in
theorem putSaved_any (v : Value) (fs : List FileL) (s : SvS) (vv vm : Value) (w : World) (hD : DiskR w v fs) (hG : Good fs) (hv : MlR w vv s.vals) (hm : MlR w vm s.mail) (hl : fs.length * 48 ≤ 140737488351232) :
    Calls Try.prog 16 #[.agg #[v], .agg #[.int .i64 s.step, .int .i64 s.phase, .bool s.fresh, vv, vm]] w (DskP w (putE fs (encS s))) := by
  have HD : Hid (DiskR w v fs) := hD
  have HG : Hid (Good fs) := hG
  have HV : Hid (MlR w vv s.vals) := hv
  have HM : Hid (MlR w vm s.mail) := hm
  have HEB : Hid (∀ x ∈ (encS s).1, 0 ≤ x ∧ x ≤ 255) := encS_bd s
  obtain ⟨a, cap, rfl, _, _, _, _⟩ := hD
  obtain ⟨va, vc, rfl⟩ := hv.shape
  obtain ⟨ma, mc, rfl⟩ := hm.shape
  obtain ⟨W0, hW0⟩ : ∃ W0, W0 = ((w.alloc (.cells #[.slice a fs.length cap] 40)).alloc (.cells #[.int .i64 s.step, .int .i64 s.phase, .bool s.fresh, .slice va s.vals.length vc, .slice ma s.mail.length mc] 25)).alloc (.cells #[.slice none 0 0] 40) := ⟨_, rfl⟩
  obtain ⟨P0, Q0, Z0, B0, s1, s2⟩ := boxes3 w #[.slice a fs.length cap] #[.int .i64 s.step, .int .i64 s.phase, .bool s.fresh, .slice va s.vals.length vc, .slice ma s.mail.length mc] #[.slice none 0 0] 40 25 40 W0 hW0
  have HK : Hid (∀ X, Below W0.heap.size W0 X → (X.cell? ⟨w.heap.size, 0, none⟩ = some (.slice a fs.length cap) ∧ X.frozen? ⟨w.heap.size, 0, none⟩ = false ∧ X.cell? ⟨w.heap.size + 2, 0, none⟩ = some (.slice none 0 0) ∧ X.frozen? ⟨w.heap.size + 2, 0, none⟩ = false) ∧ Below w.heap.size w X ∧ DiskR X (.slice a fs.length cap) fs ∧ BX 40 X (w.heap.size + 2) #[.slice none 0 0] ∧ BX 40 X w.heap.size #[.slice a fs.length cap]) := fun X hX => by
    have hb := B0.trans (hX.mono (show w.heap.size ≤ W0.heap.size by omega))
    exact ⟨⟨(P0.below hX (by omega)).all1.1, (P0.below hX (by omega)).all1.2, (Z0.below hX (by omega)).all1⟩, hb, HD.out.below hb (Nat.le_refl _), Z0.below hX (by omega), P0.below hX (by omega)⟩
  have BH : Hid (Below w.heap.size w W0) := B0
  have RV : Hid (MlR W0 (.slice va s.vals.length vc) s.vals) := HV.out.below B0 (Nat.le_refl _)
  have RM : Hid (MlR W0 (.slice ma s.mail.length mc) s.mail) := HM.out.below B0 (Nat.le_refl _)
  have CE : Hid (∀ X, MlR X (.slice va s.vals.length vc) s.vals → MlR X (.slice ma s.mail.length mc) s.mail → Calls Try.prog 8 #[.agg #[.int .i64 s.step, .int .i64 s.phase, .bool s.fresh, .slice va s.vals.length vc, .slice ma s.mail.length mc]] X (BytP2 X (encS s))) := fun X h1 h2 => savedBytes_any s _ _ X h1 h2
  obtain ⟨c0, c1, c2, c3, c4⟩ := Q0.all5
  clear P0 Q0 Z0 B0 hG hv hm HV HM HD
  generalize encS s = E at *
  obtain ⟨eb, ee⟩ := E
  go_enter Try.func16, Try.ntmps16
  go_upto_region 1 with fail
  rw [← hW0]
  clear hW0
  go_wp2_with fail
  refine (CE.out _ RV.out RM.out).mono ?_
  rintro e w1 ⟨v1, rfl, ho1, hb1⟩
  have A1 : Hid (Below W0.heap.size W0 w1) := hb1
  have hs1 := hb1.size
  obtain ⟨ea, ec, rfl⟩ := own_slice ho1
  have R1 : Hid (Reads .u8 w1 (.slice ea eb.length ec) eb) := reads_own ho1
  obtain ⟨⟨p0, pf, z0, zf⟩, _⟩ := HK.out _ A1.out
  clear c0 c1 c2 c3 c4 hb1 ho1
  have ZX : Hid (∀ X u, Below W0.heap.size W0 X → BX 40 (X.setCell ⟨w.heap.size + 2, 0, none⟩ u) (w.heap.size + 2) #[u] ∧ Below w.heap.size w (X.setCell ⟨w.heap.size + 2, 0, none⟩ u)) := fun X u hX => ⟨(HK.out X hX).2.2.2.1.set 0 u, (HK.out X hX).2.1.setCell (by simp) u⟩
  by_cases hz : ee = 0
  case neg =>
    have EZ : Hid (putE fs (eb, ee) = ([], ee)) := putE_err hz
    have tz : (ee != 0) = true := by simp [hz]
    go_wp2_with fail
    obtain ⟨rx, rb⟩ := ZX.out w1 (.slice none 0 0) A1.out
    obtain ⟨r0, _⟩ := rx.all1
    refine bodyPost_ret (v := .tuple #[.agg #[.slice none 0 0], .int .i64 ee]) (by simp [results, Try.results16, go_sem, r0]) rfl ?_
    rw [EZ.out]
    exact ⟨_, rfl, diskR_nil _, rb⟩
  case pos =>
    subst hz
    go_upto_region 4 with fail
    go_wp2_with fail
    refine (diskMay_any _ fs _ (HK.out _ A1.out).2.2.1).mono ?_
    rintro e w2 ⟨rfl, hb2⟩
    have A2 : Hid (Below W0.heap.size W0 w2) := A1.out.trans (hb2.mono hs1)
    have R2 : Hid (Reads .u8 w2 (.slice ea eb.length ec) eb) := R1.out.below hb2 (Nat.le_refl _)
    have hs2 := A2.out.size
    clear p0 pf z0 zf hb2 R1
    obtain ⟨⟨p0, pf, z0, zf⟩, _⟩ := HK.out _ A2.out
    cases hmy : mayB fs with
    | false =>
      have EN : Hid (putE fs (eb, 0) = ([], 9)) := putE_no rfl hmy
      clear hmy
      go_wp2_with fail
      obtain ⟨rx, rb⟩ := ZX.out w2 (.slice none 0 0) A2.out
      obtain ⟨r0, _⟩ := rx.all1
      refine bodyPost_ret (v := .tuple #[.agg #[.slice none 0 0], .int .i64 9]) (by simp [results, Try.results16, go_sem, r0]) rfl ?_
      rw [EN.out]
      exact ⟨_, rfl, diskR_nil _, rb⟩
    | true =>
    have EY0 : Hid (putE fs (eb, 0) = chF (lessF fs) (appendF (lessF fs) nxt eb)) := putE_yes (r := (eb, 0)) rfl hmy
    have HMY : Hid (mayB fs = true) := hmy
    clear hmy
    go_upto_region 6 with fail
    go_wp2_with fail
    refine (fileAt_any _ fs nxt _ (HK.out _ A2.out).2.2.1).mono ?_
    rintro e w3 ⟨rfl, hb3⟩
    have A3 : Hid (Below W0.heap.size W0 w3) := A2.out.trans (hb3.mono hs2)
    have R3 : Hid (Reads .u8 w3 (.slice ea eb.length ec) eb) := R2.out.below hb3 (Nat.le_refl _)
    have hs3 := A3.out.size
    clear p0 pf z0 zf hb3 R2
    obtain ⟨⟨p0, pf, z0, zf⟩, _⟩ := HK.out _ A3.out
    have LN : Hid (lessF fs = if atF fs nxt < 0 then fs else (removeF fs nxt).1) := rfl
    by_cases hat : atF fs nxt < 0
    case pos =>
      have hlf := lessF_none hat
      have EY : Hid (putE fs (eb, 0) = chF fs (appendF fs nxt eb)) := by show _ = _; rw [EY0.out, hlf]
      have ta : decide (atF fs nxt ≥ 0) = false := by simp; omega
      have AW : Hid (Below w.heap.size w w3) := (HK.out _ A3.out).2.1
      have ZB : Hid (BX 40 w3 (w.heap.size + 2) #[.slice none 0 0]) := (HK.out _ A3.out).2.2.2.1
      clear hlf
      generalize atF fs nxt = at0 at *
      go_wp2_with fail
      refine (appended_any _ fs nxt _ eb _ (HK.out _ A3.out).2.2.1 HG.out hl nxt_size R3.out).mono ?_
      rintro e w5 ⟨v5, rfl, hr5, hb5⟩
      obtain ⟨a5, k5, e5, _, _, _, _⟩ := id hr5
      subst e5
      have z5 := ZB.out.below hb5 ZB.out.lt
      have b5 : Below w.heap.size w w5 := AW.out.trans (hb5.mono AW.out.size)
      have hs5 := b5.size
      have N6 : Hid (BX 40 (w5.alloc (.cells #[.slice a5 (chF fs (appendF fs nxt eb)).1.length k5] 40)) (w.heap.size + 2) #[.slice none 0 0] ∧ BX 40 (w5.alloc (.cells #[.slice a5 (chF fs (appendF fs nxt eb)).1.length k5] 40)) w5.heap.size #[.slice a5 (chF fs (appendF fs nxt eb)).1.length k5] ∧ DiskR (w5.alloc (.cells #[.slice a5 (chF fs (appendF fs nxt eb)).1.length k5] 40)) (.slice a5 (chF fs (appendF fs nxt eb)).1.length k5) (chF fs (appendF fs nxt eb)).1 ∧ Below w.heap.size w (w5.alloc (.cells #[.slice a5 (chF fs (appendF fs nxt eb)).1.length k5] 40))) := ⟨z5.below (below_alloc _ _) z5.lt, BX.new _ _ _, hr5.below (below_alloc _ _) (Nat.le_refl _), b5.alloc hs5 _⟩
      clear hr5 hb5 z5 b5 hs5 p0 pf z0 zf
      go_upto_region 9 with fail
      generalize w5.alloc (.cells #[.slice a5 (chF fs (appendF fs nxt eb)).1.length k5] 40) = w6 at *
      generalize w5.heap.size = b6 at *
      generalize chF fs (appendF fs nxt eb) = q at *
      obtain ⟨z6, x6, d6, b6'⟩ := N6.out
      have D6 : Hid (DiskR (w6.setCell ⟨w.heap.size + 2, 0, none⟩ (.slice a5 q.1.length k5)) (.slice a5 q.1.length k5) q.1) := d6.setBox z6
      have B6 : Hid (Below w.heap.size w (w6.setCell ⟨w.heap.size + 2, 0, none⟩ (.slice a5 q.1.length k5))) := b6'.setCell (by simp) _
      have Z6 : Hid (BX 40 (w6.setCell ⟨w.heap.size + 2, 0, none⟩ (.slice a5 q.1.length k5)) (w.heap.size + 2) #[.slice a5 q.1.length k5]) := z6.set 0 _
      obtain ⟨y0, yf⟩ := z6.all1
      obtain ⟨x0, _⟩ := x6.all1
      clear z6 x6 d6 b6' N6
      go_wp2_with fail
      obtain ⟨r0, _⟩ := Z6.out.all1
      refine bodyPost_ret (v := .tuple #[.agg #[.slice a5 q.1.length k5], .int .i64 q.2]) (by simp [results, Try.results16, go_sem, r0]) rfl ?_
      rw [EY.out]
      exact ⟨_, rfl, D6.out, B6.out⟩
    case neg =>
      have ta : decide (atF fs nxt ≥ 0) = true := by simp; omega
      have EY := EY0
      have CR : Hid (chF fs (removeF fs nxt) = removeF fs nxt ∧ (removeF fs nxt).1 = lessF fs) := ⟨by
        rcases chF_remove fs with ⟨_, hm, _⟩ | ⟨_, hm, _⟩ | ⟨_, hm⟩
        · unfold chF; rw [if_pos hm]
        · unfold chF; rw [if_pos hm]
        · exact absurd HMY.out (by rw [hm]; simp), (lessF_some hat).symm⟩
      go_wp2_with fail
      refine (removed_any _ fs nxt _ (HK.out _ A3.out).2.2.1 HG.out hl).mono ?_
      rintro e w4 ⟨v4, rfl, hr4, hb4⟩
      rw [CR.out.1, CR.out.2] at hr4
      have A4 : Below W0.heap.size W0 w4 := A3.out.trans (hb4.mono hs3)
      obtain ⟨a4, k4, e4, _, _, _, _⟩ := id hr4
      subst e4
      obtain ⟨⟨p4, pf4, z4, zf4⟩, h41, h42, h43, h44⟩ := HK.out _ A4
      have N5 : Hid (DiskR (w4.setCell ⟨w.heap.size, 0, none⟩ (.slice a4 (lessF fs).length k4)) (.slice a4 (lessF fs).length k4) (lessF fs) ∧ Reads .u8 (w4.setCell ⟨w.heap.size, 0, none⟩ (.slice a4 (lessF fs).length k4)) (.slice ea eb.length ec) eb ∧ Below w.heap.size w (w4.setCell ⟨w.heap.size, 0, none⟩ (.slice a4 (lessF fs).length k4)) ∧ BX 40 (w4.setCell ⟨w.heap.size, 0, none⟩ (.slice a4 (lessF fs).length k4)) (w.heap.size + 2) #[.slice none 0 0] ∧ BX 40 (w4.setCell ⟨w.heap.size, 0, none⟩ (.slice a4 (lessF fs).length k4)) w.heap.size #[.slice a4 (lessF fs).length k4]) := ⟨hr4.setBox h44, (R3.out.below hb4 (Nat.le_refl _)).set p4 (fun m hh => by cases hh), h41.setCell (by simp) _, h43.other (by omega), h44.set 0 _⟩
      clear hr4 hb4 A4 p0 pf z0 zf h41 h42 h43 h44
      go_upto_region 8 with fail
      clear p4 pf4 z4 zf4
      generalize w4.setCell ⟨w.heap.size, 0, none⟩ (.slice a4 (lessF fs).length k4) = w4' at *
      obtain ⟨d5', r5', b5', z5', x5'⟩ := N5.out
      have D5 : Hid (DiskR w4' (.slice a4 (lessF fs).length k4) (lessF fs)) := d5'
      have R5 : Hid (Reads .u8 w4' (.slice ea eb.length ec) eb) := r5'
      have AW : Hid (Below w.heap.size w w4') := b5'
      have ZB : Hid (BX 40 w4' (w.heap.size + 2) #[.slice none 0 0]) := z5'
      obtain ⟨p0, pf⟩ := x5'.all1
      obtain ⟨z0, zf⟩ := z5'.all1
      clear d5' r5' b5' z5' x5' N5
      have hln : (lessF fs).length * 48 ≤ 140737488351232 := by have := less_len fs; omega
      have HGL : Hid (Good (lessF fs)) := good_less HG.out
      go_wp2_with fail
      refine (appended_any _ (lessF fs) nxt _ eb _ D5.out HGL.out hln nxt_size R5.out).mono ?_
      rintro e w5 ⟨v5, rfl, hr5, hb5⟩
      obtain ⟨a5, k5, e5, _, _, _, _⟩ := id hr5
      subst e5
      have z5 := ZB.out.below hb5 ZB.out.lt
      have b5 : Below w.heap.size w w5 := AW.out.trans (hb5.mono AW.out.size)
      have hs5 := b5.size
      have N6 : Hid (BX 40 (w5.alloc (.cells #[.slice a5 (chF (lessF fs) (appendF (lessF fs) nxt eb)).1.length k5] 40)) (w.heap.size + 2) #[.slice none 0 0] ∧ BX 40 (w5.alloc (.cells #[.slice a5 (chF (lessF fs) (appendF (lessF fs) nxt eb)).1.length k5] 40)) w5.heap.size #[.slice a5 (chF (lessF fs) (appendF (lessF fs) nxt eb)).1.length k5] ∧ DiskR (w5.alloc (.cells #[.slice a5 (chF (lessF fs) (appendF (lessF fs) nxt eb)).1.length k5] 40)) (.slice a5 (chF (lessF fs) (appendF (lessF fs) nxt eb)).1.length k5) (chF (lessF fs) (appendF (lessF fs) nxt eb)).1 ∧ Below w.heap.size w (w5.alloc (.cells #[.slice a5 (chF (lessF fs) (appendF (lessF fs) nxt eb)).1.length k5] 40))) := ⟨z5.below (below_alloc _ _) z5.lt, BX.new _ _ _, hr5.below (below_alloc _ _) (Nat.le_refl _), b5.alloc hs5 _⟩
      clear hr5 hb5 z5 b5 hs5 p0 pf z0 zf
      go_upto_region 9 with fail
      generalize w5.alloc (.cells #[.slice a5 (chF (lessF fs) (appendF (lessF fs) nxt eb)).1.length k5] 40) = w6 at *
      generalize w5.heap.size = b6 at *
      generalize chF (lessF fs) (appendF (lessF fs) nxt eb) = q at *
      obtain ⟨z6, x6, d6, b6'⟩ := N6.out
      have D6 : Hid (DiskR (w6.setCell ⟨w.heap.size + 2, 0, none⟩ (.slice a5 q.1.length k5)) (.slice a5 q.1.length k5) q.1) := d6.setBox z6
      have B6 : Hid (Below w.heap.size w (w6.setCell ⟨w.heap.size + 2, 0, none⟩ (.slice a5 q.1.length k5))) := b6'.setCell (by simp) _
      have Z6 : Hid (BX 40 (w6.setCell ⟨w.heap.size + 2, 0, none⟩ (.slice a5 q.1.length k5)) (w.heap.size + 2) #[.slice a5 q.1.length k5]) := z6.set 0 _
      obtain ⟨y0, yf⟩ := z6.all1
      obtain ⟨x0, _⟩ := x6.all1
      clear z6 x6 d6 b6' N6
      go_wp2_with fail
      obtain ⟨r0, _⟩ := Z6.out.all1
      refine bodyPost_ret (v := .tuple #[.agg #[.slice a5 q.1.length k5], .int .i64 q.2]) (by simp [results, Try.results16, go_sem, r0]) rfl ?_
      rw [EY.out]
      exact ⟨_, rfl, D6.out, B6.out⟩
end Go.Proofs.Ytbfkmakfkbdafaa
