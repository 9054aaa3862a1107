/-
  For every number and ways the ends of each edge of a graph that is made of them have one number, it is a vertex that has it itself, and the least one that is joined (the law WeakJoined returns true, and its arguments read as before); no condition.
-/
import Derived.Test.YtankibadiomkkaaWayOpen
import Derived.Test.YtankibadiomkkaaKeepMade
import Derived.Test.YtankibadiomkkaaKeepBoth
import Derived.Test.YtankibadiomkkaaFaceWeak
import Derived.Test.YtankibadiomkkaaFaceReach
import Derived.Test.YtankibadiomkkaaBoxMem
import Derived.WalkKit
import Derived.ProofKit
import Derived.OpenShut
import Derived.ShutString
import Derived.SizedLaws
import Derived.ChangeOld
import Derived.Below
import Derived.Deep.QuietTactic
import Derived.BigQuiet
import Derived.Lib.QuietBelow
namespace Go.Proofs.Ytankibadiomkkaa.weakJoined
set_option maxRecDepth 100000
open Go.ChangeShapes Go.WideShapes Go.ChangeAt Go.RowKit

theorem own : ownKnob Try.prog.godebug = none := by kernel_rfl
theorem laidOut : laidOutB Try.prog = true := by kernel_rfl

set_option maxHeartbeats 4000000 in
set_option maxRecDepth 100000 in
theorem walk (n0 : Int) (v1 : Value) (es1 : List Ed) (w : World) (hI0 : -9223372036854775808 ≤ n0 ∧ n0 ≤ 9223372036854775807) (hR1 : EdR w v1 es1) (hB1 : ∀ x ∈ es1, edB x) (hL1 : es1.length * 24 ≤ 140737488351232) :
    Calls Try.prog 8 #[.int .i64 n0, v1] w fun e w' => e = .returned (.bool true) ∧ Below w.heap.size w w' := by
  have _u := hI0
  clear _u
  have _u := hR1
  clear _u
  have _u := hB1
  clear _u
  have _u := hL1
  clear _u
  have HR : Hid (EdR w v1 es1) := hR1
  have HBW : Hid (∀ x ∈ es1, edB x) := hB1
  have hpb := pickF_bd n0 8 (by omega)
  have HM : Hid (∀ X, EdR X v1 es1 → Calls Try.prog 21 #[.int .i64 n0, v1, .int .i64 8] X fun e w' => ∃ v', e = .returned (.agg #[.int .i64 (1 + pickF n0 8), v']) ∧ w'.ownsRow X.heap.size 43 3 v' (madeL (1 + pickF n0 8) es1).length ((madeL (1 + pickF n0 8) es1).flatMap encE) ∧ Below X.heap.size X w') := fun X hX => made_any n0 8 _ es1 X hX HBW.out hI0 (by omega) (by omega)
  have F0 : Hid (faultE (1 + pickF n0 8) (madeL (1 + pickF n0 8) es1) = 0) := made_right (by omega) (by omega)
  have hEl := made_len (1 + pickF n0 8) es1
  have hn0 : 0 < 1 + pickF n0 8 := by omega
  have hn8 : 1 + pickF n0 8 ≤ 8 := by omega
  clear hpb hB1 hL1 hI0
  generalize madeL (1 + pickF n0 8) es1 = E at *
  generalize 1 + pickF n0 8 = N at *
  obtain ⟨m, rfl⟩ : ∃ m : Nat, N = m := ⟨N.toNat, by omega⟩
  have hm0 : 0 < m := by omega
  have HG : Hid (InG m E) := in_fault F0.out
  have CWK : Hid (∀ X v, EdR X v E → Calls Try.prog 14 #[.agg #[.int .i64 m, v]] X fun e w' => ∃ v', e = .returned (.tuple #[v', .int .i64 0]) ∧ InR w' v' (weakF m E) ∧ Below X.heap.size X w') := fun X v hX => by
    have h1 := pWeak_any v E m X hX
    rw [F0.out, Int.toNat_natCast] at h1
    exact h1.mono (fun e w' ⟨v', h2, h3, h4⟩ => ⟨v', h2, RowK.own encI_len h3, h4⟩)
  have F1 : Hid (faultE (m : Int) (bothI E) = 0) := both_right F0.out hEl
  have HGB : Hid (InG m (bothI E)) := in_fault F1.out
  have CR : Hid (∀ X v (k : Nat), k < m → EdR X v (bothI E) → Calls Try.prog 16 #[.agg #[.int .i64 m, v], .int .i64 k] X fun e w' => ∃ v', e = .returned (.tuple #[v', .int .i64 0]) ∧ BlR w' v' (reachF m (bothI E) k) ∧ Below X.heap.size X w') := fun X v k hk hX => by
    have h1 := pReach_any v (bothI E) m k X hX
    rw [errV_ok F1.out ⟨by omega, by omega⟩, Int.toNat_natCast] at h1
    exact h1.mono (fun e w' ⟨v', h2, h3, h4⟩ => ⟨v', h2, BlR.ownd h3, h4⟩)
  have WO : Hid (LeastL m (Rch (bothW E)) (weakF m E)) := weak_ok HG.out
  have hsy : ∀ u v, Rch (bothW E) u v → Rch (bothW E) v u := fun _ _ h => both_symm h
  have htr : ∀ u x v, Rch (bothW E) u x → Rch (bothW E) x v → Rch (bothW E) u v := fun _ _ _ h h2 => h.trans h2
  have HLW : Hid ((weakF m E).length = m) := WO.out.1
  have HED : Hid (∀ e ∈ E, atD (weakF m E) e.1 = atD (weakF m E) e.2.1) := fun e he => by
    obtain ⟨g1, g2, g3, g4, _⟩ := HG.out e he
    exact (least_same hsy htr WO.out ⟨g1, g2⟩ ⟨g3, g4⟩).2 ((Rch.refl _ _).step (List.mem_append.2 (.inl he)))
  have HVX : Hid (∀ k : Nat, k < m → ∃ p : Nat, p < m ∧ atD (weakF m E) (k : Int) = p ∧ p ≤ k ∧ atD (weakF m E) (p : Int) = p ∧ atB (reachF m (bothI E) k) (p : Int) = true) := fun k hk => by
    have h1 := WO.out.2 (k : Int) ⟨by omega, by omega⟩
    obtain ⟨p, hp⟩ : ∃ p : Nat, atD (weakF m E) (k : Int) = p := ⟨(atD (weakF m E) (k : Int)).toNat, by omega⟩
    have h2 := least_le_self (fun v => Rch.refl _ v) WO.out (v := (k : Int)) ⟨by omega, by omega⟩
    have h3 := least_again hsy htr WO.out (v := (k : Int)) ⟨by omega, by omega⟩
    rw [hp] at h1 h2 h3
    refine ⟨p, by omega, hp, by omega, h3, (reach_at HGB.out ⟨by omega, by omega⟩ ⟨by omega, by omega⟩).2 ((both_symm h1.2.1).mono fun e he => bothI_mem.1 he)⟩
  have HLB : Hid (∀ u : Nat, u < m → (reachF m (bothI E) u).length = m) := fun u hu => reach_len HGB.out ⟨by omega, by omega⟩
  have HBL : Hid (∀ j, (bothI (E.take j)).length ≤ 20) := fun j => by
    rw [bothI_len, List.length_take]
    omega
  have dmm : ((m : Int) != (m : Int)) = false := by simp
  clear F0 F1 hsy htr WO HGB
  obtain ⟨a, cap, rfl⟩ := hR1.shape
  clear hR1
  go_enter Try.func8, Try.ntmps8
  go_wp2_with fail
  refine (HM.out _ HR.out).mono ?_
  rintro e w1 ⟨va, rfl, hown1, hb1⟩
  have R1 : EdR w1 va E := RowK.own encE_len hown1
  obtain ⟨aa, ac, rfl, hac, ham, _, _⟩ := R1
  unfold maxLen at ham
  have RE : Hid (EdR w1 (.slice aa E.length ac) E) := RowK.own encE_len hown1
  have B1 : Hid (Below w.heap.size w w1) := hb1
  clear hown1 hb1 HM
  go_upto_region 2 with fail
  have N1 : BX 24 (w1.alloc (.cells #[.int .i64 m, .slice aa E.length ac] 24)) w1.heap.size #[.int .i64 m, .slice aa E.length ac] := BX.new _ _ _
  have A1 : Below w1.heap.size w1 (w1.alloc (.cells #[.int .i64 m, .slice aa E.length ac] 24)) := below_alloc _ _
  generalize w1.alloc (.cells #[.int .i64 m, .slice aa E.length ac] 24) = W1 at *
  have hl1 := N1.lt
  have HK : Hid (∀ X, Below W1.heap.size W1 X → BX 24 X w1.heap.size #[.int .i64 m, .slice aa E.length ac] ∧ Below w.heap.size w X ∧ EdR X (.slice aa E.length ac) E) := fun X hX => ⟨N1.below hX hl1, B1.out.trans ((A1.trans (hX.mono A1.size)).mono B1.out.size), RE.out.below (A1.trans (hX.mono A1.size)) (Nat.le_refl _)⟩
  generalize w1.heap.size = gq at *
  obtain ⟨q0, q1, _⟩ := N1.all2
  have RW : Hid (EdR W1 (.slice aa E.length ac) E) := (HK.out _ (Below.refl _ _)).2.2
  clear N1 A1
  go_wp2_with fail
  refine (CWK.out _ _ RW.out).mono ?_
  rintro e W2 ⟨v2, rfl, hr2, hb2⟩
  have A2 : Hid (Below W1.heap.size W1 W2) := hb2
  obtain ⟨sb, so, sc, rfl, hsc, hsm, lts, hcs⟩ := hr2.row HLW.out hm0
  have HCS : Hid (∀ X, Below W2.heap.size W2 X → ∀ i : Nat, i < m → X.cell? ⟨sb, so + i, none⟩ = some (.int .i64 (atD (weakF m E) (i : Int)))) := fun X hX i hi => (hX.cell (p := ⟨sb, so + i, none⟩) lts).trans (hcs i hi)
  clear hr2 hb2 hcs q0 q1
  have HK2 : Hid (∀ X, Below W2.heap.size W2 X → BX 24 X gq #[.int .i64 m, .slice aa E.length ac] ∧ Below w.heap.size w X ∧ EdR X (.slice aa E.length ac) E) := fun X hX => HK.out X (A2.out.trans (hX.mono A2.out.size))
  obtain ⟨Q2, _, _⟩ := HK2.out _ (Below.refl _ _)
  obtain ⟨q0, q1, _⟩ := Q2.all2
  clear Q2 HK A2
  go_wp2_with fail
  go_loopw [8] (fun i wx => ∃ j : Nat, j ≤ E.length ∧ i = .int .i64 j ∧ Below W2.heap.size W2 wx) (fun i _ => E.length - (intOf i).toNat)
  case atStart => exact ⟨0, by omega, rfl, Below.refl _ _⟩
  case round =>
    obtain ⟨j, hj, rfl, hbel⟩ := hrel
    have A3 : Hid (Below W2.heap.size W2 wr) := hbel
    clear q0 q1
    obtain ⟨Q3, _, R3⟩ := HK2.out _ hbel
    obtain ⟨q0, q1, _⟩ := Q3.all2
    clear Q3 hbel
    by_cases hlt : j < E.length
    · obtain ⟨eb, eo, ecap, e1, _, _, lt, hv⟩ := EdR.at R3 (by omega)
      injection e1 with e1 _ e3
      subst e1 e3
      obtain ⟨x, hx⟩ := getE hlt
      obtain ⟨c1, c2, c3⟩ := hv j x hx
      have hxm := List.mem_of_getElem? hx
      obtain ⟨g1, g2, g3, g4, _⟩ := HG.out x hxm
      have hcl := HED.out x hxm
      obtain ⟨xf, hxf⟩ : ∃ xf : Nat, x.1 = xf := ⟨x.1.toNat, by omega⟩
      obtain ⟨xt, hxt⟩ : ∃ xt : Nat, x.2.1 = xt := ⟨x.2.1.toNat, by omega⟩
      rw [hxf] at c1 g1 g2 hcl
      rw [hxt] at c2 g3 g4 hcl
      have d1 := HCS.out _ A3.out xf (by omega)
      have d2 := HCS.out _ A3.out xt (by omega)
      rw [hcl] at d1
      generalize atD (weakF m E) (xt : Int) = z at *
      have dzz : (z != z) = false := by simp
      have p0 : (0 : Int) ≤ (j : Int) := by omega
      have p1 : (j : Int) < (E.length : Int) := by omega
      clear hv hx hxm hxf hxt hcl R3
      go_wp2_with fail
      go_quiet (fail)
      go_wp2_with fail
      go_roundw
      case rel => exact ⟨j + 1, by omega, by go_num, below_drewN A3.out _⟩
      case measure => simp [intOf]; omega
    · obtain ⟨V3, rfl⟩ : ∃ V, V = wr := ⟨wr, rfl⟩
      have HK3 : Hid (∀ X, Below V3.heap.size V3 X → BX 24 X gq #[.int .i64 m, .slice aa E.length ac] ∧ Below w.heap.size w X ∧ EdR X (.slice aa E.length ac) E ∧ ∀ i : Nat, i < m → X.cell? ⟨sb, so + i, none⟩ = some (.int .i64 (atD (weakF m E) (i : Int)))) := fun X hX => ⟨(HK2.out X (A3.out.trans (hX.mono A3.out.size))).1, (HK2.out X (A3.out.trans (hX.mono A3.out.size))).2.1, (HK2.out X (A3.out.trans (hX.mono A3.out.size))).2.2, HCS.out X (A3.out.trans (hX.mono A3.out.size))⟩
      clear HK2 HCS A3 R3
      go_upto_region 11 with fail
      have N4 : Hid (BX 24 (V3.alloc (.cells #[.int .i64 m, .slice none 0 0] 24)) V3.heap.size #[.int .i64 m, .slice none 0 0]) := BX.new _ _ _
      have A4 : Hid (Below V3.heap.size V3 (V3.alloc (.cells #[.int .i64 m, .slice none 0 0] 24))) := below_alloc _ _
      generalize V3.alloc (.cells #[.int .i64 m, .slice none 0 0] 24) = W4 at *
      clear q0 q1
      go_wp2_with fail
      go_loopw [10, 11] (fun i _ wx => ∃ (j : Nat) (u : Value), j ≤ E.length ∧ i = .int .i64 j ∧ BX 24 wx V3.heap.size #[.int .i64 m, u] ∧ wx.ownsRow V3.heap.size 43 3 u (bothI (E.take j)).length ((bothI (E.take j)).flatMap encE) ∧ Below V3.heap.size V3 wx) (fun i _ _ => E.length - (intOf i).toNat)
      case atStart => exact ⟨0, .slice none 0 0, by omega, rfl, N4.out, World.ownsRow_nil _ _ _ _, A4.out⟩
      case round =>
        obtain ⟨j, u, hj, rfl, hbx, hown, hbel⟩ := hrel
        have XB : Hid (BX 24 wr V3.heap.size #[.int .i64 m, u]) := hbx
        have OW : Hid (wr.ownsRow V3.heap.size 43 3 u (bothI (E.take j)).length ((bothI (E.take j)).flatMap encE)) := hown
        have A5 : Hid (Below V3.heap.size V3 wr) := hbel
        have hs5 := hbel.size
        have hbl := hbx.lt
        obtain ⟨Q5, b5, R5, _⟩ := HK3.out _ hbel
        have B5 : Hid (Below w.heap.size w wr) := b5
        obtain ⟨q0, q1, _⟩ := Q5.all2
        have hqq : gq < V3.heap.size := by have := (HK3.out _ (Below.refl _ _)).1.lt; exact this
        clear Q5 b5 hbx hown hbel
        by_cases hlt : j < E.length
        · obtain ⟨eb, eo, ecap, e1, _, _, lt, hv⟩ := EdR.at R5 (by omega)
          injection e1 with e1 _ e3
          subst e1 e3
          obtain ⟨x, hx⟩ := getE hlt
          obtain ⟨c1, c2, c3⟩ := hv j x hx
          have HT : Hid (bothI (E.take (j + 1)) = bothI (E.take j) ++ [x, (x.2.1, x.1, x.2.2)]) := by show _ = _; rw [take_snoc hx, bothI_snoc]
          have hbl2 := HBL.out j
          have p0 : (0 : Int) ≤ (j : Int) := by omega
          have p1 : (j : Int) < (E.length : Int) := by omega
          obtain ⟨ua, un, uc, rfl⟩ : ∃ a n c, u = .slice a n c := by obtain ⟨a, c, e, _⟩ := RowK.own encE_len OW.out; exact ⟨_, _, _, e⟩
          clear hv hx R5
          generalize bothI (E.take j) = f at *
          go_upto_region 15 with fail
          have N6 : BX 43 (wr.alloc (.cells #[.int .i64 x.1, .int .i64 x.2.1, .int .i64 x.2.2] 43)) wr.heap.size #[.int .i64 x.1, .int .i64 x.2.1, .int .i64 x.2.2] := BX.new _ _ _
          have X6 : Hid (BX 24 (wr.alloc (.cells #[.int .i64 x.1, .int .i64 x.2.1, .int .i64 x.2.2] 43)) V3.heap.size #[.int .i64 m, .slice ua un uc]) := XB.out.below (below_alloc _ _) hbl
          have O6 : Hid ((wr.alloc (.cells #[.int .i64 x.1, .int .i64 x.2.1, .int .i64 x.2.2] 43)).ownsRow V3.heap.size 43 3 (.slice ua un uc) f.length (f.flatMap encE)) := OW.out.alloc _
          have A6 : Hid (Below V3.heap.size V3 (wr.alloc (.cells #[.int .i64 x.1, .int .i64 x.2.1, .int .i64 x.2.2] 43))) := A5.out.alloc hs5 _
          generalize wr.alloc (.cells #[.int .i64 x.1, .int .i64 x.2.1, .int .i64 x.2.2] 43) = W6 at *
          have hs6 := A6.out.size
          obtain ⟨e0, e1, e2, _⟩ := N6.all3
          obtain ⟨x0, x1, _⟩ := X6.out.all2
          clear N6 q0 q1 c1 c2 c3
          have hl6 := X6.out.lt
          go_wp2_with (at_builtin; refine wpList_append_rowK kE rfl _ _ rfl V3.heap.size _ f rfl (O6.out.alloc _) (.slice (some ⟨W6.heap.size, 0, none⟩) 2 2) [x, (x.2.1, x.1, x.2.2)] rfl (RowK.own encE_len (own_twoE W6 W6.heap.size (Nat.le_refl _) x (x.2.1, x.1, x.2.2))) (by simp [kE]; omega) (by unfold maxLen; simp; omega) (by simp; omega) ?_)
          intro v8 w8 ho8 hb8 hg8
          have O8 : Hid (w8.ownsRow V3.heap.size 43 3 v8 (bothI (E.take (j + 1))).length ((bothI (E.take (j + 1))).flatMap encE)) := by
            show World.ownsRow _ _ _ _ _ _ _
            rw [HT.out, List.length_append, List.flatMap_append]
            simpa [kE] using ho8
          have X8 : Hid (BX 24 w8 V3.heap.size #[.int .i64 m, .slice ua un uc]) := (X6.out.below (below_alloc _ _) hl6).grown (O6.out.alloc _) (by decide) hg8
          have A8 : Hid (Below V3.heap.size V3 w8) := (A6.out.alloc hs6 _).trans hb8
          obtain ⟨va, vn, vc, rfl⟩ : ∃ a n c, v8 = .slice a n c := by obtain ⟨a, c, e, _⟩ := RowK.own encE_len O8.out; exact ⟨_, _, _, e⟩
          clear ho8 hb8 hg8 e0 e1 e2 x0 x1
          obtain ⟨z0, z1, z2, z3⟩ := X8.out.all2
          have X9 : Hid (BX 24 (w8.setCell ⟨V3.heap.size, 1, none⟩ (.slice va vn vc)) V3.heap.size #[.int .i64 m, .slice va vn vc]) := X8.out.set 1 _
          have O9 : Hid ((w8.setCell ⟨V3.heap.size, 1, none⟩ (.slice va vn vc)).ownsRow V3.heap.size 43 3 (.slice va vn vc) (bothI (E.take (j + 1))).length ((bothI (E.take (j + 1))).flatMap encE)) := X8.out.own O8.out (by decide)
          have A9 : Hid (Below V3.heap.size V3 (w8.setCell ⟨V3.heap.size, 1, none⟩ (.slice va vn vc))) := A8.out.setCell (Nat.le_refl _) _
          go_wp2_with fail
          go_roundw
          case rel => exact ⟨j + 1, .slice va vn vc, by omega, by go_num, X9.out, O9.out, A9.out⟩
          case measure => simp [intOf]; omega
        · have ek : E.take j = E := List.take_of_length_le (by omega)
          rw [ek] at OW
          clear ek R5
          have RB : Hid (EdR wr u (bothI E)) := RowK.own encE_len OW.out
          obtain ⟨ua, uc, rfl⟩ := RB.out.shape
          obtain ⟨V6, rfl⟩ : ∃ V, V = wr := ⟨wr, rfl⟩
          have HK6 : Hid (∀ X, Below V6.heap.size V6 X → BX 24 X gq #[.int .i64 m, .slice aa E.length ac] ∧ Below w.heap.size w X ∧ BX 24 X V3.heap.size #[.int .i64 m, .slice ua (bothI E).length uc] ∧ EdR X (.slice ua (bothI E).length uc) (bothI E) ∧ ∀ i : Nat, i < m → X.cell? ⟨sb, so + i, none⟩ = some (.int .i64 (atD (weakF m E) (i : Int)))) := fun X hX => ⟨(HK3.out X (A5.out.trans (hX.mono hs5))).1, (HK3.out X (A5.out.trans (hX.mono hs5))).2.1, XB.out.below hX hbl, RB.out.below hX (Nat.le_refl _), (HK3.out X (A5.out.trans (hX.mono hs5))).2.2.2⟩
          clear XB OW RB HK3 A5 B5
          generalize bothI E = EB at *
          go_wp2_with fail
          go_loopw [12, 13, 14] (fun i _ _ wx => ∃ k : Nat, k ≤ m ∧ i = .int .i64 k ∧ Below V6.heap.size V6 wx) (fun i _ _ _ => m - (intOf i).toNat)
          case atStart => exact ⟨0, by omega, rfl, Below.refl _ _⟩
          case round =>
            obtain ⟨k, hk, rfl, hbel⟩ := hrel
            have A7 : Hid (Below V6.heap.size V6 wr) := hbel
            obtain ⟨Q7, b7, Y7, R7, C7⟩ := HK6.out _ hbel
            have B7 : Hid (Below w.heap.size w wr) := b7
            clear q0 q1
            obtain ⟨q0, q1, _⟩ := Q7.all2
            obtain ⟨y0, y1, _⟩ := Y7.all2
            have S7 : Hid (EdR wr (.slice ua EB.length uc) EB) := R7
            clear hbel Q7 b7 Y7 R7
            by_cases hltk : k < m
            · obtain ⟨p, hpm, hp1, hp2, hp3, hp4⟩ := HVX.out k hltk
              have ck := C7 k hltk
              have cp := C7 p hpm
              rw [hp1] at ck
              rw [hp3] at cp
              have HP4 : Hid (atB (reachF m EB k) (p : Int) = true) := hp4
              have HP1 : Hid (atD (weakF m E) (k : Int) = p) := hp1
              have k0 : (0 : Int) ≤ (k : Int) := by omega
              have k1 : (k : Int) < (m : Int) := by omega
              have t0 : ¬ (p : Int) < 0 := by omega
              have t0d : decide ((p : Int) < 0) = false := by simp
              have t1 : ¬ (p : Int) > (k : Int) := by omega
              have t1d : decide ((p : Int) > (k : Int)) = false := by simp; omega
              have t2 : ((p : Int) != (p : Int)) = false := by simp
              have t3 : (0 : Int) ≤ (p : Int) := by omega
              have t4 : (p : Int) < (m : Int) := by omega
              clear C7 hp1 hp3 hp4
              go_wp2_with fail
              go_quiet (fail)
              have A8 : Hid (Below V6.heap.size V6 (wr.drewN nq)) := below_drewN A7.out _
              have S8 : Hid (EdR (wr.drewN nq) (.slice ua EB.length uc) EB) := (HK6.out _ A8.out).2.2.2.1
              generalize wr.drewN nq = W8 at *
              obtain ⟨Q8, _, Y8, _, _⟩ := HK6.out _ A8.out
              clear q0 q1 y0 y1 ck cp
              obtain ⟨q0, q1, _⟩ := Q8.all2
              obtain ⟨y0, y1, _⟩ := Y8.all2
              clear Q8 Y8
              go_wp2_with fail
              refine (CR.out _ _ k hltk S8.out).mono ?_
              rintro e w9 ⟨v9, rfl, hr9, hb9⟩
              have A9 : Hid (Below V6.heap.size V6 w9) := A8.out.trans (hb9.mono A8.out.size)
              obtain ⟨bb, bo, bc, rfl, hbc, hbm, ltb, hcb⟩ := hr9.row (HLB.out k hltk) hm0
              have cb := hcb p hpm
              rw [HP4.out] at cb
              clear hr9 hb9 hcb q0 q1 y0 y1
              obtain ⟨Q9, _, _, _, C9⟩ := HK6.out _ A9.out
              obtain ⟨q0, q1, _⟩ := Q9.all2
              have ck := C9 k hltk
              rw [HP1.out] at ck
              clear Q9 C9
              go_wp2_with fail
              go_roundw
              case rel => exact ⟨k + 1, by omega, by go_num, A9.out⟩
              case measure => simp [intOf]; omega
            · go_wp2_with fail
              go_ret
              exact ⟨rfl, B7.out⟩

set_option maxHeartbeats 400000 in
set_option maxRecDepth 100000 in
theorem lifted (os : Os) (started : os.Started) (H : Type) (enc : TypeId × Value → H) :
    ReturnsInHanded {} Try.checked os 8 .any (Rows.weakJoinedSpec.pre6 enc Try.prog Try.f8 Rows.weakJoinedRow.domain false) (Rows.weakJoinedSpec.post enc Try.prog Try.f8 false true false false) := by
  refine returnsInHanded_of_change_sized (C := Try.checked) own started (by kernel_rfl) Try.func8
    (ChangeSpec.witness6 (enc := enc) (C := Try.checked) false ⟨#[], #[.int .i64 0, .slice none 0 0], []⟩ 8 (by kernel_rfl) (by kernel_rfl) (by kernel_rfl) (by kernel_rfl)) ?_
  intro W base args ds gs before hval0 hW _ hsz0 _
  have hval : ∀ (j : Nat) t v, Try.f8.params[j]? = some t → args[j]? = some v → Value.okWide Try.prog W .any base t v := hval0
  have hW' := hW
  obtain ⟨p, q, hA0, hV, rfl, hfz, hnd⟩ := hW
  have hA : DataW.TrodAll enc Try.prog W 0 (fun _ => true) true Try.f8.params.toList args.toList ds p := hA0
  have hsz : (DataW.weightsEach Try.prog (Try.f8.params.toList ++ Rows.weakJoinedSpec.plain.varTypes Try.prog) (ds ++ gs)).all (fun x => decide (x ≤ reachBytes)) = true := hsz0
  rw [Try.params8] at hA hval hsz
  obtain ⟨v0, vs0, d0, ds0, p0, q0, hargs, rfl, rfl, h0, r0⟩ := trodAll_cons hA
  obtain ⟨v1, vs1, d1, ds1, p1, q1, rfl, rfl, rfl, h1, r1⟩ := trodAll_cons r0
  obtain ⟨rfl, rfl, rfl⟩ := trodAll_nil r1
  obtain rfl : args = #[v0, v1] := by cases args; simp_all
  obtain ⟨rfl, rfl⟩ := trodVars_none hV
  have k0 := h0
  have lt0 : ∀ x ∈ p0, x.block < W.heap.size := by obtain ⟨m, hm⟩ := k0; exact DataW.trod_lt m _ _ _ hm
  have k1 := h1
  have lt1 : ∀ x ∈ p1, x.block < W.heap.size := by obtain ⟨m, hm⟩ := k1; exact DataW.trod_lt m _ _ _ hm
  have hw1 : ∀ m ∈ d1.weights Try.prog 39, m ≤ reachBytes := fun m hm => by simpa using List.all_eq_true.1 hsz _ (DataW.weights_mem_each (j := 1) (t := 39) rfl rfl m hm)
  obtain ⟨n0, rfl, _, _, wf0⟩ := open_int Try.underlying3 (hval 0 3 v0 rfl rfl) h0
  have hI0 := bounds_i64 wf0
  obtain ⟨es1, hR1, hB1, hL1⟩ := open_ways (okWide_slice Try.underlying39 (hval 1 39 v1 rfl rfl)) h1 hw1
  clear hA0 hval0
  refine (walk n0 v1 es1 W hI0 hR1 hB1 hL1).mono fun e W' ⟨he, bel⟩ => ?_
  subst he
  exact ⟨_, rfl, _, _, _, [], _, [], hW', trodAll_mk1 (shut_bool Try.underlying4 _), (trodAll_cons_mk (Below.trod laidOut (by kernel_rfl) (of_decide_eq_true (by kernel_rfl)) k0 bel lt0) (trodAll_cons_mk (Below.trod laidOut (by kernel_rfl) (of_decide_eq_true (by kernel_rfl)) k1 bel lt1) trodAll_mk0)), rfl, bel.frame _, fun h => by cases h⟩

theorem over : Rows.weakJoinedRow.holds Try.pinned (OpenSpec.ofChange Rows.weakJoinedSpec) :=
  OpenClaim.holds_of_wide 8 Try.f8 rfl rfl rfl rfl rfl rfl rfl ⟨rfl, rfl, rfl, rfl, rfl⟩ rfl rfl rfl rfl rfl (by kernel_rfl) Try.func8 (by kernel_rfl)
    (of_decide_eq_true (by kernel_rfl)) (by unfold Func.isWrapper; first | (rw [if_pos (by decide +kernel)]; kernel_rfl) | (rw [if_neg (by decide +kernel)]; exact ⟨rfl, rfl⟩))
    (fun os started H enc _ => lifted os started H enc)

/-- The statement. -/
theorem proved : Rows.WeakJoinedSaid := over
#print axioms proved
end Go.Proofs.Ytankibadiomkkaa.weakJoined
