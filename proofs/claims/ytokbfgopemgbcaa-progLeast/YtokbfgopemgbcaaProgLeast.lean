/-
  For every kind, value and mail it is enough to hand on the least of the mail, in whatever order it came (the law ProgLeast returns true, and its arguments read as before); no condition.
-/
import Derived.Test.YtokbfgopemgbcaaKeepLeast
import Derived.Test.YtokbfgopemgbcaaIntsOpen
import Derived.WalkKit
import Derived.ProofKit
import Derived.OpenShut
import Derived.ShutString
import Derived.SizedLaws
import Derived.ChangeOld
import Derived.Below
namespace Go.Proofs.Ytokbfgopemgbcaa.progLeast
set_option maxRecDepth 100000
open Go.ChangeShapes Go.WideShapes Go.ChangeAt Go.RowKit

theorem own : ownKnob Try.prog.godebug = none := by kernel_rfl
theorem laidOut : laidOutB Try.prog = true := by kernel_rfl

set_option maxHeartbeats 4000000 in
set_option maxRecDepth 100000 in
theorem walk (n0 : Int) (n1 : Int) (v2 : Value) (ns2 : List Int) (n3 : Int) (w : World) (hI0 : -9223372036854775808 ≤ n0 ∧ n0 ≤ 9223372036854775807) (hI1 : -9223372036854775808 ≤ n1 ∧ n1 ≤ 9223372036854775807) (hR2 : InR w v2 ns2) (hB2 : ∀ x ∈ ns2, i64B x) (hL2 : ns2.length * 8 ≤ 140737488351232) (hI3 : -9223372036854775808 ≤ n3 ∧ n3 ≤ 9223372036854775807) :
    Calls Try.prog 7 #[.int .i64 n0, .int .i64 n1, v2, .int .i64 n3] w fun e w' => e = .returned (.bool true) ∧ Below w.heap.size w w' := by
  have _u := hI0
  clear _u
  have _u := hI1
  clear _u
  have _u := hR2
  clear _u
  have _u := hB2
  clear _u
  have _u := hL2
  clear _u
  have _u := hI3
  clear _u
  have HR : Hid (InR w v2 ns2) := hR2
  have HBD : Hid (∀ x ∈ ns2, i64B x) := hB2
  obtain ⟨va, vc, rfl, hca, hma, _, _⟩ := hR2
  unfold maxLen at hma
  obtain ⟨k0, k1⟩ := hI0
  obtain ⟨o0, o1⟩ := hI1
  obtain ⟨f0, f1⟩ := hI3
  have CK : Hid (∀ X, Calls Try.prog 17 #[.int .i64 n0, .int .i64 2] X fun e w' => e = .returned (.int .i64 (pickF n0 2)) ∧ w' = X) := fun X => picked_any n0 2 X k0 k1 (by decide) (by decide)
  have CO : Hid (∀ X, Calls Try.prog 17 #[.int .i64 n1, .int .i64 21] X fun e w' => e = .returned (.int .i64 (pickF n1 21)) ∧ w' = X) := fun X => picked_any n1 21 X o0 o1 (by decide) (by decide)
  have CF : Hid (∀ X, Calls Try.prog 17 #[.int .i64 n3, .int .i64 20] X fun e w' => e = .returned (.int .i64 (pickF n3 20)) ∧ w' = X) := fun X => picked_any n3 20 X f0 f1 (by decide) (by decide)
  have CV : Hid (∀ X, InR X (.slice va ns2.length vc) ns2 → Calls Try.prog 18 #[.slice va ns2.length vc] X fun e w' => ∃ v', e = .returned v' ∧ w'.ownsRow X.heap.size 3 1 v' (valL ns2).length ((valL ns2).flatMap encI) ∧ Below X.heap.size X w') := fun X hX => values_any _ ns2 X hX HBD.out
  have bk := pickF_bd n0 2 (by decide)
  have bo := pickF_bd n1 21 (by decide)
  have bf := pickF_bd n3 20 (by decide)
  have HML : ∀ y ∈ valL ns2, 0 ≤ y ∧ y < 20 := valL_bd
  have hvl : (valL ns2).length ≤ 10 := valL_len
  generalize pickF n0 2 = pk at *
  generalize pickF n1 21 = po at *
  generalize pickF n3 20 = pf at *
  generalize valL ns2 = f at *
  obtain ⟨kk, hkk⟩ : ∃ kk, 1 + pk = kk := ⟨_, rfl⟩
  obtain ⟨a, haa⟩ : ∃ a, po - 1 = a := ⟨_, rfl⟩
  have wk : IntKind.i64.wrap (1 + pk) = kk := by rw [hkk]; exact wrap_id64 (by omega) (by omega)
  have wa : IntKind.i64.wrap (po - 1) = a := by rw [haa]; exact wrap_id64 (by omega) (by omega)
  obtain ⟨L, hL⟩ : ∃ L, f ++ [pf] = L := ⟨_, rfl⟩
  have HLB : Hid (∀ y ∈ L, 0 ≤ y ∧ y < 20) := fun y hy => by
    rw [← hL] at hy
    rcases List.mem_append.1 hy with h | h
    · exact HML y h
    · simp at h; subst h; exact bf
  have hLL : f.length + 1 = L.length := by rw [← hL]; simp
  have HEQ : Hid (f ++ [pf] = L) := hL
  have HLL : Hid (f.length + 1 = L.length) := hLL
  have hlp : 0 < L.length := by omega
  have hlm : L.length ≤ 11 := by omega
  have HW : Hid (∀ (m : List Int) (s : Int), (∀ y ∈ m, 0 ≤ y ∧ y < 20) → s ∈ m → (∀ z ∈ m, s ≤ z) → ∀ X v, InR X v m → Calls Try.prog 10 #[.int .i64 kk, .int .i64 3, .int .i64 0, .agg #[.int .i64 a, .int .i64 (-1)], .int .i64 0, .bool false, v] X fun e w' => e = .returned (.tuple #[.agg #[.int .i64 (if a < 0 ∨ s < a then s else a), .int .i64 (-1)], .bool (decide (a < 0 ∨ s < a)), .int .i64 0]) ∧ Below X.heap.size X w') := fun m s hm h1 h2 X v hX => by
    have := wake_any kk 3 0 (a, -1) 0 false m v X hX
    rw [wake_low (k := kk) (v := 3) (a := a) (by omega) (by omega) (by omega) hm] at this
    obtain ⟨g1, g2⟩ := low_is (a := a) (by omega) (fun y hy => (hm y hy).1) h1 h2
    by_cases h : a < 0 ∨ s < a
    · rw [g1 h] at this
      rw [if_pos h, decide_eq_true h]
      exact this
    · rw [g2 h] at this
      rw [if_neg h, decide_eq_false h]
      exact this
  have hab : -1 ≤ a := by omega
  clear hkk haa bk bo bf HML k0 k1 o0 o1 f0 f1 hB2 hL2 hL hLL
  go_enter Try.func7, Try.ntmps7
  go_wp2_with fail
  refine (CK.out _).mono ?_
  rintro e w1 ⟨rfl, hw⟩
  replace hw := hw.symm
  subst hw
  go_wp2_with fail
  refine (CO.out _).mono ?_
  rintro e w1 ⟨rfl, hw⟩
  replace hw := hw.symm
  subst hw
  go_upto_region 3 with fail
  have N1 : Hid (BX 23 (w.alloc (.cells #[.int .i64 a, .int .i64 (-1)] 23)) w.heap.size #[.int .i64 a, .int .i64 (-1)]) := BX.new _ _ _
  have A1 : Hid (Below w.heap.size w (w.alloc (.cells #[.int .i64 a, .int .i64 (-1)] 23))) := below_alloc _ _
  generalize w.alloc (.cells #[.int .i64 a, .int .i64 (-1)] 23) = W1 at *
  have HK : Hid (∀ X, Below W1.heap.size W1 X → BX 23 X w.heap.size #[.int .i64 a, .int .i64 (-1)] ∧ Below w.heap.size w X) := fun X hX => ⟨N1.out.below hX N1.out.lt, A1.out.trans (hX.mono A1.out.size)⟩
  have R1 : Hid (InR W1 (.slice va ns2.length vc) ns2) := HR.out.below A1.out (Nat.le_refl _)
  clear CK CO
  go_wp2_with fail
  refine (CV.out _ R1.out).mono ?_
  rintro e w2 ⟨v2, rfl, ho2, hb2⟩
  have A2 : Hid (Below W1.heap.size W1 w2) := hb2
  have O2 : Hid (w2.ownsRow W1.heap.size 3 1 v2 f.length (f.flatMap encI)) := ho2
  have s2 := hb2.size
  clear hb2 ho2 CV R1
  go_wp2_with fail
  refine (CF.out _).mono ?_
  rintro e w3 ⟨rfl, hw⟩
  replace hw := hw.symm
  subst hw
  go_wp2_with (at_builtin; refine wpList_append_newK kI rfl _ _ rfl W1.heap.size _ f rfl (O2.out.alloc _) _ pf rfl #[.int .i64 pf] rfl (0, 0) (heap_alloc_new _ _) (by simp [kI]; omega) (by unfold maxLen; omega) (by simp; omega) ?_)
  intro g gc w4 ho4 hb4 _
  have A4 : Hid (Below W1.heap.size W1 w4) := (A2.out.alloc s2 _).trans hb4
  have O4 : InR w4 (.slice (some ⟨g, 0, none⟩) (f.length + 1) gc) L := by
    rw [← HEQ.out]
    exact RowK.own encI_len (by rw [flat_snoc, List.length_append]; exact ho4)
  rw [HLL.out] at O4 ⊢
  have R4 : Hid (InR w4 (.slice (some ⟨g, 0, none⟩) L.length gc) L) := O4
  obtain ⟨b0, o0, cp, e4, hcp, hmp, _, hc4⟩ := InR.at O4 hlp
  injection e4 with e4 _ e5
  injection e4 with e4
  injection e4 with e4 e6
  subst e4 e5 e6
  unfold maxLen at hmp
  obtain ⟨z, hz⟩ := getX hlp
  have cz := hc4 0 z hz
  rw [Nat.zero_add] at cz
  have HZ : Hid (z ∈ L) := List.mem_of_getElem? hz
  have p00 : (0 : Int) < (L.length : Int) := by omega
  clear hc4 hz ho4 hb4 O4 A2 O2 CF HLL HEQ hvl s2
  go_wp2_with fail
  have hs4 := A4.out.size
  go_loopw [12, 13, 14] (fun u v i wr => ∃ (k : Nat) (s : Int), k ≤ L.length ∧ i = .int .i64 k ∧ u = .int .i64 s ∧ s ∈ L ∧ (∀ y ∈ L.take k, s ≤ y) ∧ wr.ownsRow w4.heap.size 3 1 v (L.take k).reverse.length ((L.take k).reverse.flatMap encI) ∧ Below w4.heap.size w4 wr) (fun _ _ i _ => L.length - (intOf i).toNat)
  case atStart => exact ⟨0, z, by omega, rfl, rfl, HZ.out, by simp, World.ownsRow_nil _ _ _ _, Below.refl _ _⟩
  case round =>
    obtain ⟨k, s, hk, rfl, rfl, hsm, hsl, hown, hbel⟩ := hrel
    have HSM : Hid (s ∈ L) := hsm
    have HSL : Hid (∀ y ∈ L.take k, s ≤ y) := hsl
    have OW : Hid (wr.ownsRow w4.heap.size 3 1 u13 (L.take k).reverse.length ((L.take k).reverse.flatMap encI)) := hown
    have HB : Hid (Below w4.heap.size w4 wr) := hbel
    have hsr := hbel.size
    clear hsm hsl hown hbel cz
    by_cases hlt : k < L.length
    · obtain ⟨xa, oa, cap', e1, _, _, la, hva⟩ := InR.at (R4.out.below HB.out (Nat.le_refl _)) (by omega)
      injection e1 with e1 _ e3
      injection e1 with e1
      injection e1 with e1 e2
      subst e1 e2 e3
      obtain ⟨y, hy⟩ := getX hlt
      have q0 : (0 : Int) ≤ (k : Int) := by omega
      have q1 : (k : Int) < (L.length : Int) := by omega
      have c1 := hva k y hy
      rw [Nat.zero_add] at c1
      have cA : ∀ o : Obj, (wr.alloc o).cell? ⟨g, k, none⟩ = some (.int .i64 y) := fun o => ((below_alloc wr o).cell (p := ⟨g, k, none⟩) la).trans c1
      have HY : Hid (L[k]? = some y) := hy
      have HNM : Hid (min s y ∈ L ∧ ∀ t ∈ L.take (k + 1), min s y ≤ t) := by
        refine ⟨?_, fun t ht => ?_⟩
        · rcases Int.le_total s y with h | h
          · rw [Int.min_eq_left h]; exact HSM.out
          · rw [Int.min_eq_right h]; exact List.mem_of_getElem? HY.out
        · rw [take_snoc HY.out] at ht
          rcases List.mem_append.1 ht with h | h
          · have := HSL.out t h; omega
          · simp at h; subst h; omega
      have hrl : (L.take k).reverse.length ≤ 11 := by simp; omega
      have HRV : Hid ((L.take (k + 1)).reverse = [y] ++ (L.take k).reverse) := by show _ = _; rw [take_snoc HY.out, List.reverse_append]; rfl
      clear hva hy
      generalize (L.take k).reverse = rv at *
      go_wp2_with (at_builtin; refine wpList_append_rowK kI rfl _ _ rfl w4.heap.size _ [y] rfl (own_newI wr w4.heap.size hsr y) u13 rv rfl (RowK.below (RowK.own encI_len OW.out) (below_alloc _ _) (Nat.le_refl _)) (by simp [kI]; omega) (by unfold maxLen; simp; omega) (by simp; omega) ?_)
      intro v' w6 ho6 hb6 _
      have O6 : Hid (w6.ownsRow w4.heap.size 3 1 v' (L.take (k + 1)).reverse.length ((L.take (k + 1)).reverse.flatMap encI)) := by
        show World.ownsRow _ _ _ _ _ _ _
        rw [HRV.out]; exact ho6
      have B6 : Hid (Below w4.heap.size w4 w6) := (HB.out.alloc hsr _).trans hb6
      clear ho6 hb6 c1 cA
      go_wp2_with fail
      go_roundw
      case rel => exact ⟨k + 1, min s y, by omega, by go_num, rfl, HNM.out.1, HNM.out.2, O6.out, B6.out⟩
      case measure => simp [intOf]; omega
    · have ek : L.take k = L := List.take_of_length_le (by omega)
      rw [ek] at OW HSL
      clear ek
      have W1x : Hid (∀ X v, InR X v L → Calls Try.prog 10 #[.int .i64 kk, .int .i64 3, .int .i64 0, .agg #[.int .i64 a, .int .i64 (-1)], .int .i64 0, .bool false, v] X fun e w' => e = .returned (.tuple #[.agg #[.int .i64 (if a < 0 ∨ s < a then s else a), .int .i64 (-1)], .bool (decide (a < 0 ∨ s < a)), .int .i64 0]) ∧ Below X.heap.size X w') := HW.out L s HLB.out HSM.out HSL.out
      have W2x : Hid (∀ X v, InR X v L.reverse → Calls Try.prog 10 #[.int .i64 kk, .int .i64 3, .int .i64 0, .agg #[.int .i64 a, .int .i64 (-1)], .int .i64 0, .bool false, v] X fun e w' => e = .returned (.tuple #[.agg #[.int .i64 (if a < 0 ∨ s < a then s else a), .int .i64 (-1)], .bool (decide (a < 0 ∨ s < a)), .int .i64 0]) ∧ Below X.heap.size X w') := HW.out L.reverse s (fun y hy => HLB.out y (List.mem_reverse.1 hy)) (List.mem_reverse.2 HSM.out) (fun y hy => HSL.out y (List.mem_reverse.1 hy))
      have W3x : Hid (∀ X v, InR X v [s] → Calls Try.prog 10 #[.int .i64 kk, .int .i64 3, .int .i64 0, .agg #[.int .i64 a, .int .i64 (-1)], .int .i64 0, .bool false, v] X fun e w' => e = .returned (.tuple #[.agg #[.int .i64 (if a < 0 ∨ s < a then s else a), .int .i64 (-1)], .bool (decide (a < 0 ∨ s < a)), .int .i64 0]) ∧ Below X.heap.size X w') := HW.out [s] s (fun y hy => HLB.out y (by simp at hy; rw [hy]; exact HSM.out)) (by simp) (fun y hy => by simp at hy; rw [hy]; exact Int.le_refl _)
      have hs0 : 0 ≤ s := (HLB.out s HSM.out).1
      have RR : Hid (InR wr u13 L.reverse) := RowK.own encI_len OW.out
      obtain ⟨ra, rc, rfl⟩ := (RowK.own encI_len OW.out : InR wr u13 L.reverse).shape
      have RL : Hid (InR wr (.slice (some ⟨g, 0, none⟩) L.length gc) L) := R4.out.below HB.out (Nat.le_refl _)
      have AR : Hid (Below W1.heap.size W1 wr) := A4.out.trans (HB.out.mono hs4)
      clear HW OW HSM HSL HLB HZ HB hsr
      generalize L.reverse = rl at *
      obtain ⟨Q7, B7⟩ := HK.out _ AR.out
      obtain ⟨x0, x1, _⟩ := Q7.all2
      clear Q7 B7
      by_cases e1 : a < 0
      · have hD : a < 0 ∨ s < a := .inl e1
        rw [if_pos hD, decide_eq_true hD] at W1x W2x W3x
        clear hD
        have fa : (s == s) = true := by simp
        have fb : (s != a) = true := by simp only [bne_iff_ne]; omega
        go_wp2_with fail
        refine (W1x.out _ _ RL.out).mono ?_
        rintro e w7 ⟨rfl, hb7⟩
        have A7 : Hid (Below W1.heap.size W1 w7) := AR.out.trans (hb7.mono AR.out.size)
        have R7 : Hid (InR w7 (.slice ra rl.length rc) rl) := RR.out.below hb7 (Nat.le_refl _)
        clear hb7 x0 x1 RL RR AR W1x
        go_upto_region 15 with fail
        have N8 : Hid (BX 23 (w7.alloc (.cells #[.int .i64 s, .int .i64 (-1)] 23)) w7.heap.size #[.int .i64 s, .int .i64 (-1)]) := BX.new _ _ _
        have A8 : Hid (Below W1.heap.size W1 (w7.alloc (.cells #[.int .i64 s, .int .i64 (-1)] 23))) := A7.out.alloc A7.out.size _
        have R8 : Hid (InR (w7.alloc (.cells #[.int .i64 s, .int .i64 (-1)] 23)) (.slice ra rl.length rc) rl) := R7.out.below (below_alloc _ _) (Nat.le_refl _)
        generalize w7.alloc (.cells #[.int .i64 s, .int .i64 (-1)] 23) = W8 at *
        generalize w7.heap.size = q8 at *
        obtain ⟨Q8, _⟩ := HK.out _ A8.out
        obtain ⟨x0, x1, _⟩ := Q8.all2
        clear Q8 A7 R7
        go_wp2_with fail
        refine (W2x.out _ _ R8.out).mono ?_
        rintro e w9 ⟨rfl, hb9⟩
        have A9 : Hid (Below W1.heap.size W1 w9) := A8.out.trans (hb9.mono A8.out.size)
        have N9 : Hid (BX 23 w9 q8 #[.int .i64 s, .int .i64 (-1)]) := N8.out.below hb9 N8.out.lt
        clear hb9 x0 x1 R8 A8 N8 W2x
        go_upto_region 16 with fail
        have M10 : Hid (BX 23 (w9.alloc (.cells #[.int .i64 s, .int .i64 (-1)] 23)) w9.heap.size #[.int .i64 s, .int .i64 (-1)]) := BX.new _ _ _
        have N10 : Hid (BX 23 (w9.alloc (.cells #[.int .i64 s, .int .i64 (-1)] 23)) q8 #[.int .i64 s, .int .i64 (-1)]) := N9.out.below (below_alloc _ _) N9.out.lt
        have A10 : Hid (Below W1.heap.size W1 (w9.alloc (.cells #[.int .i64 s, .int .i64 (-1)] 23))) := A9.out.alloc A9.out.size _
        generalize w9.alloc (.cells #[.int .i64 s, .int .i64 (-1)] 23) = W10 at *
        generalize w9.heap.size = q10 at *
        obtain ⟨Q10, _⟩ := HK.out _ A10.out
        obtain ⟨x0, x1, _⟩ := Q10.all2
        have xA : ∀ o : Obj, (W10.alloc o).cell? ⟨w.heap.size, 0, none⟩ = some (.int .i64 a) ∧ (W10.alloc o).cell? ⟨w.heap.size, 1, none⟩ = some (.int .i64 (-1)) := fun o => by obtain ⟨c0, c1, _⟩ := (Q10.below (below_alloc W10 o) Q10.lt).all2; exact ⟨c0, c1⟩
        have R11 : Hid (InR (W10.alloc (.cells #[.int .i64 s] 3)) (.slice (some ⟨W10.heap.size, 0, none⟩) 1 1) [s]) := RowK.own encI_len (own_newI W10 W10.heap.size (Nat.le_refl _) s)
        clear Q10 A9 N9
        go_wp2_with fail
        refine (W3x.out _ _ R11.out).mono ?_
        rintro e w12 ⟨rfl, hb12⟩
        have b12 : Below W10.heap.size W10 w12 := (below_alloc _ _).trans (hb12.mono (by simp))
        have A12 : Hid (Below W1.heap.size W1 w12) := A10.out.trans (b12.mono A10.out.size)
        have M12 : Hid (BX 23 w12 q10 #[.int .i64 s, .int .i64 (-1)]) := M10.out.below b12 M10.out.lt
        have N12 : Hid (BX 23 w12 q8 #[.int .i64 s, .int .i64 (-1)]) := N10.out.below b12 N10.out.lt
        clear hb12 b12 x0 x1 xA R11 M10 N10 A10 W3x
        go_upto_region 17 with fail
        have P13 := BX.new 23 w12 #[.int .i64 s, .int .i64 (-1)]
        have M13 := M12.out.below (below_alloc w12 (.cells #[.int .i64 s, .int .i64 (-1)] 23)) M12.out.lt
        have N13 := N12.out.below (below_alloc w12 (.cells #[.int .i64 s, .int .i64 (-1)] 23)) N12.out.lt
        have A13 : Below W1.heap.size W1 (w12.alloc (.cells #[.int .i64 s, .int .i64 (-1)] 23)) := A12.out.alloc A12.out.size _
        generalize w12.alloc (.cells #[.int .i64 s, .int .i64 (-1)] 23) = W13 at *
        generalize w12.heap.size = q12 at *
        obtain ⟨Q13, b13⟩ := HK.out _ A13
        have B13 : Hid (Below w.heap.size w W13) := b13
        obtain ⟨x0, x1, _⟩ := Q13.all2
        obtain ⟨c0, c1, _⟩ := N13.all2
        obtain ⟨d0, d1, _⟩ := M13.all2
        obtain ⟨e0, e1, _⟩ := P13.all2
        clear Q13 b13 P13 M13 N13 A13 A12 M12 N12
        go_wp2_with fail
        go_ret
        exact ⟨rfl, B13.out⟩
      · by_cases e2 : s < a
        · have hD : a < 0 ∨ s < a := .inr e2
          rw [if_pos hD, decide_eq_true hD] at W1x W2x W3x
          clear hD
          have fa : (s == s) = true := by simp
          have fb : (s != a) = true := by simp only [bne_iff_ne]; omega
          go_wp2_with fail
          refine (W1x.out _ _ RL.out).mono ?_
          rintro e w7 ⟨rfl, hb7⟩
          have A7 : Hid (Below W1.heap.size W1 w7) := AR.out.trans (hb7.mono AR.out.size)
          have R7 : Hid (InR w7 (.slice ra rl.length rc) rl) := RR.out.below hb7 (Nat.le_refl _)
          clear hb7 x0 x1 RL RR AR W1x
          go_upto_region 15 with fail
          have N8 : Hid (BX 23 (w7.alloc (.cells #[.int .i64 s, .int .i64 (-1)] 23)) w7.heap.size #[.int .i64 s, .int .i64 (-1)]) := BX.new _ _ _
          have A8 : Hid (Below W1.heap.size W1 (w7.alloc (.cells #[.int .i64 s, .int .i64 (-1)] 23))) := A7.out.alloc A7.out.size _
          have R8 : Hid (InR (w7.alloc (.cells #[.int .i64 s, .int .i64 (-1)] 23)) (.slice ra rl.length rc) rl) := R7.out.below (below_alloc _ _) (Nat.le_refl _)
          generalize w7.alloc (.cells #[.int .i64 s, .int .i64 (-1)] 23) = W8 at *
          generalize w7.heap.size = q8 at *
          obtain ⟨Q8, _⟩ := HK.out _ A8.out
          obtain ⟨x0, x1, _⟩ := Q8.all2
          clear Q8 A7 R7
          go_wp2_with fail
          refine (W2x.out _ _ R8.out).mono ?_
          rintro e w9 ⟨rfl, hb9⟩
          have A9 : Hid (Below W1.heap.size W1 w9) := A8.out.trans (hb9.mono A8.out.size)
          have N9 : Hid (BX 23 w9 q8 #[.int .i64 s, .int .i64 (-1)]) := N8.out.below hb9 N8.out.lt
          clear hb9 x0 x1 R8 A8 N8 W2x
          go_upto_region 16 with fail
          have M10 : Hid (BX 23 (w9.alloc (.cells #[.int .i64 s, .int .i64 (-1)] 23)) w9.heap.size #[.int .i64 s, .int .i64 (-1)]) := BX.new _ _ _
          have N10 : Hid (BX 23 (w9.alloc (.cells #[.int .i64 s, .int .i64 (-1)] 23)) q8 #[.int .i64 s, .int .i64 (-1)]) := N9.out.below (below_alloc _ _) N9.out.lt
          have A10 : Hid (Below W1.heap.size W1 (w9.alloc (.cells #[.int .i64 s, .int .i64 (-1)] 23))) := A9.out.alloc A9.out.size _
          generalize w9.alloc (.cells #[.int .i64 s, .int .i64 (-1)] 23) = W10 at *
          generalize w9.heap.size = q10 at *
          obtain ⟨Q10, _⟩ := HK.out _ A10.out
          obtain ⟨x0, x1, _⟩ := Q10.all2
          have xA : ∀ o : Obj, (W10.alloc o).cell? ⟨w.heap.size, 0, none⟩ = some (.int .i64 a) ∧ (W10.alloc o).cell? ⟨w.heap.size, 1, none⟩ = some (.int .i64 (-1)) := fun o => by obtain ⟨c0, c1, _⟩ := (Q10.below (below_alloc W10 o) Q10.lt).all2; exact ⟨c0, c1⟩
          have R11 : Hid (InR (W10.alloc (.cells #[.int .i64 s] 3)) (.slice (some ⟨W10.heap.size, 0, none⟩) 1 1) [s]) := RowK.own encI_len (own_newI W10 W10.heap.size (Nat.le_refl _) s)
          clear Q10 A9 N9
          go_wp2_with fail
          refine (W3x.out _ _ R11.out).mono ?_
          rintro e w12 ⟨rfl, hb12⟩
          have b12 : Below W10.heap.size W10 w12 := (below_alloc _ _).trans (hb12.mono (by simp))
          have A12 : Hid (Below W1.heap.size W1 w12) := A10.out.trans (b12.mono A10.out.size)
          have M12 : Hid (BX 23 w12 q10 #[.int .i64 s, .int .i64 (-1)]) := M10.out.below b12 M10.out.lt
          have N12 : Hid (BX 23 w12 q8 #[.int .i64 s, .int .i64 (-1)]) := N10.out.below b12 N10.out.lt
          clear hb12 b12 x0 x1 xA R11 M10 N10 A10 W3x
          go_upto_region 17 with fail
          have P13 := BX.new 23 w12 #[.int .i64 s, .int .i64 (-1)]
          have M13 := M12.out.below (below_alloc w12 (.cells #[.int .i64 s, .int .i64 (-1)] 23)) M12.out.lt
          have N13 := N12.out.below (below_alloc w12 (.cells #[.int .i64 s, .int .i64 (-1)] 23)) N12.out.lt
          have A13 : Below W1.heap.size W1 (w12.alloc (.cells #[.int .i64 s, .int .i64 (-1)] 23)) := A12.out.alloc A12.out.size _
          generalize w12.alloc (.cells #[.int .i64 s, .int .i64 (-1)] 23) = W13 at *
          generalize w12.heap.size = q12 at *
          obtain ⟨Q13, b13⟩ := HK.out _ A13
          have B13 : Hid (Below w.heap.size w W13) := b13
          obtain ⟨x0, x1, _⟩ := Q13.all2
          obtain ⟨c0, c1, _⟩ := N13.all2
          obtain ⟨d0, d1, _⟩ := M13.all2
          obtain ⟨e0, e1, _⟩ := P13.all2
          clear Q13 b13 P13 M13 N13 A13 A12 M12 N12
          go_wp2_with fail
          go_ret
          exact ⟨rfl, B13.out⟩
        · have hD : ¬ (a < 0 ∨ s < a) := fun h => by rcases h with h | h; exact e1 h; exact e2 h
          rw [if_neg hD, decide_eq_false hD] at W1x W2x W3x
          clear hD
          have fa : (a == a) = true := by simp
          have fb : (a != a) = false := by simp
          go_wp2_with fail
          refine (W1x.out _ _ RL.out).mono ?_
          rintro e w7 ⟨rfl, hb7⟩
          have A7 : Hid (Below W1.heap.size W1 w7) := AR.out.trans (hb7.mono AR.out.size)
          have R7 : Hid (InR w7 (.slice ra rl.length rc) rl) := RR.out.below hb7 (Nat.le_refl _)
          clear hb7 x0 x1 RL RR AR W1x
          go_upto_region 15 with fail
          have N8 : Hid (BX 23 (w7.alloc (.cells #[.int .i64 a, .int .i64 (-1)] 23)) w7.heap.size #[.int .i64 a, .int .i64 (-1)]) := BX.new _ _ _
          have A8 : Hid (Below W1.heap.size W1 (w7.alloc (.cells #[.int .i64 a, .int .i64 (-1)] 23))) := A7.out.alloc A7.out.size _
          have R8 : Hid (InR (w7.alloc (.cells #[.int .i64 a, .int .i64 (-1)] 23)) (.slice ra rl.length rc) rl) := R7.out.below (below_alloc _ _) (Nat.le_refl _)
          generalize w7.alloc (.cells #[.int .i64 a, .int .i64 (-1)] 23) = W8 at *
          generalize w7.heap.size = q8 at *
          obtain ⟨Q8, _⟩ := HK.out _ A8.out
          obtain ⟨x0, x1, _⟩ := Q8.all2
          clear Q8 A7 R7
          go_wp2_with fail
          refine (W2x.out _ _ R8.out).mono ?_
          rintro e w9 ⟨rfl, hb9⟩
          have A9 : Hid (Below W1.heap.size W1 w9) := A8.out.trans (hb9.mono A8.out.size)
          have N9 : Hid (BX 23 w9 q8 #[.int .i64 a, .int .i64 (-1)]) := N8.out.below hb9 N8.out.lt
          clear hb9 x0 x1 R8 A8 N8 W2x
          go_upto_region 16 with fail
          have M10 : Hid (BX 23 (w9.alloc (.cells #[.int .i64 a, .int .i64 (-1)] 23)) w9.heap.size #[.int .i64 a, .int .i64 (-1)]) := BX.new _ _ _
          have N10 : Hid (BX 23 (w9.alloc (.cells #[.int .i64 a, .int .i64 (-1)] 23)) q8 #[.int .i64 a, .int .i64 (-1)]) := N9.out.below (below_alloc _ _) N9.out.lt
          have A10 : Hid (Below W1.heap.size W1 (w9.alloc (.cells #[.int .i64 a, .int .i64 (-1)] 23))) := A9.out.alloc A9.out.size _
          generalize w9.alloc (.cells #[.int .i64 a, .int .i64 (-1)] 23) = W10 at *
          generalize w9.heap.size = q10 at *
          obtain ⟨Q10, _⟩ := HK.out _ A10.out
          obtain ⟨x0, x1, _⟩ := Q10.all2
          have xA : ∀ o : Obj, (W10.alloc o).cell? ⟨w.heap.size, 0, none⟩ = some (.int .i64 a) ∧ (W10.alloc o).cell? ⟨w.heap.size, 1, none⟩ = some (.int .i64 (-1)) := fun o => by obtain ⟨c0, c1, _⟩ := (Q10.below (below_alloc W10 o) Q10.lt).all2; exact ⟨c0, c1⟩
          have R11 : Hid (InR (W10.alloc (.cells #[.int .i64 s] 3)) (.slice (some ⟨W10.heap.size, 0, none⟩) 1 1) [s]) := RowK.own encI_len (own_newI W10 W10.heap.size (Nat.le_refl _) s)
          clear Q10 A9 N9
          go_wp2_with fail
          refine (W3x.out _ _ R11.out).mono ?_
          rintro e w12 ⟨rfl, hb12⟩
          have b12 : Below W10.heap.size W10 w12 := (below_alloc _ _).trans (hb12.mono (by simp))
          have A12 : Hid (Below W1.heap.size W1 w12) := A10.out.trans (b12.mono A10.out.size)
          have M12 : Hid (BX 23 w12 q10 #[.int .i64 a, .int .i64 (-1)]) := M10.out.below b12 M10.out.lt
          have N12 : Hid (BX 23 w12 q8 #[.int .i64 a, .int .i64 (-1)]) := N10.out.below b12 N10.out.lt
          clear hb12 b12 x0 x1 xA R11 M10 N10 A10 W3x
          go_upto_region 17 with fail
          have P13 := BX.new 23 w12 #[.int .i64 a, .int .i64 (-1)]
          have M13 := M12.out.below (below_alloc w12 (.cells #[.int .i64 a, .int .i64 (-1)] 23)) M12.out.lt
          have N13 := N12.out.below (below_alloc w12 (.cells #[.int .i64 a, .int .i64 (-1)] 23)) N12.out.lt
          have A13 : Below W1.heap.size W1 (w12.alloc (.cells #[.int .i64 a, .int .i64 (-1)] 23)) := A12.out.alloc A12.out.size _
          generalize w12.alloc (.cells #[.int .i64 a, .int .i64 (-1)] 23) = W13 at *
          generalize w12.heap.size = q12 at *
          obtain ⟨Q13, b13⟩ := HK.out _ A13
          have B13 : Hid (Below w.heap.size w W13) := b13
          obtain ⟨x0, x1, _⟩ := Q13.all2
          obtain ⟨c0, c1, _⟩ := N13.all2
          obtain ⟨d0, d1, _⟩ := M13.all2
          obtain ⟨e0, e1, _⟩ := P13.all2
          clear Q13 b13 P13 M13 N13 A13 A12 M12 N12
          go_wp2_with fail
          go_ret
          exact ⟨rfl, B13.out⟩

set_option maxHeartbeats 400000 in
set_option maxRecDepth 100000 in
theorem lifted (os : Os) (started : os.Started) (H : Type) (enc : TypeId × Value → H) :
    ReturnsInHanded {} Try.checked os 7 .any (Rows.progLeastSpec.pre6 enc Try.prog Try.f7 Rows.progLeastRow.domain false) (Rows.progLeastSpec.post enc Try.prog Try.f7 false true false false) := by
  refine returnsInHanded_of_change_sized (C := Try.checked) own started (by kernel_rfl) Try.func7
    (ChangeSpec.witness6 (enc := enc) (C := Try.checked) false ⟨#[], #[.int .i64 0, .int .i64 0, .slice none 0 0, .int .i64 0], []⟩ 8 (by kernel_rfl) (by kernel_rfl) (by kernel_rfl) (by kernel_rfl)) ?_
  intro W base args ds gs before hval0 hW _ hsz0 _
  have hval : ∀ (j : Nat) t v, Try.f7.params[j]? = some t → args[j]? = some v → Value.okWide Try.prog W .any base t v := hval0
  have hW' := hW
  obtain ⟨p, q, hA0, hV, rfl, hfz, hnd⟩ := hW
  have hA : DataW.TrodAll enc Try.prog W 0 (fun _ => true) true Try.f7.params.toList args.toList ds p := hA0
  have hsz : (DataW.weightsEach Try.prog (Try.f7.params.toList ++ Rows.progLeastSpec.plain.varTypes Try.prog) (ds ++ gs)).all (fun x => decide (x ≤ reachBytes)) = true := hsz0
  rw [Try.params7] at hA hval hsz
  obtain ⟨v0, vs0, d0, ds0, p0, q0, hargs, rfl, rfl, h0, r0⟩ := trodAll_cons hA
  obtain ⟨v1, vs1, d1, ds1, p1, q1, rfl, rfl, rfl, h1, r1⟩ := trodAll_cons r0
  obtain ⟨v2, vs2, d2, ds2, p2, q2, rfl, rfl, rfl, h2, r2⟩ := trodAll_cons r1
  obtain ⟨v3, vs3, d3, ds3, p3, q3, rfl, rfl, rfl, h3, r3⟩ := trodAll_cons r2
  obtain ⟨rfl, rfl, rfl⟩ := trodAll_nil r3
  obtain rfl : args = #[v0, v1, v2, v3] := by cases args; simp_all
  obtain ⟨rfl, rfl⟩ := trodVars_none hV
  have k0 := h0
  have lt0 : ∀ x ∈ p0, x.block < W.heap.size := by obtain ⟨m, hm⟩ := k0; exact DataW.trod_lt m _ _ _ hm
  have k1 := h1
  have lt1 : ∀ x ∈ p1, x.block < W.heap.size := by obtain ⟨m, hm⟩ := k1; exact DataW.trod_lt m _ _ _ hm
  have k2 := h2
  have lt2 : ∀ x ∈ p2, x.block < W.heap.size := by obtain ⟨m, hm⟩ := k2; exact DataW.trod_lt m _ _ _ hm
  have hw2 : ∀ m ∈ d2.weights Try.prog 24, m ≤ reachBytes := fun m hm => by simpa using List.all_eq_true.1 hsz _ (DataW.weights_mem_each (j := 2) (t := 24) rfl rfl m hm)
  have k3 := h3
  have lt3 : ∀ x ∈ p3, x.block < W.heap.size := by obtain ⟨m, hm⟩ := k3; exact DataW.trod_lt m _ _ _ hm
  obtain ⟨n0, rfl, _, _, wf0⟩ := open_int Try.underlying3 (hval 0 3 v0 rfl rfl) h0
  have hI0 := bounds_i64 wf0
  obtain ⟨n1, rfl, _, _, wf1⟩ := open_int Try.underlying3 (hval 1 3 v1 rfl rfl) h1
  have hI1 := bounds_i64 wf1
  obtain ⟨ns2, hR2, hB2, hL2⟩ := open_intsR (okWide_slice Try.underlying24 (hval 2 24 v2 rfl rfl)) h2 hw2
  obtain ⟨n3, rfl, _, _, wf3⟩ := open_int Try.underlying3 (hval 3 3 v3 rfl rfl) h3
  have hI3 := bounds_i64 wf3
  clear hA0 hval0
  refine (walk n0 n1 v2 ns2 n3 W hI0 hI1 hR2 hB2 hL2 hI3).mono fun e W' ⟨he, bel⟩ => ?_
  subst he
  exact ⟨_, rfl, _, _, _, [], _, [], hW', trodAll_mk1 (shut_bool Try.underlying4 _), (trodAll_cons_mk (Below.trod laidOut (by kernel_rfl) (of_decide_eq_true (by kernel_rfl)) k0 bel lt0) (trodAll_cons_mk (Below.trod laidOut (by kernel_rfl) (of_decide_eq_true (by kernel_rfl)) k1 bel lt1) (trodAll_cons_mk (Below.trod laidOut (by kernel_rfl) (of_decide_eq_true (by kernel_rfl)) k2 bel lt2) (trodAll_cons_mk (Below.trod laidOut (by kernel_rfl) (of_decide_eq_true (by kernel_rfl)) k3 bel lt3) trodAll_mk0)))), rfl, bel.frame _, fun h => by cases h⟩

theorem over : Rows.progLeastRow.holds Try.pinned (OpenSpec.ofChange Rows.progLeastSpec) :=
  OpenClaim.holds_of_wide 7 Try.f7 rfl rfl rfl rfl rfl rfl rfl ⟨rfl, rfl, rfl, rfl, rfl⟩ rfl rfl rfl rfl rfl (by kernel_rfl) Try.func7 (by kernel_rfl)
    (of_decide_eq_true (by kernel_rfl)) (by unfold Func.isWrapper; first | (rw [if_pos (by decide +kernel)]; kernel_rfl) | (rw [if_neg (by decide +kernel)]; exact ⟨rfl, rfl⟩))
    (fun os started H enc _ => lifted os started H enc)

/-- The statement. -/
theorem proved : Rows.ProgLeastSaid := over
#print axioms proved
end Go.Proofs.Ytokbfgopemgbcaa.progLeast
