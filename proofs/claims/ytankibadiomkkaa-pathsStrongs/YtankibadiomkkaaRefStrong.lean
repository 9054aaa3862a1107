/-
  Contract of the document's own StrongOf.
-/
import Derived.Test.YtankibadiomkkaaRefReach
import Derived.Test.YtankibadiomkkaaStrongMath
import Derived.Test.YtankibadiomkkaaBoolLists
import Derived.Test.YtankibadiomkkaaIntRow
namespace Go.Proofs.Ytankibadiomkkaa
set_option maxRecDepth 100000
open Go.ChangeShapes Go.WideShapes Go.ChangeAt Go.RowKit

/-- What each of the first k vertices reaches. -/
def allR (n : Nat) (es : List Ed) (k : Nat) : List (List Bool) := (List.range k).map fun v : Nat => reachF n es v
theorem allR_next (n : Nat) (es : List Ed) (k : Nat) : allR n es (k + 1) = allR n es k ++ [reachF n es k] := by simp [allR, List.range_succ]
theorem allR_len (n : Nat) (es : List Ed) (k : Nat) : (allR n es k).length = k := by simp [allR]
theorem allR_at {n : Nat} {es : List Ed} {k v : Nat} (h : v < k) : (allR n es k)[v]? = some (reachF n es v) := by
  unfold allR
  rw [List.getElem?_map, List.getElem?_range h]
  rfl
def strT (n : Nat) (es : List Ed) (k : Nat) : List Int := (List.range k).map fun v : Nat => (strongV n es v : Int)
theorem strT_next (n : Nat) (es : List Ed) (k : Nat) : strT n es (k + 1) = strT n es k ++ [(strongV n es k : Int)] := by simp [strT, List.range_succ]
theorem strT_len (n : Nat) (es : List Ed) (k : Nat) : (strT n es k).length = k := by simp [strT]

set_option maxHeartbeats 4000000 in
set_option maxRecDepth 100000 in
theorem strongOf_any (v : Value) (es : List Ed) (n : Int) (w : World) (h : EdR w v es) :
    Calls Try.prog 20 #[.agg #[.int .i64 n, v]] w (NumP w (faultE n es) (strongF n.toNat es)) := by
  have HR : Hid (EdR w v es) := h
  obtain ⟨a, cap, rfl, hca, hma, _, _⟩ := h
  unfold maxLen at hma
  have HCK : Hid (∀ X, EdR X (.slice a es.length cap) es → Calls Try.prog 26 #[.agg #[.int .i64 n, .slice a es.length cap]] X fun e w' => e = .returned (.int .i64 (faultE n es)) ∧ Below X.heap.size X w') := fun X hX => fault_walk _ es n X hX
  obtain ⟨W0, hW0⟩ : ∃ W0, W0 = w.alloc (.cells #[.int .i64 n, .slice a es.length cap] 24) := ⟨_, rfl⟩
  have Q0 : BX 24 W0 w.heap.size #[.int .i64 n, .slice a es.length cap] := by rw [hW0]; exact BX.new _ _ _
  have BH : Hid (Below w.heap.size w W0) := by show Below _ _ _; rw [hW0]; exact below_alloc _ _
  have s1 : w.heap.size + 1 ≤ W0.heap.size := by rw [hW0]; simp
  have HK : Hid (∀ X, Below W0.heap.size W0 X → BX 24 X w.heap.size #[.int .i64 n, .slice a es.length cap] ∧ Below w.heap.size w X ∧ EdR X (.slice a es.length cap) es) := fun X hX => ⟨Q0.below hX (by omega), BH.out.trans (hX.mono (by omega)), HR.out.below (BH.out.trans (hX.mono (by omega))) (Nat.le_refl _)⟩
  have R0 : Hid (EdR W0 (.slice a es.length cap) es) := HR.out.below BH.out (Nat.le_refl _)
  obtain ⟨q0, q1, _⟩ := Q0.all2
  clear Q0
  by_cases hf : faultE n es = 0
  · obtain ⟨hn0, hn1, hle, hgd⟩ := fault_ok hf
    rw [hf] at HCK ⊢
    obtain ⟨m, rfl⟩ : ∃ m : Nat, n = m := ⟨n.toNat, by omega⟩
    rw [Int.toNat_natCast]
    have HG : Hid (InG m es) := in_fault hf
    have HP : Hid (∀ v (w' : World), w'.ownsRow w.heap.size 3 1 v (strongF m es).length ((strongF m es).flatMap encI) → Below w.heap.size w w' → NumP w 0 (strongF m es) (.returned (.tuple #[v, .int .i64 0])) w') := fun v w' h1 h2 => NumP.yes h1 h2
    have HRC : Hid (∀ (k : Nat), k < m → ∀ X, EdR X (.slice a es.length cap) es → Calls Try.prog 17 #[.agg #[.int .i64 m, .slice a es.length cap], .int .i64 k] X fun e w' => ∃ v', e = .returned (.tuple #[v', .int .i64 0]) ∧ w'.ownsRow X.heap.size 4 1 v' (reachF m es k).length ((reachF m es k).flatMap encT) ∧ Below X.heap.size X w') := fun k hk X hX => by
      have := reachOf_any (.slice a es.length cap) es m k X hX
      rw [errV_ok hf ⟨by omega, by omega⟩, Int.toNat_natCast] at this
      exact this
    generalize NumP w 0 (strongF m es) = P at *
    clear hf hgd
    go_enter Try.func20, Try.ntmps20
    go_upto_region 1 with fail
    rw [← hW0]
    clear hW0
    go_wp2_with fail
    refine (HCK.out _ R0.out).mono ?_
    rintro e w1 ⟨rfl, hb1⟩
    have A1 : Hid (Below W0.heap.size W0 w1) := hb1
    have L1 : W0.heap.size ≤ w1.heap.size := hb1.size
    clear hb1 q0 q1 HCK
    go_wp2_with fail
    go_loopw [5, 6, 7, 8] (fun u i _ _ wr => ∃ k : Nat, k ≤ m ∧ i = .int .i64 k ∧ OwnLb wr W0.heap.size u (allR m es k) ∧ Below W0.heap.size W0 wr) (fun _ i _ _ _ => m - (intOf i).toNat)
    case atStart => exact ⟨0, by omega, rfl, OwnLb.nil _ _, A1.out⟩
    case round =>
      obtain ⟨k, hk, rfl, hown, hbel⟩ := hrel
      have OW : Hid (OwnLb wr W0.heap.size u5 (allR m es k)) := hown
      have AB : Hid (Below W0.heap.size W0 wr) := hbel
      have hsr := hbel.size
      obtain ⟨Q5, _, R5⟩ := HK.out _ hbel
      have RE : Hid (EdR wr (.slice a es.length cap) es) := R5
      obtain ⟨q0, q1, _⟩ := Q5.all2
      clear hown hbel Q5 R5
      by_cases hlt : k < m
      · have HNX : Hid (allR m es (k + 1) = allR m es k ++ [reachF m es k]) := allR_next m es k
        have hlen : (allR m es k).length ≤ 200 := by rw [allR_len]; omega
        have htl : (allR m es k).length = k := allR_len m es k
        have CR : Hid (∀ X, EdR X (.slice a es.length cap) es → Calls Try.prog 17 #[.agg #[.int .i64 m, .slice a es.length cap], .int .i64 k] X fun e w' => ∃ v', e = .returned (.tuple #[v', .int .i64 0]) ∧ w'.ownsRow X.heap.size 4 1 v' (reachF m es k).length ((reachF m es k).flatMap encT) ∧ Below X.heap.size X w') := HRC.out k hlt
        generalize allR m es k = f at *
        generalize reachF m es k = rk at *
        go_wp2_with fail
        refine (CR.out _ RE.out).mono ?_
        rintro e w2 ⟨v2, rfl, ho2, hb2⟩
        have O2 : Hid (w2.ownsRow W0.heap.size 4 1 v2 rk.length (rk.flatMap encT)) := own_lower ho2 hsr
        have OL : Hid (OwnLb w2 W0.heap.size u5 f) := OW.out.kept (Kept.of (S := fun _ => False) hb2) (fun _ _ h => h)
        have A2 : Hid (Below W0.heap.size W0 w2) := AB.out.trans (hb2.mono hsr)
        have hs2 := A2.out.size
        clear ho2 hb2 q0 q1
        obtain ⟨va, vn, vc, rfl⟩ : ∃ a n c, v2 = .slice a n c := by obtain ⟨a, c, e, _⟩ := BlR.ownd O2.out; exact ⟨_, _, _, e⟩
        go_wp2_with (at_builtin; refine wpList_append_lb rfl _ _ rfl W0.heap.size _ f rfl (OL.out.kept (Kept.of (S := fun _ => False) (below_alloc w2 _)) (fun _ _ h => h)) w2.heap.size (.slice va vn vc) rk rfl (0, 0) (heap_alloc_new _ _) (O2.out.alloc _) ?d1 ?d2 ?_)
        case d1 => omega
        case d2 => simp; omega
        intro g c w3 hown3 hg3 hl3
        have O3 : Hid (OwnLb w3 W0.heap.size (.slice (some ⟨g, 0, none⟩) (k + 1) c) (allR m es (k + 1))) := by
          show OwnLb _ _ _ _
          rw [HNX.out]; exact hown3
        have B3 : Hid (Below W0.heap.size W0 w3) := ((A2.out.alloc hs2 _)).grown hg3 (by simp; omega) (fun j hj => by
          obtain ⟨vs, hrow⟩ := OL.out.row
          exact (own_geB hrow hj).1)
        clear hown3 hg3 hl3
        go_wp2_with fail
        go_roundw
        case rel => exact ⟨k + 1, by omega, by go_num, O3.out, B3.out⟩
        case measure => simp [intOf]; omega
      · have ek : k = m := by omega
        subst ek
        have LR : Hid (LbR wr u5 (allR k es k)) := OW.out.reads
        have HFL : Hid ((allR k es k).length = k) := allR_len k es k
        obtain ⟨ra, rc, hu5⟩ : ∃ a c, u5 = .slice a k c := by
          obtain ⟨a, c, e, _⟩ := OW.out.reads
          rw [HFL.out] at e
          exact ⟨a, c, e⟩
        subst hu5
        have HAT : Hid (∀ X, Below wr.heap.size wr X → 0 < k → ∃ b off, ra = some ⟨b, off, none⟩ ∧ ∀ j : Nat, j < k → ∃ sb so sc, X.cell? ⟨b, off + j, none⟩ = some (.slice (some ⟨sb, so, none⟩) k sc) ∧ k ≤ sc ∧ sc ≤ maxLen ∧ ∀ i : Nat, i < k → X.cell? ⟨sb, so + i, none⟩ = some (.bool (atB (reachF k es j) (i : Int)))) := fun X hX hk0 => by
          obtain ⟨b, off, cp, e, _, _, _, hv⟩ := (LR.out.below hX (Nat.le_refl _)).at (by rw [HFL.out]; exact hk0)
          injection e with e _ _
          refine ⟨b, off, e, fun j hj => ?_⟩
          obtain ⟨u, hu, hr⟩ := hv j _ (allR_at hj)
          have hrl : (reachF k es j).length = k := (reach_ok HG.out ⟨by omega, by omega⟩).1
          obtain ⟨sb, so, sc, e2, h1, h2, _, hc⟩ := BlR.at hr (by rw [hrl]; exact hk0)
          rw [hrl] at e2 h1
          subst e2
          refine ⟨sb, so, sc, hu, h1, h2, fun i hi => ?_⟩
          obtain ⟨x, hx⟩ := getX (es := reachF k es j) (i := i) (by omega)
          rw [atB_at hx]
          exact hc i x hx
        have HVV : Hid (∀ t : Nat, t < k → mutB k es t t = true) := fun t ht => (mutB_iff HG.out ht ht).2 ⟨Rch.refl _ _, Rch.refl _ _⟩
        have hwr := AB.out.size
        obtain ⟨cpx, hcpx, hcmx⟩ : ∃ c, c = rc ∧ k ≤ rc := by
          obtain ⟨a', c', e, h1, _⟩ := LR.out
          injection e with _ _ e3
          exact ⟨rc, rfl, by rw [HFL.out] at h1; omega⟩
        have hrcm : rc ≤ 9223372036854775807 := by
          obtain ⟨a', c', e, _, h2, _⟩ := LR.out
          injection e with _ _ e3
          unfold maxLen at h2
          omega
        clear hcpx OW LR HRC
        obtain ⟨V1, rfl⟩ : ∃ V, V = wr := ⟨wr, rfl⟩
        go_wp2_with fail
        go_loopw [9, 10, 11] (fun u i _ wx => ∃ t : Nat, t ≤ k ∧ i = .int .i64 t ∧ wx.ownsRow V1.heap.size 3 1 u (strT k es t).length ((strT k es t).flatMap encI) ∧ Below V1.heap.size V1 wx) (fun _ i _ _ => k - (intOf i).toNat)
        case atStart => exact ⟨0, by omega, rfl, World.ownsRow_nil _ _ _ _, Below.refl _ _⟩
        case round =>
          obtain ⟨t, ht, rfl, hown, hbel⟩ := hrel
          have OX : Hid (wr.ownsRow V1.heap.size 3 1 u9 (strT k es t).length ((strT k es t).flatMap encI)) := hown
          have AX : Hid (Below V1.heap.size V1 wr) := hbel
          have hsx := hbel.size
          clear q0 q1
          obtain ⟨Q6, b6, _⟩ := HK.out _ (AB.out.trans (hbel.mono hwr))
          have B6 : Hid (Below w.heap.size w wr) := b6
          obtain ⟨q0, q1, _⟩ := Q6.all2
          clear hown hbel Q6 b6
          by_cases hltt : t < k
          · obtain ⟨b, off, rfl, hrow⟩ := HAT.out wr AX.out (by omega)
            have HRW : Hid (∀ j : Nat, j < k → ∃ sb so sc, wr.cell? ⟨b, off + j, none⟩ = some (.slice (some ⟨sb, so, none⟩) k sc) ∧ k ≤ sc ∧ sc ≤ maxLen ∧ ∀ i : Nat, i < k → wr.cell? ⟨sb, so + i, none⟩ = some (.bool (atB (reachF k es j) (i : Int)))) := hrow
            clear hrow
            go_wp2_with fail
            go_loopw [11] (fun i wx => ∃ c : Nat, c ≤ t ∧ i = .int .i64 c ∧ (∀ u : Nat, u < c → mutB k es t u = false) ∧ wx = wr) (fun i _ => k - (intOf i).toNat)
            case atStart => exact ⟨0, by omega, rfl, fun u hu => by omega, rfl⟩
            case round =>
              obtain ⟨c, hc, rfl, hno, hwx⟩ := hrel
              replace hwx := hwx.symm
              subst hwx
              have HNO : Hid (∀ u : Nat, u < c → mutB k es t u = false) := hno
              clear hno
              obtain ⟨sb, so, sc, r1, r2, r3, r4⟩ := HRW.out t hltt
              obtain ⟨tb, tq, tc, z1, z2, z3, z4⟩ := HRW.out c (by omega)
              have r5 := r4 c (by omega)
              have z5 := z4 t hltt
              unfold maxLen at r3 z3
              have HMU : Hid (mutB k es t c = (atB (reachF k es t) (c : Int) && atB (reachF k es c) (t : Int))) := rfl
              have HTT : Hid (mutB k es t t = true) := HVV.out t hltt
              have x0 : (0 : Int) ≤ (t : Int) := by omega
              have x1 : (t : Int) < (k : Int) := by omega
              have x2 : (0 : Int) ≤ (c : Int) := by omega
              have x3 : (c : Int) < (k : Int) := by omega
              clear r4 z4
              generalize atB (reachF k es t) (c : Int) = A at *
              generalize atB (reachF k es c) (t : Int) = B at *
              by_cases hab : (A && B) = true
              · rw [Bool.and_eq_true] at hab
                obtain ⟨rfl, rfl⟩ := hab
                have HSV : Hid (strongV k es t = c) := strongV_is (by omega) HMU.out HNO.out
                have HNX : Hid (strT k es (t + 1) = strT k es t ++ [(c : Int)]) := by show _ = _; rw [strT_next, HSV.out]
                have hlen : (strT k es t).length ≤ 200 := by rw [strT_len]; omega
                clear HMU HTT HNO
                generalize strT k es t = f at *
                go_wp2_with (at_builtin; refine wpList_append_newK kI rfl _ _ rfl V1.heap.size _ f rfl (OX.out.alloc _) _ (c : Int) rfl #[.int .i64 c] rfl (0, 0) (heap_alloc_new _ _) (by simp [kI]; omega) (by unfold maxLen; omega) (by simp; omega) ?_)
                intro g gc w3 hown3 hb3 _
                have O3 : Hid (w3.ownsRow V1.heap.size 3 1 (.slice (some ⟨g, 0, none⟩) (f.length + 1) gc) (strT k es (t + 1)).length ((strT k es (t + 1)).flatMap encI)) := by
                  show World.ownsRow _ _ _ _ _ _ _
                  rw [HNX.out, flat_snoc, List.length_append]; exact hown3
                have B3 : Hid (Below V1.heap.size V1 w3) := (AX.out.alloc hsx _).trans hb3
                clear hown3 hb3 q0 q1 r1 r5 z1 z5
                go_wp2_with fail
                go_roundw
                case rel => exact ⟨t + 1, by omega, by go_num, O3.out, B3.out⟩
                case measure => simp [intOf]; omega
              · have hne : c ≠ t := fun e => by
                  subst e
                  rw [HMU.out] at HTT
                  exact hab HTT.out
                have HN2 : Hid (∀ u : Nat, u < c + 1 → mutB k es t u = false) := fun u hu => by
                  rcases Nat.lt_or_ge u c with h | h
                  · exact HNO.out u h
                  · have : u = c := by omega
                    rw [this, HMU.out]
                    simpa using hab
                clear HMU HTT HNO
                cases A
                · clear hab
                  go_wp2_with fail
                  go_roundw
                  case rel => exact ⟨c + 1, by omega, by go_num, HN2.out, trivial⟩
                  case measure => simp [intOf]; omega
                · have hB : B = false := by cases B; rfl; simp at hab
                  subst hB
                  clear hab
                  go_wp2_with fail
                  go_roundw
                  case rel => exact ⟨c + 1, by omega, by go_num, HN2.out, trivial⟩
                  case measure => simp [intOf]; omega
          · have ek : t = k := by omega
            subst ek
            have HSF : Hid (strT t es t = strongF t es) := rfl
            rw [HSF.out] at OX
            have OE : Hid (wr.ownsRow w.heap.size 3 1 u9 (strongF t es).length ((strongF t es).flatMap encI)) := own_lower OX.out (by omega)
            go_wp2_with fail
            exact HP.out _ _ OE.out B6.out
  · have hne : (faultE n es != 0) = true := by simpa using hf
    have HP : Hid (∀ w', Below w.heap.size w w' → NumP w (faultE n es) (strongF n.toNat es) (.returned (.tuple #[.slice none 0 0, .int .i64 (faultE n es)])) w') := fun w' h2 => NumP.no hf h2
    generalize NumP w (faultE n es) (strongF n.toNat es) = P at *
    generalize faultE n es = fe at *
    clear hf
    go_enter Try.func20, Try.ntmps20
    go_upto_region 1 with fail
    rw [← hW0]
    clear hW0
    go_wp2_with fail
    refine (HCK.out _ R0.out).mono ?_
    rintro e w1 ⟨rfl, hb1⟩
    have B1 : Hid (Below w.heap.size w w1) := (HK.out _ hb1).2.1
    clear hb1 q0 q1 HCK
    go_wp2_with fail
    exact HP.out _ B1.out
end Go.Proofs.Ytankibadiomkkaa
