/-
  Contracts of paths.joined and paths.rootsOf.
-/
import Derived.Test.YtankibadiomkkaaPathRoot
import Derived.Lib.QuietBelow
import Derived.Lib.Hide
namespace Go.Proofs.Ytankibadiomkkaa
set_option maxRecDepth 100000
open Go.ChangeShapes Go.WideShapes Go.ChangeAt Go.RowKit Go.Sort

/-- One edge: the greater root points at the lesser one. -/
def joinS (P : List Int) (e : Ed) : List Int := P.set (max (root P e.1) (root P e.2.1)).toNat (min (root P e.1) (root P e.2.1))
theorem set_self {l : List Int} {n : Nat} {v : Int} (hl : l.length = n) (hv : 0 ≤ v ∧ v < (n : Int)) (h : atD l v = v) : l.set v.toNat v = l := by
  refine atD_ext (n := n) (by rw [List.length_set]; exact hl) hl fun u hu => ?_
  rw [atD_set hl hv hu]
  by_cases e : u = v
  · rw [if_pos e, e, h]
  · rw [if_neg e]
theorem join_step {n : Nat} {es : List Ed} {P : List Int} {e : Ed} (hP : UfI n es P) (hg : InG n es) (he : e ∈ es) :
    UfI n es (joinS P e) ∧ (∀ x y : Int, (0 ≤ x ∧ x < (n : Int)) → (0 ≤ y ∧ y < (n : Int)) → root P x = root P y → root (joinS P e) x = root (joinS P e) y) ∧ root (joinS P e) e.1 = root (joinS P e) e.2.1 := by
  obtain ⟨f0, f1, t0, t1, _⟩ := hg e he
  unfold joinS
  rcases Int.lt_trichotomy (root P e.1) (root P e.2.1) with h | h | h
  · rw [Int.max_eq_right (by omega), Int.min_eq_left (by omega)]
    exact root_tie hP hg he (.inl ⟨rfl, rfl⟩) h
  · obtain ⟨a1, a2, _⟩ := root_is hP e.1 ⟨f0, f1⟩
    rw [← h, Int.max_self, Int.min_self, set_self hP.1 (by omega) a1]
    exact ⟨hP, fun _ _ _ _ h => h, h⟩
  · rw [Int.max_eq_left (by omega), Int.min_eq_right (by omega)]
    obtain ⟨h1, h2, h3⟩ := root_tie hP hg he (.inr ⟨rfl, rfl⟩) h
    exact ⟨h1, h2, h3.symm⟩
/-- All edges up to the place k are joined. -/
def JnI (n : Nat) (es : List Ed) (k : Nat) (P : List Int) : Prop := UfI n es P ∧ ∀ e ∈ es.take k, root P e.1 = root P e.2.1
theorem jn_start (n : Nat) (es : List Ed) : JnI n es 0 (weak0 n) := ⟨uf_start, fun e he => by simp at he⟩
theorem jn_step {n k : Nat} {es : List Ed} {P : List Int} {e : Ed} (h : JnI n es k P) (hg : InG n es) (hx : es[k]? = some e) : JnI n es (k + 1) (joinS P e) := by
  have he := List.mem_of_getElem? hx
  obtain ⟨h1, h2, h3⟩ := join_step h.1 hg he
  refine ⟨h1, fun d hd => ?_⟩
  rw [take_snoc hx] at hd
  rcases List.mem_append.1 hd with hd | hd
  · obtain ⟨f0, f1, t0, t1, _⟩ := hg d (List.mem_of_mem_take hd)
    exact h2 _ _ ⟨f0, f1⟩ ⟨t0, t1⟩ (h.2 d hd)
  · simp at hd
    rw [hd]
    exact h3
/-- The first k numbers stand there. -/
def partW (m k : Nat) : List Int := weak0 k ++ List.replicate (m - k) 0
theorem partW_zero (m : Nat) : partW m 0 = List.replicate m 0 := by simp [partW, weak0]
theorem partW_all (m : Nat) : partW m m = weak0 m := by simp [partW]
theorem partW_next {m k : Nat} (h : k < m) : (partW m k).set k (k : Int) = partW m (k + 1) := by
  unfold partW
  obtain ⟨d, hd⟩ : ∃ d, m - k = d + 1 := ⟨m - k - 1, by omega⟩
  have hw : weak0 (k + 1) = weak0 k ++ [(k : Int)] := by simp [weak0, List.range_succ]
  rw [hd, show m - (k + 1) = d by omega, List.set_append_right _ _ (by rw [weak0_len]; exact Nat.le_refl _), List.replicate_succ, hw, weak0_len, Nat.sub_self]
  simp
theorem partW_at {m k : Nat} (h : k < m) : (partW m k)[k]? = some 0 := by
  unfold partW
  rw [List.getElem?_append_right (by rw [weak0_len]; exact Nat.le_refl _), weak0_len, Nat.sub_self, List.getElem?_replicate, if_pos (by omega)]
/-- The first k roots stand there. -/
def partR (P : List Int) (m k : Nat) : List Int := (List.range k).map (fun v : Nat => root P (v : Int)) ++ List.replicate (m - k) 0
theorem rangeR_len (P : List Int) (k : Nat) : ((List.range k).map (fun v : Nat => root P (v : Int))).length = k := by simp
theorem partR_zero (P : List Int) (m : Nat) : partR P m 0 = List.replicate m 0 := by simp [partR]
theorem partR_next {P : List Int} {m k : Nat} (h : k < m) : (partR P m k).set k (root P (k : Int)) = partR P m (k + 1) := by
  unfold partR
  obtain ⟨d, hd⟩ : ∃ d, m - k = d + 1 := ⟨m - k - 1, by omega⟩
  rw [hd, show m - (k + 1) = d by omega, List.set_append_right _ _ (by rw [rangeR_len]; exact Nat.le_refl _), List.replicate_succ, rangeR_len, Nat.sub_self, List.range_succ]
  simp
theorem partR_at {P : List Int} {m k : Nat} (h : k < m) : (partR P m k)[k]? = some 0 := by
  unfold partR
  rw [List.getElem?_append_right (by rw [rangeR_len]; exact Nat.le_refl _), rangeR_len, Nat.sub_self, List.getElem?_replicate, if_pos (by omega)]
theorem partR_weak {n : Nat} {es : List Ed} {P : List Int} (h : JnI n es es.length P) (hg : InG n es) : partR P n n = weakF n es := by
  refine weak_uniq hg (root_weak h.1 (fun e he => h.2 e (by rw [List.take_length]; exact he)) hg (by unfold partR; simp) fun v hv => ?_)
  unfold atD partR
  rw [Nat.sub_self, List.replicate_zero, List.append_nil, List.getD_eq_getElem?_getD, List.getElem?_map, List.getElem?_range (by omega)]
  simp
  rw [Int.max_eq_left hv.1]

/-- What joined answers: trees that join the ends of each edge. -/
def JndP (n : Nat) (es : List Ed) (w : World) (e : Ending) (w' : World) : Prop := ∃ g P, e = .returned (.slice (some ⟨g, 0, none⟩) n n) ∧ JnI n es es.length P ∧ w'.ownsRow w.heap.size 3 1 (.slice (some ⟨g, 0, none⟩) n n) n (P.flatMap encI) ∧ Below w.heap.size w w'

set_option maxHeartbeats 2000000 in
set_option maxRecDepth 100000 in
theorem joined_any (v : Value) (es : List Ed) (m : Nat) (w : World) (h : EdR w v es) (hg : InG m es) (hm : m ≤ 200) (hle : es.length ≤ 600) :
    Calls Try.prog 30 #[.agg #[.int .i64 (m : Int), v]] w (JndP m es w) := by
  have HR : Hid (EdR w v es) := h
  have HG : Hid (InG m es) := hg
  obtain ⟨a, cap, rfl, hca, hma, _, _⟩ := h
  unfold maxLen at hma
  obtain ⟨W0, hW0⟩ : ∃ W0, W0 = w.alloc (.cells #[.int .i64 (m : Int), .slice a es.length cap] 24) := ⟨_, rfl⟩
  have Q0 : BX 24 W0 w.heap.size #[.int .i64 (m : Int), .slice a es.length cap] := by rw [hW0]; exact BX.new _ _ _
  have BH : Hid (Below w.heap.size w W0) := by show Below _ _ _; rw [hW0]; exact below_alloc _ _
  have s1 : w.heap.size + 1 ≤ W0.heap.size := by rw [hW0]; simp
  have HK : Hid (∀ X, Below W0.heap.size W0 X → BX 24 X w.heap.size #[.int .i64 (m : Int), .slice a es.length cap] ∧ Below w.heap.size w X ∧ EdR X (.slice a es.length cap) es) := fun X hX => ⟨Q0.below hX (by omega), BH.out.trans (hX.mono (by omega)), HR.out.below (BH.out.trans (hX.mono (by omega))) (Nat.le_refl _)⟩
  obtain ⟨q0, q1, _⟩ := Q0.all2
  have HP : Hid (∀ (w' : World) g P, JnI m es es.length P → w'.ownsRow w.heap.size 3 1 (.slice (some ⟨g, 0, none⟩) m m) m (P.flatMap encI) → Below w.heap.size w w' → JndP m es w (.returned (.slice (some ⟨g, 0, none⟩) m m)) w') := fun w' g P h1 h2 h3 => ⟨g, P, rfl, h1, h2, h3⟩
  obtain ⟨w1, hmk, ho1, hb1⟩ := make_ints W0 m (by omega)
  have O1 : Hid (w1.ownsRow W0.heap.size 3 1 (.slice (some ⟨W0.heap.size, 0, none⟩) m m) m ((partW m 0).flatMap encI)) := by
    show World.ownsRow _ _ _ _ _ _ _
    rw [partW_zero]; exact ho1
  have A1 : Hid (Below W0.heap.size W0 w1) := hb1
  generalize JndP m es w = P at *
  clear Q0 hg ho1 hb1
  go_enter Try.func30, Try.ntmps30
  go_upto_region 1 with fail
  rw [← hW0]
  clear hW0
  go_wp2_with fail
  have HSZ : Hid (∀ X, Below W0.heap.size W0 X → W0.heap.size ≤ X.heap.size) := fun X h => h.size
  generalize W0.heap.size = G at *
  go_loopw [15] (fun i wr => ∃ k : Nat, k ≤ m ∧ i = .int .i64 k ∧ wr.ownsRow G 3 1 (.slice (some ⟨G, 0, none⟩) m m) m ((partW m k).flatMap encI) ∧ Below G W0 wr) (fun i _ => m - (intOf i).toNat)
  case atStart => exact ⟨0, by omega, rfl, O1.out, A1.out⟩
  case round =>
    obtain ⟨k, hk, rfl, hown, hbel⟩ := hrel
    have OW : Hid (wr.ownsRow G 3 1 (.slice (some ⟨G, 0, none⟩) m m) m ((partW m k).flatMap encI)) := hown
    have AB : Hid (Below G W0 wr) := hbel
    clear hown hbel
    by_cases hlt : k < m
    · have c0 := own_atN OW.out (partW_at hlt)
      have f0 := frozenK OW.out k
      have p0 : (0 : Int) ≤ (k : Int) := by omega
      have p1 : (k : Int) < (m : Int) := by omega
      have ON : Hid ((wr.setCell ⟨G, k, none⟩ (.int .i64 (k : Int))).ownsRow G 3 1 (.slice (some ⟨G, 0, none⟩) m m) m ((partW m (k + 1)).flatMap encI)) := by
        show World.ownsRow _ _ _ _ _ _ _
        rw [← partW_next hlt]
        exact own_setN OW.out
      have BN : Hid (Below G W0 (wr.setCell ⟨G, k, none⟩ (.int .i64 (k : Int)))) := AB.out.setCell (Nat.le_refl _) _
      go_wp2_with fail
      go_roundw
      case rel => exact ⟨k + 1, by omega, by go_num, ON.out, BN.out⟩
      case measure => simp [intOf]; omega
    · have ek : k = m := by omega
      subst ek
      have OW2 : Hid (wr.ownsRow G 3 1 (.slice (some ⟨G, 0, none⟩) k k) k ((weak0 k).flatMap encI)) := by
        show World.ownsRow _ _ _ _ _ _ _
        rw [← partW_all]; exact OW.out
      have HGW : Hid (G ≤ wr.heap.size) := HSZ.out _ AB.out
      clear q0 q1 O1 A1 OW hmk
      go_wp2_with fail
      refine (rootIn_any _ _ _ _).mono ?_
      rintro e w2 ⟨rfl, hw2⟩
      have Q2 : BX 26 w2 wr.heap.size #[.slice (some ⟨G, 0, none⟩) k k] := by rw [hw2]; exact BX.new _ _ _
      have b2 : Below wr.heap.size wr w2 := by rw [hw2]; exact below_alloc _ _
      have A2 : Hid (Below G W0 w2) := AB.out.trans (b2.mono HGW.out)
      have O2 : Hid (w2.ownsRow G 3 1 (.slice (some ⟨G, 0, none⟩) k k) k ((weak0 k).flatMap encI)) := own_below OW2.out b2 (Nat.le_refl _)
      have BQ : Hid (BX 26 w2 wr.heap.size #[.slice (some ⟨G, 0, none⟩) k k]) := Q2
      have hqG := HGW.out
      clear hw2 Q2 b2 OW2
      obtain ⟨Q5, _, _⟩ := HK.out _ A2.out
      obtain ⟨q0, q1, _⟩ := Q5.all2
      clear Q5
      unfold rtF
      generalize wr.heap.size = q at *
      go_wp2_with fail
      clear q0 q1
      go_loopw [28] (fun i wr => ∃ (j : Nat) (P : List Int), j ≤ es.length ∧ i = .int .i64 j ∧ JnI k es j P ∧ wr.ownsRow G 3 1 (.slice (some ⟨G, 0, none⟩) k k) k (P.flatMap encI) ∧ BX 26 wr q #[.slice (some ⟨G, 0, none⟩) k k] ∧ Below G W0 wr) (fun i _ => es.length - (intOf i).toNat)
      case atStart => exact ⟨0, weak0 k, by omega, rfl, jn_start k es, O2.out, BQ.out, A2.out⟩
      case round =>
        obtain ⟨j, T, hj, rfl, hJ, hown, hbx, hbel⟩ := hrel
        have OJ : Hid (wr.ownsRow G 3 1 (.slice (some ⟨G, 0, none⟩) k k) k (T.flatMap encI)) := hown
        have AJ : Hid (Below G W0 wr) := hbel
        have BJ : Hid (BX 26 wr q #[.slice (some ⟨G, 0, none⟩) k k]) := hbx
        have HJ : Hid (JnI k es j T) := hJ
        obtain ⟨_, be, hER⟩ := HK.out _ hbel
        have BE : Hid (Below w.heap.size w wr) := be
        have HGJ : Hid (G ≤ wr.heap.size) := HSZ.out _ hbel
        clear hown hbx hbel hJ be
        by_cases hlt : j < es.length
        · obtain ⟨b, off, cap', e1, _, _, lt, hv⟩ := EdR.at hER (by omega)
          injection e1 with e1 e2 e3
          clear e2
          subst e1 e3
          obtain ⟨⟨f, t, c⟩, hx⟩ := getE hlt
          obtain ⟨d1, d2, d3⟩ := hv j _ hx
          have hgi := HG.out (f, t, c) (List.mem_of_getElem? hx)
          simp only at d1 d2 d3 hgi
          have hfi : 0 ≤ f ∧ f < (k : Int) := by omega
          have hti : 0 ≤ t ∧ t < (k : Int) := by omega
          have HNJ : Hid (JnI k es (j + 1) (joinS T (f, t, c))) := jn_step HJ.out HG.out hx
          have p0 : (0 : Int) ≤ (j : Int) := by omega
          have p1 : (j : Int) < (es.length : Int) := by omega
          have W3 : Hid ((wr.alloc (.cells #[.int .i64 f, .int .i64 t, .int .i64 c] 43)).ownsRow G 3 1 (.slice (some ⟨G, 0, none⟩) k k) k (T.flatMap encI) ∧ BX 26 (wr.alloc (.cells #[.int .i64 f, .int .i64 t, .int .i64 c] 43)) q #[.slice (some ⟨G, 0, none⟩) k k] ∧ Below G W0 (wr.alloc (.cells #[.int .i64 f, .int .i64 t, .int .i64 c] 43)) ∧ BX 43 (wr.alloc (.cells #[.int .i64 f, .int .i64 t, .int .i64 c] 43)) wr.heap.size #[.int .i64 f, .int .i64 t, .int .i64 c]) :=
            ⟨own_below OJ.out (below_alloc _ _) (Nat.le_refl _), BJ.out.below (below_alloc _ _) BJ.out.lt, AJ.out.trans ((below_alloc _ _).mono HGJ.out), BX.new _ _ _⟩
          clear hv hx hER hgi
          go_upto_region 11 with fail
          generalize wr.alloc (.cells #[.int .i64 f, .int .i64 t, .int .i64 c] 43) = w3 at *
          generalize wr.heap.size = be at *
          obtain ⟨ow3, bq3, ab3, bx3⟩ := W3.out
          have k0 : w3.cell? ⟨be, 0, none⟩ = some (.int .i64 f) := bx3.cell 0
          have k1 : w3.cell? ⟨be, 1, none⟩ = some (.int .i64 t) := bx3.cell 1
          have EE : ∀ i d os, 0 ≤ i ∧ i < (k : Int) → Calls Try.prog 48 #[.int .i64 i, .pointer (some ⟨q, 0, none⟩)] (grow (redrawn w3 d) os) fun e w'' => e = .returned (.int .i64 (root T i)) ∧ ∃ p : Regrown, w'' = grow (redrawn w3 p.d) p.os := fun i d os hi => by
            have hb := below_regrown w3 d os
            refine Calls.mono (root_any q G k es T i _ ?_ ?_ HJ.out.1 hi) ?_
            · exact (hb.cell (p := ⟨q, 0, none⟩) bq3.lt).trans bq3.all1.1
            · intro jj x hx
              have := own_atN ow3 hx
              exact (hb.cell (p := ⟨G, jj, none⟩) (World.block_lt_of_cell? w3 _ this)).trans this
            · rintro e w' ⟨he, hw⟩
              exact ⟨he, ⟨d, os⟩, hw⟩
          have OW3 : Hid (w3.ownsRow G 3 1 (.slice (some ⟨G, 0, none⟩) k k) k (T.flatMap encI)) := ow3
          have BQ3 : Hid (BX 26 w3 q #[.slice (some ⟨G, 0, none⟩) k k]) := bq3
          have AB3 : Hid (Below G W0 w3) := ab3
          have g0 := cell_regrown k0
          have g1 := cell_regrown k1
          clear ow3 bq3 ab3 bx3 W3 k0 k1 d1 d2 d3
          refine wp_region_quiet_below (by kernel_rfl) (by kernel_rfl) ?_
          repeat (quiet_step (exact EE _ _ _ (by first | exact hfi | exact hti)))
          refine wpQuiet_nil ?_
          intro _ hw'
          obtain ⟨⟨dq, osq⟩, hw''⟩ := hw'
          subst hw''
          have HB9 : Hid (Below w3.heap.size w3 (grow (redrawn w3 dq) osq)) := below_regrown _ _ _
          generalize grow (redrawn w3 dq) osq = W9 at HB9 ⊢
          have OW9 : Hid (W9.ownsRow G 3 1 (.slice (some ⟨G, 0, none⟩) k k) k (T.flatMap encI)) := own_below OW3.out HB9.out (Nat.le_refl _)
          have BQ9 : Hid (BX 26 W9 q #[.slice (some ⟨G, 0, none⟩) k k]) := BQ3.out.below HB9.out BQ3.out.lt
          have AB9 : Hid (Below G W0 W9) := AB3.out.trans (HB9.out.mono (HSZ.out _ AB3.out))
          have hrf := (root_is HJ.out.1 f hfi).2.1
          have hrt := (root_is HJ.out.1 t hti).2.1
          have HJS : Hid (joinS T (f, t, c) = T.set (max (root T f) (root T t)).toNat (min (root T f) (root T t))) := rfl
          generalize root T f = ra at *
          generalize root T t = rb at *
          obtain ⟨M, hM⟩ : ∃ M : Nat, max ra rb = M := ⟨(max ra rb).toNat, by omega⟩
          obtain ⟨mn, hmn⟩ : ∃ x : Int, min ra rb = x := ⟨_, rfl⟩
          have hMk : M < k := by omega
          have hmax : ∀ (w : World) (ats : Array TypeId) (ty : TypeId), (Builtin.max_ ats ty #[.int .i64 ra, .int .i64 rb]).run Try.prog w = .ok (.int .i64 (M : Int)) w := fun w ats ty => by
            rw [run_max_int2]
            congr 2
            split <;> omega
          have hmin : ∀ (w : World) (ats : Array TypeId) (ty : TypeId), (Builtin.min_ ats ty #[.int .i64 ra, .int .i64 rb]).run Try.prog w = .ok (.int .i64 mn) w := fun w ats ty => by
            rw [run_min_int2]
            congr 2
            split <;> omega
          rw [hM, hmn, Int.toNat_natCast] at HJS
          have hat := atD_some HJ.out.1.1 (v := (M : Int)) (by omega)
          rw [Int.toNat_natCast] at hat
          have c9 := own_atN OW9.out hat
          have f9 := frozenK OW9.out M
          have ON : Hid ((W9.setCell ⟨G, M, none⟩ (.int .i64 mn)).ownsRow G 3 1 (.slice (some ⟨G, 0, none⟩) k k) k ((joinS T (f, t, c)).flatMap encI)) := by
            show World.ownsRow _ _ _ _ _ _ _
            rw [HJS.out]
            exact own_setN OW9.out
          have BN : Hid (BX 26 (W9.setCell ⟨G, M, none⟩ (.int .i64 mn)) q #[.slice (some ⟨G, 0, none⟩) k k]) := BQ9.out.other fun e => own_block OW9.out (g := G) rfl BQ9.out (by decide) e.symm
          have AN : Hid (Below G W0 (W9.setCell ⟨G, M, none⟩ (.int .i64 mn))) := AB9.out.setCell (Nat.le_refl _) _
          have i0 : (0 : Int) ≤ (M : Int) := by omega
          have i1 : (M : Int) < (k : Int) := by omega
          clear hM hmn hat hrf hrt EE g0 g1 HJS
          go_wp2_with fail
          go_roundw
          case rel => exact ⟨j + 1, _, by omega, by go_num, HNJ.out, ON.out, BN.out, AN.out⟩
          case measure => simp [intOf]; omega
        · have ej : j = es.length := by omega
          subst ej
          have HO : Hid (wr.ownsRow w.heap.size 3 1 (.slice (some ⟨G, 0, none⟩) k k) k (T.flatMap encI)) := own_lower OJ.out (by omega)
          clear hER
          go_wp2_with fail
          exact HP.out _ _ _ HJ.out HO.out BE.out

set_option maxHeartbeats 1000000 in
set_option maxRecDepth 100000 in
theorem rootsOf_any (base g m : Nat) (es : List Ed) (P : List Int) (w : World) (h : w.ownsRow base 3 1 (.slice (some ⟨g, 0, none⟩) m m) m (P.flatMap encI)) (hU : UfI m es P) (hm : m ≤ 200) :
    Calls Try.prog 29 #[.slice (some ⟨g, 0, none⟩) m m] w fun e w' => ∃ v', e = .returned v' ∧ w'.ownsRow w.heap.size 3 1 v' m ((partR P m m).flatMap encI) ∧ Below w.heap.size w w' := by
  obtain ⟨W0, hW0⟩ : ∃ W0, W0 = w.alloc (.cells #[.slice (some ⟨g, 0, none⟩) m m] 26) := ⟨_, rfl⟩
  have Q0 : BX 26 W0 w.heap.size #[.slice (some ⟨g, 0, none⟩) m m] := by rw [hW0]; exact BX.new _ _ _
  have b0 : Below w.heap.size w W0 := by rw [hW0]; exact below_alloc _ _
  have o0 : W0.ownsRow base 3 1 (.slice (some ⟨g, 0, none⟩) m m) m (P.flatMap encI) := own_below h b0 (Nat.le_refl _)
  have HC : Hid (∀ (i : Int) X, 0 ≤ i ∧ i < (m : Int) → Below W0.heap.size W0 X → Calls Try.prog 48 #[.int .i64 i, .pointer (some ⟨w.heap.size, 0, none⟩)] X fun e w' => e = .returned (.int .i64 (root P i)) ∧ w' = X) := fun i X hi hX => by
    refine root_any w.heap.size g m es P i X ?_ ?_ hU hi
    · exact (hX.cell (p := ⟨w.heap.size, 0, none⟩) Q0.lt).trans Q0.all1.1
    · intro j x hx
      have := own_atN o0 hx
      exact (hX.cell (p := ⟨g, j, none⟩) (World.block_lt_of_cell? W0 _ this)).trans this
  have HB0 : Hid (Below w.heap.size w W0) := b0
  have s1 : w.heap.size ≤ W0.heap.size := b0.size
  obtain ⟨w1, hmk, ho1, hb1⟩ := make_ints W0 m (by omega)
  have O1 : Hid (w1.ownsRow W0.heap.size 3 1 (.slice (some ⟨W0.heap.size, 0, none⟩) m m) m ((partR P m 0).flatMap encI)) := by
    show World.ownsRow _ _ _ _ _ _ _
    rw [partR_zero]; exact ho1
  have A1 : Hid (Below W0.heap.size W0 w1) := hb1
  have HW0 : Hid (W0 = w.alloc (.cells #[.slice (some ⟨g, 0, none⟩) m m] 26)) := hW0
  clear h hU Q0 b0 o0 ho1 hb1 hW0
  go_enter Try.func29, Try.ntmps29
  go_wp2_with fail
  refine (rootIn_any _ _ _ _).mono ?_
  rintro e w2 ⟨rfl, hw2⟩
  rw [← HW0.out] at hw2
  replace hw2 := hw2.symm
  subst hw2
  unfold rtF
  go_wp2_with fail
  go_loopw [13] (fun i wr => ∃ k : Nat, k ≤ m ∧ i = .int .i64 k ∧ wr.ownsRow W0.heap.size 3 1 (.slice (some ⟨W0.heap.size, 0, none⟩) m m) m ((partR P m k).flatMap encI) ∧ Below W0.heap.size W0 wr) (fun i _ => m - (intOf i).toNat)
  case atStart => exact ⟨0, by omega, rfl, O1.out, A1.out⟩
  case round =>
    obtain ⟨k, hk, rfl, hown, hbel⟩ := hrel
    have OW : Hid (wr.ownsRow W0.heap.size 3 1 (.slice (some ⟨W0.heap.size, 0, none⟩) m m) m ((partR P m k).flatMap encI)) := hown
    have AB : Hid (Below W0.heap.size W0 wr) := hbel
    clear hown hbel hmk
    by_cases hlt : k < m
    · have c0 := own_atN OW.out (partR_at hlt)
      have f0 := frozenK OW.out k
      have p0 : (0 : Int) ≤ (k : Int) := by omega
      have p1 : (k : Int) < (m : Int) := by omega
      have ON : Hid ((wr.setCell ⟨W0.heap.size, k, none⟩ (.int .i64 (root P (k : Int)))).ownsRow W0.heap.size 3 1 (.slice (some ⟨W0.heap.size, 0, none⟩) m m) m ((partR P m (k + 1)).flatMap encI)) := by
        show World.ownsRow _ _ _ _ _ _ _
        rw [← partR_next hlt]
        exact own_setN OW.out
      have BN : Hid (Below W0.heap.size W0 (wr.setCell ⟨W0.heap.size, k, none⟩ (.int .i64 (root P (k : Int))))) := AB.out.setCell (Nat.le_refl _) _
      have HCK := HC.out (k : Int) wr ⟨p0, p1⟩ AB.out
      generalize root P (k : Int) = r at *
      go_wp2_with fail
      refine HCK.mono ?_
      rintro e w3 ⟨rfl, hw3⟩
      replace hw3 := hw3.symm
      subst hw3
      clear HCK
      go_wp2_with fail
      go_roundw
      case rel => exact ⟨k + 1, by omega, by go_num, ON.out, BN.out⟩
      case measure => simp [intOf]; omega
    · have ek : k = m := by omega
      subst ek
      have HO : Hid (wr.ownsRow w.heap.size 3 1 (.slice (some ⟨W0.heap.size, 0, none⟩) k k) k ((partR P k k).flatMap encI)) := own_lower OW.out s1
      have HB : Hid (Below w.heap.size w wr) := HB0.out.trans (AB.out.mono s1)
      go_wp2_with fail
      go_ret
      exact ⟨_, rfl, HO.out, HB.out⟩
end Go.Proofs.Ytankibadiomkkaa
