/-
  Contract of slices.Delete over files, at one file: the others stand in their order.
-/
import Derived.Test.YthakibcfmbkpkaaDoorFaceLib
namespace Go.Proofs.YthakibcfmbkpkaaDoor
set_option maxRecDepth 100000
open Go.ChangeShapes Go.WideShapes Go.ChangeAt Go.RowKit
attribute [local go_sem ↓] exec_append

theorem Reads.setCells {w : World} {v : Value} {xs : List Int} {b o : Nat} {vs : List Value} (h : Reads .u8 w v xs) (hc : ∀ j, j < vs.length → ∃ u, w.cell? ⟨b, o + j, none⟩ = some u ∧ ∀ n, u ≠ .int .u8 n) : Reads .u8 (w.setCells b o vs) v xs := by
  obtain ⟨a, cap, rfl, h1, h2, h3, hcell⟩ := h
  refine ⟨a, cap, rfl, h1, h2, h3, fun x hx i hi => ?_⟩
  have h4 := hcell x hx i hi
  rw [World.cell?_setCells_out b vs o w (x.add i) (fun e1 e2 => ?_), h4]
  rcases Nat.lt_or_ge (x.add i).off o with hlt | hge
  · exact .inl hlt
  · rcases Nat.lt_or_ge (x.add i).off (o + vs.length) with hlt2 | hge2
    · obtain ⟨u, hu, hne⟩ := hc ((x.add i).off - o) (by omega)
      have ea : (⟨b, o + ((x.add i).off - o), none⟩ : Addr) = x.add i := by
        rw [show o + ((x.add i).off - o) = (x.add i).off by omega, ← e1, ← e2]
      rw [ea, h4] at hu
      injection hu with hu
      exact absurd hu.symm (hne _)
    · exact .inr hge2
theorem below_setCells (b : Nat) {B : Nat} (hB : B ≤ b) : ∀ (vs : List Value) (o : Nat) (a w : World), Below B a w → Below B a (w.setCells b o vs)
  | [], _, _, _, h => h
  | v :: r, o, a, _, h => below_setCells b hB r (o + 1) a _ (h.setCell (p := ⟨b, o, none⟩) hB v)
theorem size_setCells (b : Nat) : ∀ (vs : List Value) (o : Nat) (w : World), (w.setCells b o vs).heap.size = w.heap.size
  | [], _, _ => rfl
  | v :: r, o, w => by rw [World.setCells, size_setCells b r, size_setCell]

theorem getD_erase {fs : List FileL} {k i : Nat} : (fs.eraseIdx k).getD i noF = if i < k then fs.getD i noF else fs.getD (i + 1) noF := by
  rw [List.getD_eq_getElem?_getD, List.getElem?_eraseIdx]
  split <;> rw [List.getD_eq_getElem?_getD]

/-- A cell of a row of files. -/
theorem RowF.cell {w : World} {g cap : Nat} {fs : List FileL} {vs : Nat → Value} (h : RowF w g cap fs vs) {j : Nat} (hj : j < fs.length * 3) : ∃ u, w.cell? ⟨g, j, none⟩ = some u ∧ (∀ n, u ≠ .int .u8 n) ∧ u.oneCell' = true := by
  obtain ⟨i, r, hr, rfl⟩ : ∃ i r, r < 3 ∧ j = i * 3 + r := ⟨j / 3, j % 3, by omega, by omega⟩
  obtain ⟨c1, c2, c3, a, c, e, _⟩ := h.file i (by omega)
  rcases (show r = 0 ∨ r = 1 ∨ r = 2 by omega) with rfl | rfl | rfl
  · exact ⟨_, c1, fun n hh => (by cases hh), rfl⟩
  · exact ⟨_, c2, fun n hh => (by rw [e] at hh; cases hh), by rw [e]; rfl⟩
  · exact ⟨_, c3, fun n hh => (by cases hh), rfl⟩

/-- The cells of the files from place u on. -/
def tailCells (w : World) (g u n : Nat) : List Value := (List.range (n - u)).map fun j => (w.cell? ⟨g, u + j, none⟩).getD undef
theorem tail_len (w : World) (g u n : Nat) : (tailCells w g u n).length = n - u := by simp [tailCells]
theorem tail_get {w : World} {g u n j : Nat} {x : Value} (h : (tailCells w g u n)[j]? = some x) : j < n - u ∧ x = (w.cell? ⟨g, u + j, none⟩).getD undef := by
  have hj : j < n - u := by
    have := (List.getElem?_eq_some_iff.1 h).1
    rwa [tail_len] at this
  refine ⟨hj, ?_⟩
  rw [tailCells, List.getElem?_map, List.getElem?_range hj] at h
  simpa using h.symm
def zeroF : List Value := [.string ByteArray.empty, .slice none 0 0, .int .i64 0]

/-- The row without one file: its cells moved, the last ones cleared. -/
theorem RowF.erase {w : World} {g cap k : Nat} {fs : List FileL} {vs : Nat → Value} (h : RowF w g cap fs vs) (hk : k < fs.length) :
    RowF ((w.setCells g (k * 3) (tailCells w g ((k + 1) * 3) (fs.length * 3))).setCells g ((fs.length - 1) * 3) zeroF) g cap (fs.eraseIdx k) (fun i => if i < k then vs i else vs (i + 1)) := by
  have hl : (fs.eraseIdx k).length = fs.length - 1 := List.length_eraseIdx_of_lt hk
  have hc1 : ∀ j, j < (tailCells w g ((k + 1) * 3) (fs.length * 3)).length → ∃ u, w.cell? ⟨g, k * 3 + j, none⟩ = some u ∧ ∀ n, u ≠ .int .u8 n := fun j hj => by
    rw [tail_len] at hj
    obtain ⟨u, h1, h2, _⟩ := h.cell (j := k * 3 + j) (by omega)
    exact ⟨u, h1, h2⟩
  -- the cells behind the move
  have hin : ∀ j, (k + 1) * 3 + j < fs.length * 3 → (w.setCells g (k * 3) (tailCells w g ((k + 1) * 3) (fs.length * 3))).cell? ⟨g, k * 3 + j, none⟩ = w.cell? ⟨g, (k + 1) * 3 + j, none⟩ := fun j hj => by
    have hjl : j < (tailCells w g ((k + 1) * 3) (fs.length * 3)).length := by rw [tail_len]; omega
    rw [World.cell?_setCells_in g _ (k * 3) w (fun i hi => by obtain ⟨u, hu, _⟩ := hc1 i hi; rw [hu]; rfl) j hjl]
    obtain ⟨_, e⟩ := tail_get (List.getElem?_eq_getElem hjl)
    obtain ⟨u, hu, _⟩ := h.cell (j := (k + 1) * 3 + j) hj
    rw [e, hu]; rfl
  have hout : ∀ j, (j < k * 3 ∨ (fs.length - 1) * 3 ≤ j) → (w.setCells g (k * 3) (tailCells w g ((k + 1) * 3) (fs.length * 3))).cell? ⟨g, j, none⟩ = w.cell? ⟨g, j, none⟩ := fun j hj =>
    World.cell?_setCells_out g _ _ w ⟨g, j, none⟩ (fun _ _ => by rw [tail_len]; show j < k * 3 ∨ k * 3 + (fs.length * 3 - (k + 1) * 3) ≤ j; omega)
  have hc2 : ∀ j, j < zeroF.length → ∃ u, (w.setCells g (k * 3) (tailCells w g ((k + 1) * 3) (fs.length * 3))).cell? ⟨g, (fs.length - 1) * 3 + j, none⟩ = some u ∧ ∀ n, u ≠ .int .u8 n := fun j hj => by
    have hj3 : j < 3 := hj
    rw [hout _ (.inr (by omega))]
    obtain ⟨u, h1, h2, _⟩ := h.cell (j := (fs.length - 1) * 3 + j) (by omega)
    exact ⟨u, h1, h2⟩
  have hfar : ∀ j, j < (fs.length - 1) * 3 → ((w.setCells g (k * 3) (tailCells w g ((k + 1) * 3) (fs.length * 3))).setCells g ((fs.length - 1) * 3) zeroF).cell? ⟨g, j, none⟩ = (w.setCells g (k * 3) (tailCells w g ((k + 1) * 3) (fs.length * 3))).cell? ⟨g, j, none⟩ := fun j hj =>
    World.cell?_setCells_out g _ _ _ ⟨g, j, none⟩ (fun _ _ => .inl hj)
  refine ⟨by rw [hl]; have := h.le; omega, h.max, by rw [size_setCells, size_setCells]; exact h.lt, fun i hi => ?_, fun j => by rw [World.frozen?_setCells, World.frozen?_setCells]; exact h.free j⟩
  rw [hl] at hi
  rw [getD_erase]
  by_cases hlt : i < k
  · rw [if_pos hlt, if_pos hlt]
    obtain ⟨c1, c2, c3, c4⟩ := h.file i (by omega)
    exact ⟨by rw [hfar _ (by omega), hout _ (.inl (by omega))]; exact c1, by rw [hfar _ (by omega), hout _ (.inl (by omega))]; exact c2, by rw [hfar _ (by omega), hout _ (.inl (by omega))]; exact c3, (c4.setCells hc1).setCells hc2⟩
  · rw [if_neg hlt, if_neg hlt]
    obtain ⟨c1, c2, c3, c4⟩ := h.file (i + 1) (by omega)
    refine ⟨?_, ?_, ?_, (c4.setCells hc1).setCells hc2⟩
    · rw [hfar _ (by omega), show i * 3 = k * 3 + (i - k) * 3 by omega, hin _ (by omega), show (k + 1) * 3 + (i - k) * 3 = (i + 1) * 3 by omega]; exact c1
    · rw [hfar _ (by omega), show i * 3 + 1 = k * 3 + ((i - k) * 3 + 1) by omega, hin _ (by omega), show (k + 1) * 3 + ((i - k) * 3 + 1) = (i + 1) * 3 + 1 by omega]; exact c2
    · rw [hfar _ (by omega), show i * 3 + 2 = k * 3 + ((i - k) * 3 + 2) by omega, hin _ (by omega), show (k + 1) * 3 + ((i - k) * 3 + 2) = (i + 1) * 3 + 2 by omega]; exact c3

theorem run_clearF {w : World} {g o c : Nat} (hc : ∀ j, j < 3 → (w.cell? ⟨g, o + j, none⟩).isSome = true) (hf : ∀ j, w.frozen? ⟨g, j, none⟩ = false) (ty : TypeId) :
    (Builtin.clear_ #[22] ty #[.slice (some ⟨g, o, none⟩) 1 c]).run Tryd.prog w = .ok (.tuple #[]) (w.setCells g o zeroF) := by
  have hst := run_storeCells_cells (P := Tryd.prog) g o zeroF 0 w (fun j hj => by rw [Nat.add_zero]; exact hc j hj) (fun j _ => hf _) (fun v hv => by
      simp [zeroF] at hv
      rcases hv with rfl | rfl | rfl <;> rfl)
  simp only [Nat.add_zero] at hst
  have hzc : (Builtin.zeroCells (Value.agg #[.string ⟨#[]⟩, .slice none 0 0, .int .i64 0]).cells 1).toList = zeroF := by kernel_rfl
  simp [Builtin.clear_, run_underlying Tryd.underlying22, hzc, hst]

set_option maxHeartbeats 1000000 in
set_option maxRecDepth 100000 in
theorem delete_m (g cap k m : Nat) (fs : List FileL) (vs : Nat → Value) (w : World) (h : RowF w g cap fs vs) (hlen : fs.length = m + 1) (hk : k < m + 1) :
    Calls Tryd.prog 70 #[.slice (some ⟨g, 0, none⟩) (m + 1) cap, .int .i64 k, .int .i64 ((k : Int) + 1)] w fun e w' => ∃ vs', e = .returned (.slice (some ⟨g, 0, none⟩) m cap) ∧ RowF w' g cap (fs.eraseIdx k) vs' ∧ Below g w w' := by
  obtain ⟨i0, hi, hz0, hz1, hz2⟩ := info_parts Tryd.infoF
  have hD : RowF w.drew g cap fs vs := h.below (Below.refl w.heap.size w).drew (Nat.le_refl _)
  have HR : Hid (RowF w.drew g cap fs vs) := hD
  have HE : Hid (RowF ((w.drew.setCells g (k * 3) (tailCells w.drew g ((k + 1) * 3) (fs.length * 3))).setCells g ((fs.length - 1) * 3) zeroF) g cap (fs.eraseIdx k) (fun i => if i < k then vs i else vs (i + 1))) := hD.erase (by omega)
  have hle : m + 1 ≤ cap := by rw [← hlen]; exact h.le
  have hm := h.max
  unfold maxLen at hm
  have HLEN : Hid (fs.length = m + 1) := hlen
  rw [HLEN.out] at HE
  have hrun : ∀ ad l c, l = m + 1 - (k + 1) → c = cap - (k + 1) → (∀ j, j < (m + 1) * 3 - (k + 1) * 3 → ad.add j = (⟨g, (k + 1) * 3 + j, none⟩ : Addr)) → (Builtin.append_ #[22, 22] 22 #[.slice (some ⟨g, 0, none⟩) k cap, .slice (some ad) l c]).run Tryd.prog w.drew = .ok (.slice (some ⟨g, 0, none⟩) m cap) (w.drew.setCells g (k * 3) (tailCells w.drew g ((k + 1) * 3) ((m + 1) * 3))) := fun ad l c hl hc had => by
    subst hl hc
    have hap := run_append_room_cells (P := Tryd.prog) w.drew 22 22 46 i0 Tryd.underlying22 hi g 0 k cap ad (m + 1 - (k + 1)) (cap - (k + 1)) (tailCells w.drew g ((k + 1) * 3) ((m + 1) * 3)) (by rw [tail_len, hz1]; omega) (fun j u hu => by
        obtain ⟨hj, rfl⟩ := tail_get hu
        obtain ⟨u, hu2, _⟩ := HR.out.cell (j := (k + 1) * 3 + j) (by rw [HLEN.out]; omega)
        rw [had j hj, hu2]; rfl) (fun u hu => by
        obtain ⟨j, hj⟩ := List.getElem?_of_mem hu
        obtain ⟨hj2, rfl⟩ := tail_get hj
        obtain ⟨u, hu2, _, h1⟩ := HR.out.cell (j := (k + 1) * 3 + j) (by rw [HLEN.out]; omega)
        rw [hu2]; exact h1) (by omega) (fun j hj => by
        rw [tail_len] at hj
        obtain ⟨u, hu2, _⟩ := HR.out.cell (j := 0 + k * i0.size + j) (by rw [hz1, HLEN.out]; omega)
        rw [hu2]; rfl) (fun j _ => HR.out.free _)
    rw [hz1, Nat.zero_add, show k + (m + 1 - (k + 1)) = m by omega] at hap
    exact hap
  have hB : Hid (Below g w ((w.drew.setCells g (k * 3) (tailCells w.drew g ((k + 1) * 3) ((m + 1) * 3))).setCells g (m * 3) zeroF)) :=
    below_setCells g (Nat.le_refl _) _ _ _ _ (below_setCells g (Nat.le_refl _) _ _ _ _ (Below.refl g w).drew)
  have hclr : ∀ (c : Nat) (ty : TypeId), (Builtin.clear_ #[22] ty #[.slice (some ⟨g, m * 3, none⟩) 1 c]).run Tryd.prog (w.drew.setCells g (k * 3) (tailCells w.drew g ((k + 1) * 3) ((m + 1) * 3))) = .ok (.tuple #[]) ((w.drew.setCells g (k * 3) (tailCells w.drew g ((k + 1) * 3) ((m + 1) * 3))).setCells g (m * 3) zeroF) := fun c ty =>
    run_clearF (fun j hj => by
      rw [World.cell?_setCells_out g _ _ w.drew ⟨g, m * 3 + j, none⟩ (fun _ _ => by rw [tail_len]; show m * 3 + j < k * 3 ∨ k * 3 + ((m + 1) * 3 - (k + 1) * 3) ≤ m * 3 + j; omega)]
      obtain ⟨u, hu, _⟩ := HR.out.cell (j := m * 3 + j) (by rw [HLEN.out]; omega)
      rw [hu]; rfl) (fun j => by rw [World.frozen?_setCells]; exact HR.out.free j) ty
  clear h hlen hD
  generalize tailCells w.drew g ((k + 1) * 3) ((m + 1) * 3) = news at *
  have hne : ((k : Int) == (k : Int) + 1) = false := by rw [beq_eq_false_iff_ne]; omega
  have q0 : (0 : Int) ≤ (k : Int) := by omega
  have q1 : (k : Int) + 1 ≤ (m : Int) + 1 := by omega
  have q2 : (m : Int) + 1 ≤ (cap : Int) := by omega
  have q3 : (0 : Int) ≤ (m : Int) := by omega
  have q4 : (m : Int) < (cap : Int) := by omega
  by_cases hcap : k + 1 = cap
  · have hkm : k = m := by omega
    subst hkm
    obtain ⟨a1, a2, a3⟩ := appOk_of (hrun ⟨g, 0, none⟩ 0 0 (by omega) (by omega) (fun j hj => by omega))
    clear hrun
    subst hcap
    go_enter Tryd.func70, Tryd.ntmps70
    go_wp2_with fail
    go_region
    go_wp2_with fail
    go_ret
    exact ⟨_, rfl, by have := HE.out; simpa using this, hB.out⟩
  · have hcap' : ((k : Int) + 1) < (cap : Int) := by omega
    obtain ⟨a1, a2, a3⟩ := appOk_of (hrun ⟨g, (k + 1) * 3, none⟩ (m - k) (cap - (k + 1)) (by omega) rfl (fun j hj => by unfold Addr.add; split <;> simp_all))
    clear hrun
    go_enter Tryd.func70, Tryd.ntmps70
    go_wp2_with fail
    go_region
    go_wp2_with fail
    go_ret
    exact ⟨_, rfl, by have := HE.out; simpa using this, hB.out⟩

theorem delete_any (g cap k : Nat) (fs : List FileL) (vs : Nat → Value) (w : World) (h : RowF w g cap fs vs) (hk : k < fs.length) :
    Calls Tryd.prog 70 #[.slice (some ⟨g, 0, none⟩) fs.length cap, .int .i64 k, .int .i64 ((k : Int) + 1)] w fun e w' => ∃ vs', e = .returned (.slice (some ⟨g, 0, none⟩) (fs.eraseIdx k).length cap) ∧ RowF w' g cap (fs.eraseIdx k) vs' ∧ Below g w w' := by
  obtain ⟨m, hm⟩ : ∃ m, fs.length = m + 1 := ⟨fs.length - 1, by omega⟩
  have e : (fs.eraseIdx k).length = m := by rw [List.length_eraseIdx_of_lt hk]; omega
  rw [e, hm]
  exact delete_m g cap k m fs vs w h hm (by omega)

set_option maxHeartbeats 400000 in
theorem drop_any (p g cap k : Nat) (fs : List FileL) (vs : Nat → Value) (w : World) (hc : w.cell? ⟨p, 0, none⟩ = some (.slice (some ⟨g, 0, none⟩) fs.length cap)) (hf : w.frozen? ⟨p, 0, none⟩ = false) (hpg : p < g) (h : RowF w g cap fs vs) (hk : k < fs.length) :
    Calls Tryd.prog 53 #[.pointer (some ⟨p, 0, none⟩), .int .i64 k] w fun e w' => ∃ v', e = .returned (.tuple #[]) ∧ w'.cell? ⟨p, 0, none⟩ = some v' ∧ DiskR w' v' (fs.eraseIdx k) ∧ Below p w w' := by
  have HR : Hid (RowF w g cap fs vs) := h
  have hle := h.le
  have hm := h.max
  unfold maxLen at hm
  clear h
  go_enter Tryd.func53, Tryd.ntmps53
  go_wp2_with fail
  refine (delete_any g cap k fs vs _ HR.out hk).mono ?_
  rintro e w1 ⟨vs', rfl, hr1, hb1⟩
  have c1 : w1.cell? ⟨p, 0, none⟩ = some (.slice (some ⟨g, 0, none⟩) fs.length cap) := (hb1.cell (p := ⟨p, 0, none⟩) hpg).trans hc
  have f1 : w1.frozen? ⟨p, 0, none⟩ = false := (hb1.frozen (p := ⟨p, 0, none⟩) hpg).trans hf
  have D1 : Hid (DiskR (w1.setCell ⟨p, 0, none⟩ (.slice (some ⟨g, 0, none⟩) (fs.eraseIdx k).length cap)) (.slice (some ⟨g, 0, none⟩) (fs.eraseIdx k).length cap) (fs.eraseIdx k)) := by
    refine hr1.reads.setSlice c1 (fun _ b off cap' e hb => ?_)
    injection e with e1 _ _
    injection e1 with e1
    injection e1 with e1 _
    have hb' : p = b := hb
    omega
  have B1 : Hid (Below p w w1) := hb1.mono (Nat.le_of_lt hpg)
  clear hb1 hr1
  generalize hE : (fs.eraseIdx k) = fs' at *
  have HE : Hid (fs.eraseIdx k = fs') := hE
  clear hE
  go_wp2_with fail
  go_end0
  exact ⟨_, rfl, World.cell?_setCell_same _ _ _ c1, by rw [HE.out]; exact D1.out, B1.out.setCell (p := ⟨p, 0, none⟩) (show p ≤ p from Nat.le_refl _) _⟩
theorem good_erase {fs : List FileL} {k : Nat} (hg : Good fs) (hk : k < fs.length) : Good (fs.eraseIdx k) := fun i hi => by
  rw [List.length_eraseIdx_of_lt hk] at hi
  rw [getD_erase]
  split
  · exact hg i (by omega)
  · exact hg (i + 1) (by omega)
end Go.Proofs.YthakibcfmbkpkaaDoor
