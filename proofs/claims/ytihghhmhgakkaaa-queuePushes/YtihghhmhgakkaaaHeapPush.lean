/-
  Contracts of the heap's Push and Pop, and of headOf.
-/
import Derived.Test.YtihghhmhgakkaaaHeapMem
import Derived.BigRegion
namespace Go.Proofs.Ytihghhmhgakkaaa
set_option maxRecDepth 100000
open Go.ChangeShapes Go.WideShapes Go.ChangeAt Go.RowKit
attribute [local go_sem ↓] exec_append

theorem assertD (v : Value) (w : World) : (Instr.typeAssert (.iface 99 v) 20 99 false).run Try.prog w = .ok v w := by kernel_rfl
theorem boxD_set {w : World} {q : Nat} {v u f : Value} {t : TypeId} (h : w.heap[q]? = some (.cells #[v, f] t (0, 0))) : (w.setCell ⟨q, 0, none⟩ u).heap[q]? = some (.cells #[u, f] t (0, 0)) := by
  simp only [World.setCell, Array.getElem?_modify, if_true]
  rw [h]
  rfl
/-- The heap's row is another one. -/
theorem HX.store {w : World} {q : Nat} {v u : Value} {hs : List Hd} (hq : w.heap[q]? = some (.cells #[v, fnM] 96 (0, 0))) (ho : w.ownsRow q 99 3 u hs.length (hs.flatMap encD)) : HX (w.setCell ⟨q, 0, none⟩ u) q hs :=
  ⟨u, boxD_set hq, (Kept.box w q 0 u).own ho fun g hg => own_block ho hg hq (by decide)⟩

set_option maxHeartbeats 2000000 in
set_option maxRecDepth 100000 in
theorem hPush_any (q : Nat) (hs : List Hd) (x : Hd) (w : World) (h : HX w q hs) (hl : hs.length ≤ 5000) :
    Calls Try.prog 69 #[.pointer (some ⟨q, 0, none⟩), .iface 99 (.agg #[.int .i64 x.x.1, .int .i64 x.x.2, .slice x.a x.n x.c])] w fun e w' => e = .returned (.tuple #[]) ∧ HX w' q (hs ++ [x]) ∧ HK q w w' := by
  obtain ⟨a, c, hq, ho, c0, c1, hc, hm, hat⟩ := h.at
  have hql := h.lt
  unfold maxLen at hm
  have hbq : w.frozen? ⟨q, 0, none⟩ = false := box_frozen hq 0
  have hsz : (w.alloc (.cells #[.int .i64 x.x.1, .int .i64 x.x.2, .slice x.a x.n x.c] 99)).drew.heap.size = w.heap.size + 1 := by simp
  obtain ⟨g, gc, w', a1, a2, a3, hown, hbel, hgr⟩ := app_newK kD (w := (w.alloc (.cells #[.int .i64 x.x.1, .int .i64 x.x.2, .slice x.a x.n x.c] 99)).drew) 94 q (.slice a hs.length c) hs ((ho.alloc _).drew) w.heap.size x #[.int .i64 x.x.1, .int .i64 x.x.2, .slice x.a x.n x.c] rfl (0, 0) (heap_alloc_new w _) (by simp only [kD]; omega) (by unfold maxLen; omega) (by rw [hsz]; omega)
  unfold kD at a1 a2 a3 hown
  simp only at a1 a2 a3 hown
  have hrow : ∀ k, (Value.slice a hs.length c).ownBlock = some k → k ≠ q := fun k hk => own_block ho hk hq (by decide)
  have hq1 : (w.alloc (.cells #[.int .i64 x.x.1, .int .i64 x.x.2, .slice x.a x.n x.c] 99)).drew.heap[q]? = some (.cells #[.slice a hs.length c, fnM] 96 (0, 0)) := ((below_alloc w _).block q hql).trans hq
  have hq2 : w'.heap[q]? = some (.cells #[.slice a hs.length c, fnM] 96 (0, 0)) := (hgr.block q (by rw [hsz]; omega) (fun e => hrow q e.symm rfl)).trans hq1
  have k0 : w'.cell? ⟨q, 0, none⟩ = some (.slice a hs.length c) := by rw [cell_of_row _ _ _ _ _ _ hq2]; rfl
  have k1 : w'.frozen? ⟨q, 0, none⟩ = false := box_frozen hq2 0
  have hll : (hs ++ [x]).length = hs.length + 1 := by simp
  have HF : Hid (HX (w'.setCell ⟨q, 0, none⟩ (.slice (some ⟨g, 0, none⟩) (hs.length + 1) gc)) q (hs ++ [x]) ∧ HK q w (w'.setCell ⟨q, 0, none⟩ (.slice (some ⟨g, 0, none⟩) (hs.length + 1) gc))) := by
    refine ⟨HX.store hq2 hown, HK.set (HK.grown ((HK.of (below_alloc w _)).drew) hgr fun k hk => ?_) _ ?_⟩
    · rcases own_shapeK ho with ⟨e, _⟩ | ⟨g', _, e, _⟩
      · injection e with e _ _; subst e; cases hk
      · injection e with e _ _
        subst e
        injection hk with hk
        have hk' : g' = k := hk
        subst hk'
        obtain ⟨h1, cs, fr, h2⟩ := own_typed ho
        exact .inr ⟨h1, cs, _, fr, h2, .inr rfl⟩
    · exact .inr ⟨Nat.le_refl _, _, _, _, hq, .inl rfl⟩
  clear hown hbel hgr hrow hq1 hq2 hat ho hq h hll hsz
  have ta := assertD
  go_enter Try.func69, Try.ntmps69
  go_wp2_with fail
  go_region
  go_end0
  exact ⟨rfl, HF.out.1, HF.out.2⟩

theorem own_pre {w : World} {base g n cap m : Nat} {e : TypeId} {size : Nat} {xs : List Value} (h : w.ownsRow base e size (.slice (some ⟨g, 0, none⟩) n cap) n xs) (hm : m ≤ n) : w.ownsRow base e size (.slice (some ⟨g, 0, none⟩) m cap) m (xs.take (m * size)) := by
  have hle : m * size ≤ n * size := Nat.mul_le_mul_right _ hm
  refine ⟨by rw [List.length_take, h.1]; omega, ?_⟩
  rcases h.2 with ⟨hv, _⟩ | ⟨g', cap', cur, hv, hg, hgg, hc, hm2, hcur, htk⟩
  · cases hv
  · injection hv with h1 _ h3
    injection h1 with h1
    injection h1 with h1
    subst h1 h3
    refine .inr ⟨g, cap, cur, rfl, hg, hgg, by omega, hm2, hcur, ?_⟩
    rw [← htk, List.take_take, Nat.min_eq_left hle]

set_option maxHeartbeats 1000000 in
set_option maxRecDepth 100000 in
theorem hPop_any (q : Nat) (hs : List Hd) (x : Hd) (w : World) (h : HX w q (hs ++ [x])) :
    Calls Try.prog 119 #[.pointer (some ⟨q, 0, none⟩)] w fun e w' => e = .returned (.iface 99 (.agg #[.int .i64 x.x.1, .int .i64 x.x.2, .slice x.a x.n x.c])) ∧ HX w' q hs ∧ HK q w w' := by
  obtain ⟨a, c, hq, ho, c0, c1, hc, hm, hat⟩ := h.at
  have hql := h.lt
  have hll : (hs ++ [x]).length = hs.length + 1 := by simp
  obtain ⟨g, rfl, hqg, hgl, hcell⟩ := hat (by omega)
  obtain ⟨x1, x2, x3⟩ := hcell hs.length x (by simp)
  rw [hll] at hq ho c0 hc
  unfold maxLen at hm
  have hbq : w.frozen? ⟨q, 0, none⟩ = false := box_frozen hq 0
  have hq1 : ∀ o, (w.alloc o).heap[q]? = some (.cells #[.slice (some ⟨g, 0, none⟩) (hs.length + 1) c, fnM] 96 (0, 0)) := fun o => ((below_alloc w o).block q hql).trans hq
  have k0 : ∀ o, (w.alloc o).cell? ⟨q, 0, none⟩ = some (.slice (some ⟨g, 0, none⟩) (hs.length + 1) c) := fun o => by rw [cell_of_row _ _ _ _ _ _ (hq1 o)]; rfl
  have k1 : ∀ o, (w.alloc o).frozen? ⟨q, 0, none⟩ = false := fun o => box_frozen (hq1 o) 0
  have ho2 : w.ownsRow q 99 3 (.slice (some ⟨g, 0, none⟩) hs.length c) hs.length (hs.flatMap encD) := by
    have := own_pre ho (m := hs.length) (by omega)
    rw [flat_snoc] at this
    rwa [List.take_left' (flat_len encD_len hs)] at this
  have HF : Hid (∀ o, HX ((w.setCell ⟨q, 0, none⟩ (.slice (some ⟨g, 0, none⟩) hs.length c)).alloc o) q hs ∧ HK q w ((w.setCell ⟨q, 0, none⟩ (.slice (some ⟨g, 0, none⟩) hs.length c)).alloc o)) := fun o =>
    ⟨(HX.store hq ho2).below (below_alloc _ o), (HK.set (HK.refl q w) _ (.inr ⟨Nat.le_refl _, _, _, _, hq, .inl rfl⟩)).trans (HK.of (below_alloc _ o))⟩
  have i1 : IntKind.i64.wrap ((hs.length : Int) + 1 - 1) = (hs.length : Int) := by rw [Int.add_sub_cancel]; exact wrap_id64 (by omega) (by omega)
  have i2 : (0 : Int) ≤ (hs.length : Int) := by omega
  have i3 : (hs.length : Int) < (hs.length : Int) + 1 := by omega
  have i4 : hs.length ≤ c := by omega
  have i5 : (hs.length : Int) ≤ (c : Int) := by omega
  have hne : q ≠ w.heap.size := by omega
  clear ho2 hq1 hat hcell ho hq h hll c1 hbq
  go_enter Try.func119, Try.ntmps119
  go_wp2_with fail
  go_ret
  exact ⟨rfl, (HF.out _).1, (HF.out _).2⟩

/-- Where s[1:] begins. -/
def cutM (off cap : Nat) : Nat := if 1 < cap then off + 2 else off
theorem run_cutM (b off len cap : Nat) (hu : 1 ≤ len) (hc : len ≤ cap) (w : World) : (Instr.slice 22 (.slice (some ⟨b, off, none⟩) len cap) (some (.int .i64 1)) none none).run Try.prog w = .ok (.slice (some ⟨b, cutM off cap, none⟩) (len - 1) (cap - 1)) w := by
  have hsz : (sizeOf (Try.prog.elem 22)).run Try.prog w = .ok 2 w := by kernel_rfl
  have := run_slice_l (P := Try.prog) (w := w) 22 (some ⟨b, off, none⟩) len cap (by rw [Try.underlying22]; kernel_rfl) .i64 1 (by omega) (by omega)
  rw [this, hsz]
  simp only [Result.andThen, sliced]
  unfold cutM
  by_cases h : 1 < cap
  · rw [if_neg (by simp; omega), if_pos h, Option.map_some, addr_plus]
    simp
  · rw [if_pos (by simp; omega), if_neg h]
    simp
theorem reads_cutM {w : World} {b off cap : Nat} {x : Ml} {l : List Ml} (h : MlR w (.slice (some ⟨b, off, none⟩) (x :: l).length cap) (x :: l)) : MlR w (.slice (some ⟨b, cutM off cap, none⟩) l.length (cap - 1)) l := by
  obtain ⟨a, cap', hv, hc, hm, ha, hel⟩ := h
  injection hv with h1 _ h3
  subst h1 h3
  obtain ⟨b', off', e, hlt, hcell⟩ := hel (by simp)
  injection e with e
  injection e with e1 e2
  subst e1 e2
  simp only [List.length_cons] at hc
  refine ⟨_, cap - 1, rfl, by omega, by omega, fun e => (by cases e), fun hn => ⟨b, cutM off cap, rfl, hlt, fun i y hy j u hu => ?_⟩⟩
  have := hcell (i + 1) y (by simpa using hy) j u hu
  unfold cutM
  rw [if_pos (by omega)]
  rw [show off + 2 + i * 2 + j = off + (i + 1) * 2 + j by omega]
  exact this

set_option maxHeartbeats 1000000 in
set_option maxRecDepth 100000 in
theorem headOf_any (v : Value) (x : Ml) (l : List Ml) (w : World) (h : MlR w v (x :: l)) :
    Calls Try.prog 70 #[v] w fun e w' => ∃ a c, e = .returned (.agg #[.int .i64 x.1, .int .i64 x.2, .slice a l.length c]) ∧ (∀ X, MlR X v (x :: l) → MlR X (.slice a l.length c) l) ∧ Below w.heap.size w w' := by
  obtain ⟨b, off, cap, rfl, hc, hm, hb, hcell⟩ := MlR.at h (by simp)
  obtain ⟨c1, c2⟩ := hcell 0 x rfl
  simp only [Nat.zero_mul, Nat.add_zero] at c1 c2
  have HR : Hid (∀ X, MlR X (.slice (some ⟨b, off, none⟩) (l.length + 1) cap) (x :: l) → MlR X (.slice (some ⟨b, cutM off cap, none⟩) l.length (cap - 1)) l) := fun X hX => reads_cutM hX
  have rc := run_cutM b off (l.length + 1) cap (by omega) (by simpa using hc)
  simp only [Nat.add_sub_cancel] at rc
  simp only [List.length_cons] at hc ⊢
  unfold maxLen at hm
  have i1 : (0 : Int) < (l.length : Int) + 1 := by omega
  have hbne : b ≠ w.heap.size := by omega
  clear h hcell
  generalize cutM off cap = o2 at *
  go_enter Try.func70, Try.ntmps70
  go_wp2_with fail
  go_region
  go_wp2_with fail
  have hb2 := heap_alloc_new w (.cells #[.int .i64 x.1, .int .i64 x.2, .slice (some ⟨b, o2, none⟩) l.length (cap - 1)] 99)
  have r0 := fun j => cell_of_row _ _ j _ _ _ hb2
  refine bodyPost_ret (v := .agg #[.int .i64 x.1, .int .i64 x.2, .slice (some ⟨b, o2, none⟩) l.length (cap - 1)]) (by simp [results, Try.results70, go_sem, r0]) rfl ⟨_, _, rfl, HR.out, ?_⟩
  exact (below_alloc w _).drew
end Go.Proofs.Ytihghhmhgakkaaa
