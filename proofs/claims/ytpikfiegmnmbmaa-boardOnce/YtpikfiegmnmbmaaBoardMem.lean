/-
  Reports in memory: seven cells each, their two lists beside; what a board reads as, what a call owns.
-/
import Derived.Test.YtpikfiegmnmbmaaBoardMath
import Derived.Test.YtpikfiegmnmbmaaRowNew
import Derived.Test.YtpikfiegmnmbmaaKeptMem
import Derived.Test.YtpikfiegmnmbmaaBoxMem
import Derived.Test.YtpikfiegmnmbmaaAptMem
namespace Go.Proofs.Ytpikfiegmnmbmaa
set_option maxRecDepth 100000
open Go.ChangeShapes Go.WideShapes Go.ChangeAt Go.RowKit

/-- A report, and where its two lists lie. -/
structure RpG where
  r : RpL
  sa : Option Addr
  sc : Nat
  ga : Option Addr
  gc : Nat
def RpG.vs (g : RpG) : Value := .slice g.sa g.r.sent.length g.sc
def RpG.vg (g : RpG) : Value := .slice g.ga g.r.got.length g.gc
/-- The seven cells. -/
def rpC (r : RpL) (vs vg : Value) : List Value := [.int .i64 r.worker, .int .i64 r.epoch, .int .i64 r.step, vs, vg, .int .i64 r.waking, .int .i64 r.opn]
def encR (g : RpG) : List Value := rpC g.r g.vs g.vg
theorem encR_len (g : RpG) : (encR g).length = 7 := rfl
theorem encR_one (g : RpG) : ∀ u ∈ encR g, u.oneCell' = true := by
  intro u hu
  simp [encR, rpC] at hu
  rcases hu with rfl | rfl | rfl | rfl | rfl | rfl | rfl <;> rfl
abbrev RgR := RowK encR 7
theorem Try.infoR : (Try.prog.info? 32).map (fun i => (i.zero, i.size, i.bytes)) = some (some (.agg #[.int .i64 0, .int .i64 0, .int .i64 0, .slice none 0 0, .slice none 0 0, .int .i64 0, .int .i64 0]), 7, 88) := by kernel_rfl
def kR : ElK RpG := ⟨encR, 7, 22, 32, 88, .agg #[.int .i64 0, .int .i64 0, .int .i64 0, .slice none 0 0, .slice none 0 0, .int .i64 0, .int .i64 0], Try.underlying22, Try.infoR, rfl, by decide, encR_len, encR_one⟩
/-- The slice v reads as these reports. -/
def RpsR (w : World) (v : Value) (rs : List RpL) : Prop := ∃ gs : List RpG, gs.map RpG.r = rs ∧ RgR w v gs ∧ ∀ g ∈ gs, InR w g.vs g.r.sent ∧ InR w g.vg g.r.got
theorem RpsR.below {w w' : World} {v : Value} {rs : List RpL} {B : Nat} (h : RpsR w v rs) (hb : Below B w w') (hB : w.heap.size ≤ B) : RpsR w' v rs := by
  obtain ⟨gs, h1, h2, h3⟩ := h
  exact ⟨gs, h1, h2.below hb hB, fun g hg => ⟨(h3 g hg).1.below hb hB, (h3 g hg).2.below hb hB⟩⟩
theorem RpsR.nil (w : World) : RpsR w (.slice none 0 0) [] := ⟨[], rfl, RowK.nil _ _ _, fun g hg => by cases hg⟩
theorem RpsR.shape {w : World} {v : Value} {rs : List RpL} (h : RpsR w v rs) : ∃ a c, v = .slice a rs.length c := by
  obtain ⟨gs, h1, h2, _⟩ := h
  obtain ⟨a, c, e⟩ := h2.shape
  exact ⟨a, c, by rw [e, ← h1, List.length_map]⟩
/-- The cells of one report. -/
def RepC (w : World) (b o : Nat) (r : RpL) (sa : Option Addr) (sc : Nat) (ga : Option Addr) (gc : Nat) : Prop :=
  (w.cell? ⟨b, o, none⟩ = some (.int .i64 r.worker) ∧ w.cell? ⟨b, o + 1, none⟩ = some (.int .i64 r.epoch) ∧ w.cell? ⟨b, o + 2, none⟩ = some (.int .i64 r.step) ∧ w.cell? ⟨b, o + 3, none⟩ = some (.slice sa r.sent.length sc) ∧ w.cell? ⟨b, o + 4, none⟩ = some (.slice ga r.got.length gc) ∧ w.cell? ⟨b, o + 5, none⟩ = some (.int .i64 r.waking) ∧ w.cell? ⟨b, o + 6, none⟩ = some (.int .i64 r.opn)) ∧
    InR w (.slice sa r.sent.length sc) r.sent ∧ InR w (.slice ga r.got.length gc) r.got
theorem RepC.below {w w' : World} {b o B : Nat} {r : RpL} {sa : Option Addr} {sc : Nat} {ga : Option Addr} {gc : Nat} (h : RepC w b o r sa sc ga gc) (hb : Below B w w') (hB : w.heap.size ≤ B) : RepC w' b o r sa sc ga gc := by
  obtain ⟨⟨c0, c1, c2, c3, c4, c5, c6⟩, h1, h2⟩ := h
  have lt : b < B := Nat.lt_of_lt_of_le (World.block_lt_of_cell? w _ c0) hB
  exact ⟨⟨(hb.cell (p := ⟨b, o, none⟩) lt).trans c0, (hb.cell (p := ⟨b, o + 1, none⟩) lt).trans c1, (hb.cell (p := ⟨b, o + 2, none⟩) lt).trans c2, (hb.cell (p := ⟨b, o + 3, none⟩) lt).trans c3, (hb.cell (p := ⟨b, o + 4, none⟩) lt).trans c4, (hb.cell (p := ⟨b, o + 5, none⟩) lt).trans c5, (hb.cell (p := ⟨b, o + 6, none⟩) lt).trans c6⟩, h1.below hb hB, h2.below hb hB⟩
theorem RpsR.at {w : World} {v : Value} {rs : List RpL} (h : RpsR w v rs) (hn : 0 < rs.length) :
    ∃ b off cap, v = .slice (some ⟨b, off, none⟩) rs.length cap ∧ rs.length ≤ cap ∧ cap ≤ maxLen ∧ b < w.heap.size ∧ ∀ i r, rs[i]? = some r → ∃ sa sc ga gc, RepC w b (off + i * 7) r sa sc ga gc := by
  obtain ⟨gs, rfl, ⟨a, cap, rfl, hc, hm, _, hel⟩, h3⟩ := h
  rw [List.length_map] at hn
  obtain ⟨b, off, rfl, lt, hv⟩ := hel hn
  refine ⟨b, off, cap, by rw [List.length_map], by rw [List.length_map]; exact hc, hm, lt, fun i r hr => ?_⟩
  rw [List.getElem?_map] at hr
  obtain ⟨g, hg, rfl⟩ := Option.map_eq_some_iff.1 hr
  have h1 := hv i g hg
  exact ⟨g.sa, g.sc, g.ga, g.gc, ⟨h1 0 _ rfl, h1 1 _ rfl, h1 2 _ rfl, h1 3 _ rfl, h1 4 _ rfl, h1 5 _ rfl, h1 6 _ rfl⟩, h3 g (List.mem_of_getElem? hg)⟩
/-- Cut off behind. -/
theorem RpsR.take {w : World} {b off n cap k : Nat} {rs : List RpL} (h : RpsR w (.slice (some ⟨b, off, none⟩) n cap) rs) (hk : k ≤ rs.length) : RpsR w (.slice (some ⟨b, off, none⟩) k cap) (rs.take k) := by
  obtain ⟨gs, rfl, ⟨a, cap', e, hc, hm, ha, hel⟩, h3⟩ := h
  injection e with e1 e2 e3
  subst e1 e2 e3
  rw [List.length_map] at hk
  have hl : (gs.take k).length = k := List.length_take_of_le hk
  refine ⟨gs.take k, by rw [List.map_take], ⟨_, cap, by rw [hl], by rw [hl]; omega, hm, ha, fun h0 => ?_⟩, fun g hg => h3 g (List.mem_of_mem_take hg)⟩
  rw [hl] at h0
  obtain ⟨b', off', e, lt, hv⟩ := hel (by omega)
  refine ⟨b', off', e, lt, fun i x hx => hv i x ?_⟩
  have hi : i < k := by have := (List.getElem?_eq_some_iff.1 hx).1; omega
  rwa [List.getElem?_take_of_lt hi] at hx
/-- Reports of the call's own, their lists too. -/
def OwnR (w : World) (base : Nat) (v : Value) (rs : List RpL) : Prop :=
  ∃ gs : List RpG, gs.map RpG.r = rs ∧ w.ownsRow base 32 7 v gs.length (gs.flatMap encR) ∧ ∀ g ∈ gs, w.ownsRow base 3 1 g.vs g.r.sent.length (g.r.sent.flatMap encI) ∧ w.ownsRow base 3 1 g.vg g.r.got.length (g.r.got.flatMap encI)
theorem OwnR.nil (w : World) (base : Nat) : OwnR w base (.slice none 0 0) [] := ⟨[], rfl, World.ownsRow_nil _ _ _ _, fun g hg => by cases hg⟩
theorem OwnR.reads {w : World} {base : Nat} {v : Value} {rs : List RpL} (h : OwnR w base v rs) : RpsR w v rs := by
  obtain ⟨gs, h1, h2, h3⟩ := h
  exact ⟨gs, h1, RowK.own encR_len h2, fun g hg => ⟨RowK.own encI_len (h3 g hg).1, RowK.own encI_len (h3 g hg).2⟩⟩
theorem OwnR.lower {w : World} {base b : Nat} {v : Value} {rs : List RpL} (h : OwnR w base v rs) (hb : b ≤ base) : OwnR w b v rs := by
  obtain ⟨gs, h1, h2, h3⟩ := h
  exact ⟨gs, h1, own_lower h2 hb, fun g hg => ⟨own_lower (h3 g hg).1 hb, own_lower (h3 g hg).2 hb⟩⟩
theorem OwnR.below {w w' : World} {base B : Nat} {v : Value} {rs : List RpL} (h : OwnR w base v rs) (hb : Below B w w') (hB : w.heap.size ≤ B) : OwnR w' base v rs := by
  obtain ⟨gs, h1, h2, h3⟩ := h
  exact ⟨gs, h1, own_below h2 hb hB, fun g hg => ⟨own_below (h3 g hg).1 hb hB, own_below (h3 g hg).2 hb hB⟩⟩
theorem OwnR.kept {S : Nat → Prop} {w w' : World} {base : Nat} {v : Value} {rs : List RpL} (h : OwnR w base v rs) (hk : Kept S w w') (hs : ∀ g, base ≤ g → ¬ S g) : OwnR w' base v rs := by
  obtain ⟨gs, h1, h2, h3⟩ := h
  exact ⟨gs, h1, hk.own h2 fun g hg => hs g (own_ge h2 hg).1, fun g hg => ⟨hk.own (h3 g hg).1 fun k hk => hs k (own_ge (h3 g hg).1 hk).1, hk.own (h3 g hg).2 fun k hk => hs k (own_ge (h3 g hg).2 hk).1⟩⟩
theorem OwnR.drew {w : World} {base : Nat} {v : Value} {rs : List RpL} (h : OwnR w base v rs) : OwnR w.drew base v rs := h.kept (Kept.refl (fun _ => False) w).drew (fun _ _ h => h)
/-- A box of another type is written. -/
theorem OwnR.box {w : World} {base q i : Nat} {v u : Value} {rs : List RpL} {cs : Array Value} {t : TypeId} {fr : Nat × Nat} (h : OwnR w base v rs) (hq : w.heap[q]? = some (.cells cs t fr)) (h1 : 32 ≠ t) (h2 : 3 ≠ t) : OwnR (w.setCell ⟨q, i, none⟩ u) base v rs := by
  obtain ⟨gs, k1, k2, k3⟩ := h
  exact ⟨gs, k1, (Kept.box w q i u).own k2 fun g hg => own_block k2 hg hq h1, fun g hg => ⟨(Kept.box w q i u).own (k3 g hg).1 fun k hk => own_block (k3 g hg).1 hk hq h2, (Kept.box w q i u).own (k3 g hg).2 fun k hk => own_block (k3 g hg).2 hk hq h2⟩⟩
theorem OwnR.shape {w : World} {base : Nat} {v : Value} {rs : List RpL} (h : OwnR w base v rs) : ∃ a c, v = .slice a rs.length c := h.reads.shape
theorem OwnR.row {w : World} {base : Nat} {v : Value} {rs : List RpL} (h : OwnR w base v rs) : ∃ xs, w.ownsRow base 32 7 v rs.length xs := by
  obtain ⟨gs, h1, h2, _⟩ := h
  exact ⟨_, by rw [← h1, List.length_map]; exact h2⟩
/-- One more report is appended. -/
theorem run_append_rep {w : World} (ty : TypeId) (base : Nat) (v : Value) (rs : List RpL) (h : OwnR w base v rs) (B : Nat) (r : RpL) (vs vg : Value) (fr : Nat × Nat) (hB : w.heap[B]? = some (.cells (rpC r vs vg).toArray 32 fr))
    (hs : w.ownsRow base 3 1 vs r.sent.length (r.sent.flatMap encI)) (hg : w.ownsRow base 3 1 vg r.got.length (r.got.flatMap encI)) (hlen : (rs.length + 1) * 88 ≤ 140737488355328) (hbase : base ≤ w.heap.size) :
    ∃ g c w', (Builtin.append_ #[22, 22] ty #[v, .slice (some ⟨B, 0, none⟩) 1 1]).run Try.prog w = .ok (.slice (some ⟨g, 0, none⟩) (rs.length + 1) c) w' ∧ OwnR w' base (.slice (some ⟨g, 0, none⟩) (rs.length + 1) c) (rs ++ [r]) ∧ w.grownBy w' v.ownBlock := by
  obtain ⟨gs, rfl, h2, h3⟩ := h
  obtain ⟨sa, sc, rfl⟩ := (RowK.own encI_len hs : InR w vs r.sent).shape
  obtain ⟨ga, gc, rfl⟩ := (RowK.own encI_len hg : InR w vg r.got).shape
  rw [List.length_map] at hlen ⊢
  obtain ⟨g, c, w', hrun, ho, hgr⟩ := run_append_newK kR ty base v gs h2 B ⟨r, sa, sc, ga, gc⟩ (rpC r (.slice sa r.sent.length sc) (.slice ga r.got.length gc)).toArray rfl fr hB hlen (by unfold maxLen; omega) hbase
  refine ⟨g, c, w', hrun, ⟨gs ++ [⟨r, sa, sc, ga, gc⟩], by simp, by simpa [kR] using ho, fun x hx => ?_⟩, hgr⟩
  rcases List.mem_append.1 hx with hx | hx
  · exact ⟨(h3 x hx).1.kept hgr (own_apart (h3 x hx).1 h2 (by decide)), (h3 x hx).2.kept hgr (own_apart (h3 x hx).2 h2 (by decide))⟩
  · rw [List.mem_singleton] at hx
    subst hx
    exact ⟨hs.kept hgr (own_apart hs h2 (by decide)), hg.kept hgr (own_apart hg h2 (by decide))⟩
end Go.Proofs.Ytpikfiegmnmbmaa
