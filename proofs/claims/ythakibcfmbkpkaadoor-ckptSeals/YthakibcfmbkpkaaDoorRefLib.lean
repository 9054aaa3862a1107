/-
  What the document's own changes of a disk have in common: the disk is copied, a new one is built out of it.
-/
import Derived.Test.YthakibcfmbkpkaaDoorFaceLib
import Derived.Test.YthakibcfmbkpkaaDoorLawSame
namespace Go.Proofs.YthakibcfmbkpkaaDoor
set_option maxRecDepth 100000
open Go.ChangeShapes Go.WideShapes Go.ChangeAt Go.RowKit

/-- A row of files of the call's own from block rb on, whose data lies in rows of the call's own from block db on. -/
structure RowD (w : World) (rb db : Nat) (v : Value) (fs : List FileL) (vs : List Value) : Prop where
  len : vs.length = fs.length
  row : w.ownsRow rb 46 3 v fs.length (rows fs vs)
  data : ∀ i, i < fs.length → w.ownsRow db 5 1 (vs.getD i undef) (fs.getD i noF).data.length ((fs.getD i noF).data.map (Value.int .u8))

theorem RowD.nil (w : World) (rb db : Nat) : RowD w rb db (.slice none 0 0) [] [] := ⟨rfl, World.ownsRow_nil _ _ _ _, fun i hi => by simp at hi⟩
theorem RowD.below {w w' : World} {rb db B : Nat} {v : Value} {fs : List FileL} {vs : List Value} (h : RowD w rb db v fs vs) (hb : Below B w w') (hB : w.heap.size ≤ B) : RowD w' rb db v fs vs :=
  ⟨h.len, own_below h.row hb hB, fun i hi => own_below (h.data i hi) hb hB⟩
theorem RowD.drew {w : World} {rb db : Nat} {v : Value} {fs : List FileL} {vs : List Value} (h : RowD w rb db v fs vs) : RowD w.drew rb db v fs vs := ⟨h.len, h.row.drew, fun i hi => (h.data i hi).drew⟩
theorem RowD.alloc {w : World} {rb db : Nat} {v : Value} {fs : List FileL} {vs : List Value} (h : RowD w rb db v fs vs) (o : Obj) : RowD (w.alloc o) rb db v fs vs := h.below (below_alloc w o) (Nat.le_refl _)
theorem RowD.not {w : World} {rb db k : Nat} {v : Value} {fs : List FileL} {vs : List Value} (h : RowD w rb db v fs vs) (hk : k < rb) : some k ≠ v.ownBlock := fun e => by have := (h.row.lt k e.symm).1; omega
/-- A cell of another block is written that holds no byte. -/
theorem RowD.set {w : World} {rb db : Nat} {v x : Value} {fs : List FileL} {vs : List Value} {p : Nat} (h : RowD w rb db v fs vs) (hp : p < rb) (hd : ∀ i, i < fs.length → (vs.getD i undef).ownBlock = none ∨ (vs.getD i undef).ownBlock ≠ some p) : RowD (w.setCell ⟨p, 0, none⟩ x) rb db v fs vs :=
  ⟨h.len, ownsRow_setCell_below h.row hp x, fun i hi => own_other (h.data i hi) (hd i hi)⟩
theorem RowD.reads {w : World} {rb db : Nat} {v : Value} {fs : List FileL} {vs : List Value} (h : RowD w rb db v fs vs) : DiskR w v fs := by
  rcases h.row.2 with ⟨hv, h0⟩ | ⟨g, cap, cur, hv, hg, hgg, hc, hm, _⟩
  · have : fs = [] := List.eq_nil_of_length_eq_zero h0
    subst this hv
    exact ⟨none, 0, rfl, by simp, by simp [maxLen], fun _ => rfl, fun hn => by simp at hn⟩
  · subst hv
    have hcell : ∀ j u, (rows fs vs)[j]? = some u → w.cell? ⟨g, j, none⟩ = some u := fun j u hu => by
      have := h.row.cells rfl j u hu
      rwa [addr_add] at this
    refine ⟨_, cap, rfl, hc, hm, fun e => (by cases e), fun _ => ⟨g, 0, rfl, (Array.getElem?_eq_some_iff.1 hgg).1, fun i => vs.getD i undef, fun i hi => ?_⟩⟩
    obtain ⟨r1, r2, r3⟩ := rows_at i h.len hi
    rw [Nat.zero_add]
    exact ⟨hcell _ _ r1, hcell _ _ r2, hcell _ _ r3, reads_own (h.data i hi)⟩
theorem RowD.shape {w : World} {rb db : Nat} {v : Value} {fs : List FileL} {vs : List Value} (h : RowD w rb db v fs vs) : ∃ a c, v = .slice a fs.length c := by
  obtain ⟨a, c, e, _⟩ := h.reads; exact ⟨a, c, e⟩
theorem RowD.snoc {w w' : World} {rb db : Nat} {v v' dv : Value} {fs : List FileL} {vs : List Value} {f : FileL} (h : RowD w rb db v fs vs)
    (hrow : w'.ownsRow rb 46 3 v' (fs.length + 1) (rows fs vs ++ [.string f.name, dv, .int .i64 f.synced])) (hg : w.grownBy w' v.ownBlock)
    (hd : w.ownsRow db 5 1 dv f.data.length (f.data.map (Value.int .u8))) : RowD w' rb db v' (fs ++ [f]) (vs ++ [dv]) := by
  refine ⟨by simp [h.len], by rw [rows_snoc _ _ h.len]; simpa using hrow, ?_⟩
  intro i hi
  by_cases hlt : i < fs.length
  · rw [getD_app_left (by rw [h.len]; exact hlt), getD_app_left hlt]
    exact (h.data i hlt).kept hg (own_apart (h.data i hlt) h.row (by decide))
  · have e : i = fs.length := by simp at hi; omega
    subst e
    rw [getD_app_last]
    have e2 : (vs ++ [dv]).getD fs.length undef = dv := by rw [← h.len]; exact getD_app_last
    rw [e2]
    exact hd.kept hg (own_apart hd h.row (by decide))
/-- What an append of one file to such a row comes to. -/
theorem run_snoc {w : World} {rb db : Nat} {v : Value} {fs : List FileL} {vs : List Value} (h : RowD w rb db v fs vs) (f : FileL) {da : Option Addr} {dn dc : Nat} (hd : w.ownsRow db 5 1 (.slice da dn dc) f.data.length (f.data.map (Value.int .u8))) (hl : (fs.length + 1) * 48 ≤ 140737488355328) (hrb : rb ≤ w.heap.size) :
    ∃ g c w', AppOk Tryd.prog #[22, 22] 22 #[v, .slice (some ⟨w.heap.size, 0, none⟩) 1 1] (w.alloc (.cells #[.string f.name, .slice da dn dc, .int .i64 f.synced] 46)).drew ∧
      appV Tryd.prog #[22, 22] 22 #[v, .slice (some ⟨w.heap.size, 0, none⟩) 1 1] (w.alloc (.cells #[.string f.name, .slice da dn dc, .int .i64 f.synced] 46)).drew = .slice (some ⟨g, 0, none⟩) (fs.length + 1) c ∧
      appW Tryd.prog #[22, 22] 22 #[v, .slice (some ⟨w.heap.size, 0, none⟩) 1 1] (w.alloc (.cells #[.string f.name, .slice da dn dc, .int .i64 f.synced] 46)).drew = w' ∧
      RowD w' rb db (.slice (some ⟨g, 0, none⟩) (fs.length + 1) c) (fs ++ [f]) (vs ++ [.slice da dn dc]) ∧ Below rb w w' ∧ w.heap.size ≤ w'.heap.size := by
  obtain ⟨i0, hi, hz0, hz1, hz2⟩ := info_parts Tryd.infoF
  obtain ⟨g, c, w', hrun, hown, hgrow, _, _⟩ := run_append_lies (P := Tryd.prog) (w.alloc (.cells #[.string f.name, .slice da dn dc, .int .i64 f.synced] 46)).drew 22 22 rb 46 i0 _ 3 48 Tryd.underlying22 hi hz0 hz1 hz2 rfl (by omega) v _ _ ((h.row.alloc _).drew)
    ⟨w.heap.size, 0, none⟩ 1 1 [.string f.name, .slice da dn dc, .int .i64 f.synced] (by rfl) (World.news_of_block (cs := #[.string f.name, .slice da dn dc, .int .i64 f.synced]) (t := 46) (fr := (0, 0)) (heap_alloc_new w _)) (file_oneCell f rfl)
    (by omega) (by unfold maxLen; omega) (by omega) (by simp; omega) _ rfl
  obtain ⟨a1, a2, a3⟩ := appOk_of hrun
  refine ⟨g, c, w', a1, a2, a3, (h.alloc _).drew.snoc hown hgrow (hd.alloc _).drew, ?_, ?_⟩
  · exact (((Below.refl rb w).alloc hrb _).drew).grown hgrow (by simp; omega) (fun j hj => (h.row.lt j hj).1)
  · have := hgrow.size; simp at this; omega

/-- 'append(s, f)' of one file to such a row, as a law for the walk. -/
theorem wpList_append_file {w : World} {ops : Array Oper} {rest : List Oper} {o : Oper} {a : Act} {Q : Exit → Act → World → Prop} (hgd : o.guard = none) (s x : Operand)
    (ho : o.op = .call { callee := .builtin .append, args := #[s, x], argTypes := #[22, 22] })
    (rb db : Nat) (v : Value) (fs : List FileL) (vs : List Value) (hs : a.eval s = v) (h : RowD w rb db v fs vs) (f : FileL) (da : Option Addr) (dn dc : Nat) (hd : w.ownsRow db 5 1 (.slice da dn dc) f.data.length (f.data.map (Value.int .u8)))
    (B : Nat) (hx : a.eval x = .slice (some ⟨B, 0, none⟩) 1 1) (hblk : w.heap[B]? = some (.cells #[.string f.name, .slice da dn dc, .int .i64 f.synced] 46 (0, 0))) (hl : (fs.length + 1) * 48 ≤ 140737488355328) (hrb : rb ≤ w.heap.size)
    (hk : ∀ g c w', RowD w' rb db (.slice (some ⟨g, 0, none⟩) (fs.length + 1) c) (fs ++ [f]) (vs ++ [.slice da dn dc]) → Below rb w w' → wpList Tryd.prog ops Q rest (a.put o.dst (.slice (some ⟨g, 0, none⟩) (fs.length + 1) c)) w') :
    wpList Tryd.prog ops Q (o :: rest) a w := by
  obtain ⟨i0, hi, hz0, hz1, hz2⟩ := info_parts Tryd.infoF
  refine wpList_append_lies w hgd s x 22 ho rb 46 i0 _ 3 48 Tryd.underlying22 hi hz0 hz1 hz2 rfl (by omega) v _ _ hs h.row ⟨B, 0, none⟩ 1 1 [.string f.name, .slice da dn dc, .int .i64 f.synced] hx rfl (World.news_of_block (cs := #[.string f.name, .slice da dn dc, .int .i64 f.synced]) hblk) (file_oneCell f rfl) (by omega) (by unfold maxLen; omega) (by omega) hrb _ rfl ?_
  intro g c w' hown hgrow _ _
  exact hk g c w' (h.snoc hown hgrow hd) ((Below.refl rb w).grown hgrow hrb (fun j hj => (h.row.lt j hj).1))
end Go.Proofs.YthakibcfmbkpkaaDoor
