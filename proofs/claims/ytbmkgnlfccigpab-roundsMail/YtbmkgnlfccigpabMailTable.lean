/-
  A table of lists of numbers that grow each by itself.
-/
import Derived.Test.YtbmkgnlfccigpabIntLists
import Derived.Test.YtbmkgnlfccigpabRowLies
namespace Go.Proofs.Ytbmkgnlfccigpab
set_option maxRecDepth 100000
open Go.ChangeShapes Go.WideShapes Go.ChangeAt Go.RowKit

/-- A table of lists of numbers: each grows by itself. -/
structure TbI (w : World) (base g n : Nat) (vs : List Value) (f : List (List Int)) : Prop where
  row : w.ownsRow base 30 1 (.slice (some ⟨g, 0, none⟩) n n) n vs
  lv : vs.length = n
  lf : f.length = n
  el : ∀ (j : Nat) (u : Value) (l : List Int), vs[j]? = some u → f[j]? = some l → w.ownsRow base 3 1 u l.length (l.flatMap encI)
  ap : ∀ (i j : Nat) (u v : Value), i ≠ j → vs[i]? = some u → vs[j]? = some v → Apt u v
theorem TbI.kept {w w' : World} {base g n : Nat} {vs : List Value} {f : List (List Int)} (h : TbI w base g n vs f) (hk : Kept (fun _ => False) w w') : TbI w' base g n vs f :=
  ⟨hk.own h.row fun _ _ h => h, h.lv, h.lf, fun j u l hu hl => hk.own (h.el j u l hu hl) fun _ _ h => h, h.ap⟩
theorem TbI.own {w : World} {base g n : Nat} {vs : List Value} {f : List (List Int)} (h : TbI w base g n vs f) : OwnLi w base (.slice (some ⟨g, 0, none⟩) n n) f :=
  ⟨vs, by rw [h.lv, h.lf], by rw [h.lf]; exact h.row, h.el⟩
theorem TbI.cell {w : World} {base g n j : Nat} {vs : List Value} {f : List (List Int)} {u : Value} (h : TbI w base g n vs f) (hu : vs[j]? = some u) : w.cell? ⟨g, j, none⟩ = some u := by
  have := h.row.cells rfl j u hu
  rwa [addr_add] at this
/-- One of the lists has grown. -/
theorem TbI.put {w w' : World} {base g n j g' m c : Nat} {vs : List Value} {f : List (List Int)} {u : Value} {l : List Int} {x : Int} (h : TbI w base g n vs f) (hu : vs[j]? = some u) (hl : f[j]? = some l)
    (hg : w.grownBy w' u.ownBlock) (ho : w'.ownsRow base 3 1 (.slice (some ⟨g', 0, none⟩) m c) (l ++ [x]).length ((l ++ [x]).flatMap encI)) (hli : u.ownBlock = some g' ∨ g' = w.heap.size) :
    TbI (w'.setCell ⟨g, j, none⟩ (.slice (some ⟨g', 0, none⟩) m c)) base g n (vs.set j (.slice (some ⟨g', 0, none⟩) m c)) (f.set j (l ++ [x])) ∧ w'.cell? ⟨g, j, none⟩ = some u ∧ w'.frozen? ⟨g, j, none⟩ = false := by
  have hel := h.el j u l hu hl
  have hrow : w'.ownsRow base 30 1 (.slice (some ⟨g, 0, none⟩) n n) n vs := h.row.kept hg (own_apart h.row hel (by decide))
  have hgb : ∃ cur, w'.heap[g]? = some (.cells cur 30 (0, 0)) := by
    rcases hrow.2 with ⟨hv, _⟩ | ⟨g2, c2, cur, hv, _, hgg, _⟩
    · cases hv
    · injection hv with hv
      injection hv with hv
      injection hv with hv
      subst hv
      exact ⟨cur, hgg⟩
  obtain ⟨cur, hgb⟩ := hgb
  have hjn : j < vs.length := (List.getElem?_eq_some_iff.1 hu).1
  refine ⟨⟨own_setRow hrow, by rw [List.length_set]; exact h.lv, by rw [List.length_set]; exact h.lf, ?_, ?_⟩, ?_, frozenK hrow j⟩
  · intro i v k hv hk
    have kb := Kept.box w' g j (.slice (some ⟨g', 0, none⟩) m c)
    by_cases hij : j = i
    · subst hij
      rw [List.getElem?_set_self hjn] at hv
      rw [List.getElem?_set_self (by rw [h.lf, ← h.lv]; exact hjn)] at hk
      injection hv with hv
      injection hk with hk
      subst hv hk
      exact kb.own ho fun q hq => own_block ho hq hgb (by decide)
    · rw [List.getElem?_set_ne hij] at hv hk
      have h1 := h.el i v k hv hk
      have h2 := h1.kept hg (h.ap i j v u (fun e => hij e.symm) hv hu).or
      exact kb.own h2 fun q hq => own_block h2 hq hgb (by decide)
  · intro i k a b hik ha hb
    by_cases h1 : j = i
    · subst h1
      rw [List.getElem?_set_self hjn] at ha
      injection ha with ha
      subst ha
      rw [List.getElem?_set_ne hik] at hb
      have hkf : k < f.length := by rw [h.lf, ← h.lv]; exact (List.getElem?_eq_some_iff.1 hb).1
      exact (h.ap j k u b hik hu hb).grown hli (h.el k b f[k] hb (List.getElem?_eq_getElem hkf))
    · rw [List.getElem?_set_ne h1] at ha
      by_cases h2 : j = k
      · subst h2
        rw [List.getElem?_set_self hjn] at hb
        injection hb with hb
        subst hb
        have hif : i < f.length := by rw [h.lf, ← h.lv]; exact (List.getElem?_eq_some_iff.1 ha).1
        exact ((h.ap j i u a (fun e => hik e.symm) hu ha).grown hli (h.el i a f[i] ha (List.getElem?_eq_getElem hif))).symm
      · rw [List.getElem?_set_ne h2] at hb
        exact h.ap i k a b hik ha hb
  · have := hrow.cells rfl j u hu
    rwa [addr_add] at this
theorem made_nilI (m : Nat) : (madeCells (Value.slice none 0 0).cells (m * 1)).toList = List.replicate m (.slice none 0 0) := by
  simp [madeCells, Value.cells]
  refine List.ext_getElem? fun v => ?_
  rcases Nat.lt_or_ge v m with hv | hv
  · rw [List.getElem?_map, List.getElem?_range hv, List.getElem?_replicate, if_pos hv]
    simp [Nat.mod_one]
  · rw [List.getElem?_eq_none (by simpa using hv), List.getElem?_eq_none (by simpa using hv)]
/-- make([][]int, m). -/
theorem make_tbi (w : World) (m : Nat) (hm : m ≤ 1000000) :
    ∃ w', (Instr.makeSlice 32 (.int .i64 (m : Int)) (.int .i64 (m : Int))).run Try.prog w = .ok (.slice (some ⟨w.heap.size, 0, none⟩) m m) w' ∧ TbI w' w.heap.size w.heap.size m (List.replicate m (.slice none 0 0)) (List.replicate m []) ∧ Below w.heap.size w w' := by
  obtain ⟨i0, hi, hz0, hz1, hz2⟩ := info_parts Try.infoLi
  obtain ⟨w', h1, h2, h3⟩ := run_makeSlice_full (P := Try.prog) w w.heap.size 32 30 i0 (.slice none 0 0) 1 Try.underlying32 hi hz0 hz1 .i64 .i64 m (by omega) (by rw [hz2]; omega) (by unfold maxLen; omega) (Nat.le_refl _)
  rw [made_nilI] at h2
  refine ⟨w', h1, ⟨h2, by simp, by simp, fun j u l hu hl => ?_, fun i j u v _ hu _ => ?_⟩, (Below.refl _ _).grown h3 (Nat.le_refl _) (fun k hk => by cases hk)⟩
  · rw [List.getElem?_replicate] at hu hl
    split at hu
    · injection hu with hu
      rw [if_pos (by assumption)] at hl
      injection hl with hl
      subst hu hl
      exact World.ownsRow_nil _ _ _ _
    · cases hu
  · rw [List.getElem?_replicate] at hu
    split at hu
    · injection hu with hu
      subst hu
      exact Apt.nil _
    · cases hu

theorem TbI.lower {w : World} {base b g n : Nat} {vs : List Value} {f : List (List Int)} (h : TbI w base g n vs f) (hb : b ≤ base) : TbI w b g n vs f :=
  ⟨own_lower h.row hb, h.lv, h.lf, fun j u l hu hl => own_lower (h.el j u l hu hl) hb, h.ap⟩
/-- Blocks of other types are written. -/
theorem TbI.off {S : Nat → Prop} {w w' : World} {base g n : Nat} {vs : List Value} {f : List (List Int)} (h : TbI w base g n vs f) (hk : Kept S w w') (hs : ∀ k, S k → ∃ cs t fr, w.heap[k]? = some (.cells cs t fr) ∧ 30 ≠ t ∧ 3 ≠ t) : TbI w' base g n vs f :=
  ⟨hk.own h.row fun q hq hS => by obtain ⟨cs, t, fr, h1, h2, h3⟩ := hs q hS; exact own_block h.row hq h1 h2 rfl, h.lv, h.lf, fun j u l hu hl => hk.own (h.el j u l hu hl) fun q hq hS => by obtain ⟨cs, t, fr, h1, h2, h3⟩ := hs q hS; exact own_block (h.el j u l hu hl) hq h1 h3 rfl, h.ap⟩
/-- One of the lists is written anew, in its place. -/
theorem TbI.turn {w w' : World} {base g n j : Nat} {vs : List Value} {f : List (List Int)} {u : Value} {l l' : List Int} (h : TbI w base g n vs f) (hu : vs[j]? = some u) (hl : f[j]? = some l)
    (hk : Kept (fun q => u.ownBlock = some q) w w') (ho : w'.ownsRow base 3 1 u l'.length (l'.flatMap encI)) : TbI w' base g n vs (f.set j l') := by
  have hel := h.el j u l hu hl
  refine ⟨hk.own h.row fun q hq hs => ?_, h.lv, by rw [List.length_set]; exact h.lf, ?_, h.ap⟩
  · rcases own_apart h.row hel (by decide) with e | e
    · rw [e] at hq; cases hq
    · exact e (hq.trans hs.symm)
  · intro i v k hv hk2
    by_cases hij : j = i
    · subst hij
      rw [List.getElem?_set_self (List.getElem?_eq_some_iff.1 hl).1] at hk2
      rw [hu] at hv
      injection hv with hv
      injection hk2 with hk2
      subst hv hk2
      exact ho
    · rw [List.getElem?_set_ne hij] at hk2
      exact hk.own (h.el i v k hv hk2) fun q hq hs => h.ap i j v u (fun e => hij e.symm) hv hu q hq hs
end Go.Proofs.Ytbmkgnlfccigpab
