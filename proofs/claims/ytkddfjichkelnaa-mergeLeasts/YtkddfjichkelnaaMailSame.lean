/-
  Contracts of the law's own mails, sameMails, lists, sameLists: copies, and what reads alike.
-/
import Derived.Test.YtkddfjichkelnaaMailLists
import Derived.Deep.QuietTactic
import Derived.BigQuiet
import Derived.Lib.QuietBelow
namespace Go.Proofs.Ytkddfjichkelnaa
set_option maxRecDepth 100000
open Go.ChangeShapes Go.WideShapes Go.ChangeAt Go.RowKit Go.Sort

set_option maxHeartbeats 1000000 in
set_option maxRecDepth 100000 in
theorem sameMails_yes (va vb : Value) (es : List Ml) (w : World) (ha : MlR w va es) (hb : MlR w vb es) :
    Calls Try.prog 12 #[va, vb] w fun e w' => e = .returned (.bool true) ∧ Below w.heap.size w w' := by
  have HA : Hid (MlR w va es) := ha
  have HB : Hid (MlR w vb es) := hb
  obtain ⟨a, ca, rfl, hca, hma, _, _⟩ := ha
  obtain ⟨b, cb, rfl, hcb, hmb, _, _⟩ := hb
  unfold maxLen at hma hmb
  have hll : ((es.length : Int) != (es.length : Int)) = false := by simp
  go_enter Try.func12, Try.ntmps12
  go_wp2_with fail
  go_loopw [5] (fun i wr => ∃ k : Nat, k ≤ es.length ∧ i = .int .i64 k ∧ Below w.heap.size w wr) (fun i _ => es.length - (intOf i).toNat)
  case atStart => exact ⟨0, by omega, rfl, Below.refl _ _⟩
  case round =>
    obtain ⟨k, hk, rfl, hbel⟩ := hrel
    have HBL : Hid (Below w.heap.size w wr) := hbel
    clear hbel
    by_cases hlt : k < es.length
    · obtain ⟨xa, oa, cap', e1, _, _, la, hva⟩ := MlR.at (HA.out.below HBL.out (Nat.le_refl _)) (by omega)
      injection e1 with e1 _ e3
      subst e1 e3
      obtain ⟨xb, ob, cap', e1, _, _, lb, hvb⟩ := MlR.at (HB.out.below HBL.out (Nat.le_refl _)) (by omega)
      injection e1 with e1 _ e3
      subst e1 e3
      obtain ⟨x, hx⟩ := getX hlt
      have p0 : (0 : Int) ≤ (k : Int) := by omega
      have p1 : (k : Int) < (es.length : Int) := by omega
      obtain ⟨c1, c2⟩ := hva k x hx
      obtain ⟨d1, d2⟩ := hvb k x hx
      obtain ⟨xt, xc⟩ := x
      simp only at c1 c2 d1 d2
      clear hva hvb hx
      go_wp2_with fail
      go_quiet (fail)
      go_wp2_with fail
      go_roundw
      case rel => exact ⟨k + 1, by omega, by go_num, below_drewN HBL.out _⟩
      case measure => simp [intOf]; omega
    · go_wp2_with fail
      go_ret
      exact ⟨rfl, HBL.out⟩


set_option maxHeartbeats 1000000 in
theorem mails_any (v : Value) (es : List Ml) (w : World) (h : MlR w v es) (hl : es.length * 16 ≤ 140737488351232) :
    Calls Try.prog 9 #[v] w fun e w' => ∃ v', e = .returned v' ∧ w'.ownsRow w.heap.size 40 2 v' es.length (es.flatMap encM) ∧ Below w.heap.size w w' := by
  have HR : Hid (MlR w v es) := h
  obtain ⟨a, cap, rfl, hc, hm, _, _⟩ := h
  unfold maxLen at hm
  go_enter Try.func9, Try.ntmps9
  go_wp2_with (at_builtin; refine wpList_append_rowK kM rfl _ _ rfl w.heap.size _ ([] : List Ml) rfl (World.ownsRow_nil _ _ _ _) _ es rfl HR.out ?d1 ?d2 (Nat.le_refl _) ?_)
  case d1 => simp [kM]; omega
  case d2 => simp [maxLen]; omega
  intro v' w' hown hb _
  have OW : Hid (w'.ownsRow w.heap.size 40 2 v' es.length (es.flatMap encM)) := by
    show World.ownsRow _ _ _ _ _ _ _
    simpa [kM] using hown
  have HB : Hid (Below w.heap.size w w') := hb
  clear hown hb
  go_wp2_with fail
  go_ret
  exact ⟨_, rfl, OW.out, HB.out⟩

set_option maxHeartbeats 1000000 in
set_option maxRecDepth 100000 in
theorem lists_any (v : Value) (f : List (List Ml)) (w : World) (h : LmR w v f) (hl : ∀ l ∈ f, l.length * 16 ≤ 140737488351232) (hn : f.length * 24 ≤ 140737488351232) :
    Calls Try.prog 13 #[v] w fun e w' => ∃ v', e = .returned v' ∧ LmR w' v' f ∧ Below w.heap.size w w' := by
  have HR : Hid (LmR w v f) := h
  have HL : Hid (∀ l ∈ f, l.length * 16 ≤ 140737488351232) := hl
  obtain ⟨a, cap, rfl, hc, hm, _⟩ := h
  unfold maxLen at hm
  clear hl
  go_enter Try.func13, Try.ntmps13
  go_wp2_with fail
  go_loopw [3, 4] (fun u i wr => ∃ k : Nat, k ≤ f.length ∧ i = .int .i64 k ∧ OwnLm wr w.heap.size u (f.take k) ∧ Below w.heap.size w wr) (fun _ i _ => f.length - (intOf i).toNat)
  case atStart => exact ⟨0, by omega, rfl, OwnLm.nil _ _, Below.refl _ _⟩
  case round =>
    obtain ⟨k, hk, rfl, hown, hbel⟩ := hrel
    have OW : Hid (OwnLm wr w.heap.size u3 (f.take k)) := hown
    have HB : Hid (Below w.heap.size w wr) := hbel
    have hsr := hbel.size
    clear hown hbel
    by_cases hlt : k < f.length
    · obtain ⟨b, off, cap', e1, lt, _, _, hv⟩ := (HR.out.below HB.out (Nat.le_refl _)).at (by omega)
      injection e1 with e1 _ e3
      subst e1 e3
      obtain ⟨l, hl⟩ := getX hlt
      obtain ⟨u, hu, hpr⟩ := hv k l hl
      have HP : Hid (MlR wr u l) := hpr
      obtain ⟨ua, uc, rfl⟩ := hpr.shape
      have hll := HL.out l (List.mem_of_getElem? hl)
      have HT : Hid (f.take (k + 1) = f.take k ++ [l]) := take_snoc hl
      have htl : (f.take k).length = k := by simp; omega
      clear hl hv hpr
      generalize f.take k = t at *
      go_wp2_with fail
      refine (mails_any _ l _ HP.out hll).mono ?_
      rintro e w2 ⟨v2, rfl, hown2, hb2⟩
      have O2 : Hid (w2.ownsRow w.heap.size 40 2 v2 l.length (l.flatMap encM)) := own_lower hown2 hsr
      have OL : Hid (OwnLm w2 w.heap.size u3 t) := OW.out.kept (Kept.of (S := fun _ => False) hb2) (fun _ _ h => h)
      have HB2 : Hid (Below w.heap.size w w2) := HB.out.trans (hb2.mono hsr)
      have hs2 := HB2.out.size
      clear hown2 hb2
      obtain ⟨va, vn, vc, rfl⟩ : ∃ a n c, v2 = .slice a n c := by obtain ⟨a, c, e, _⟩ := MlR.ownd O2.out; exact ⟨_, _, _, e⟩
      go_wp2_with (at_builtin; refine wpList_append_lm rfl _ _ rfl w.heap.size _ t rfl (OL.out.kept (Kept.of (S := fun _ => False) (below_alloc w2 _)) (fun _ _ h => h)) w2.heap.size (.slice va vn vc) l rfl (0, 0) (heap_alloc_new _ _) (O2.out.alloc _) ?d1 ?d2 ?_)
      case d1 => omega
      case d2 => simp; omega
      intro g c w3 hown3 hg3 hl3
      have O3 : Hid (OwnLm w3 w.heap.size (.slice (some ⟨g, 0, none⟩) (k + 1) c) (f.take (k + 1))) := by
        show OwnLm _ _ _ _
        rw [HT.out]; exact hown3
      have HB3 : Hid (Below w.heap.size w w3) := ((HB2.out.alloc hs2 _)).grown hg3 (by simp; omega) (fun j hj => by
        obtain ⟨vs, hrow⟩ := OL.out.row
        exact (own_geM hrow hj).1)
      clear hown3 hg3 hl3
      go_wp2_with fail
      go_roundw
      case rel => exact ⟨k + 1, by omega, by go_num, O3.out, HB3.out⟩
      case measure => simp [intOf]; omega
    · have ek : f.take k = f := List.take_of_length_le (by omega)
      have OW2 : Hid (LmR wr u3 f) := by have := OW.out.reads; rwa [ek] at this
      clear ek OW
      obtain ⟨ua, uc, rfl⟩ : ∃ a c, u3 = .slice a f.length c := by obtain ⟨a, c, e, _⟩ := OW2.out; exact ⟨a, c, e⟩
      go_wp2_with fail
      go_ret
      exact ⟨_, rfl, OW2.out, HB.out⟩

set_option maxHeartbeats 1000000 in
set_option maxRecDepth 100000 in
theorem sameLists_yes (va vb : Value) (f : List (List Ml)) (w : World) (ha : LmR w va f) (hb : LmR w vb f) :
    Calls Try.prog 16 #[va, vb] w fun e w' => e = .returned (.bool true) ∧ Below w.heap.size w w' := by
  have HA : Hid (LmR w va f) := ha
  have HB : Hid (LmR w vb f) := hb
  obtain ⟨a, ca, rfl, hca, hma, _⟩ := ha
  obtain ⟨b, cb, rfl, hcb, hmb, _⟩ := hb
  unfold maxLen at hma hmb
  have hll : ((f.length : Int) != (f.length : Int)) = false := by simp
  go_enter Try.func16, Try.ntmps16
  go_wp2_with fail
  go_loopw [5] (fun i wr => ∃ k : Nat, k ≤ f.length ∧ i = .int .i64 k ∧ Below w.heap.size w wr) (fun i _ => f.length - (intOf i).toNat)
  case atStart => exact ⟨0, by omega, rfl, Below.refl _ _⟩
  case round =>
    obtain ⟨k, hk, rfl, hbel⟩ := hrel
    have HBL : Hid (Below w.heap.size w wr) := hbel
    have hsr := hbel.size
    clear hbel
    by_cases hlt : k < f.length
    · obtain ⟨xa, oa, cap', e1, la, _, _, hva⟩ := (HA.out.below HBL.out (Nat.le_refl _)).at (by omega)
      injection e1 with e1 _ e3
      subst e1 e3
      obtain ⟨xb, ob, cap', e1, lb, _, _, hvb⟩ := (HB.out.below HBL.out (Nat.le_refl _)).at (by omega)
      injection e1 with e1 _ e3
      subst e1 e3
      obtain ⟨l, hl⟩ := getX hlt
      obtain ⟨u, hu, hur⟩ := hva k l hl
      obtain ⟨t, ht, htr⟩ := hvb k l hl
      have UR : Hid (MlR wr u l) := hur
      have TR : Hid (MlR wr t l) := htr
      obtain ⟨ua, uc, rfl⟩ := hur.shape
      obtain ⟨ta, tc, rfl⟩ := htr.shape
      have g1 := cell_regrown hu
      have g2 := cell_regrown ht
      have EE : ∀ d os, Calls Try.prog 12 #[.slice ua l.length uc, .slice ta l.length tc] (grow (redrawn wr d) os) fun e w'' => e = .returned (.bool true) ∧ ∃ p : Regrown, w'' = grow (redrawn wr p.d) p.os := fun d os => Calls.regrown_of (sameMails_yes _ _ l _ (UR.out.below (below_regrown wr d os) (Nat.le_refl _)) (TR.out.below (below_regrown wr d os) (Nat.le_refl _)))
      have p0 : (0 : Int) ≤ (k : Int) := by omega
      have p1 : (k : Int) < (f.length : Int) := by omega
      clear hva hvb hl hur htr hu ht
      go_wp2_with fail
      refine wp_region_quiet_below (by kernel_rfl) (by kernel_rfl) ?_
      repeat (quiet_step (exact EE _ _))
      refine wpQuiet_nil ?_
      intro _ hw'
      obtain ⟨⟨dq, osq⟩, hw''⟩ := hw'
      have HB2 : Hid (Below w.heap.size w (grow (redrawn wr dq) osq)) := HBL.out.trans ((below_regrown wr dq osq).mono hsr)
      subst hw''
      generalize grow (redrawn wr dq) osq = w2 at HB2 ⊢
      clear g1 g2 EE
      go_wp2_with fail
      go_roundw
      case rel => exact ⟨k + 1, by omega, by go_num, HB2.out⟩
      case measure => simp [intOf]; omega
    · go_wp2_with fail
      go_ret
      exact ⟨rfl, HBL.out⟩
end Go.Proofs.Ytkddfjichkelnaa
