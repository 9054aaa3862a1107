/-
  Contract of store.appendHops.
-/
import Derived.Test.YtacpicnihgggaaaNumsWalk
import Derived.Test.YtacpicnihgggaaaGapsWalk
import Derived.Deep.CutRange
namespace Go.Proofs.Ytacpicnihgggaaa
set_option maxRecDepth 100000
open Go.ChangeShapes Go.WideShapes Go.ChangeAt Go.RowKit

/-- P7.1: the bytes of some hops. -/
def hopsB (l : List Hp) : List Int := gapsF (l.map Prod.fst) 0 ++ numsB (l.map Prod.snd)
/-- Hops that can be packed. -/
def GoodH (l : List Hp) : Prop := Named (l.map Prod.fst) 0 ∧ ∀ n ∈ l.map Prod.snd, 0 ≤ n ∧ n ≤ 1099511627776
theorem gapsF_len (l : List Int) (c : Int) : (gapsF l c).length ≤ 10 * l.length + 10 := by
  unfold gapsF
  split
  · have := put_len l.length
    have := gapsTo_len l l.length
    rw [List.length_append]; omega
  · simp
theorem hopsB_len (l : List Hp) : (hopsB l).length ≤ 20 * l.length + 10 := by
  have h1 := gapsF_len (l.map Prod.fst) 0
  have h2 := numsB_len (l.map Prod.snd)
  unfold hopsB
  rw [List.length_append]
  simp only [List.length_map] at h1 h2
  omega
theorem hopsB_bytes {l : List Hp} (h : GoodH l) : ∀ x ∈ hopsB l, 0 ≤ x ∧ x ≤ 255 := by
  intro x hx
  rcases List.mem_append.1 hx with hx | hx
  · exact gapsF_bytes h.1 x hx
  · exact numsB_bytes h.2 x hx

set_option maxHeartbeats 2000000 in
set_option maxRecDepth 100000 in
theorem appendHops_any (base : Nat) (v0 v : Value) (xs : List Int) (l : List Hp) (w : World) (h0 : w.ownsRow base 5 1 v0 xs.length (xs.map (Value.int .u8))) (h : HpR w v l) (hg : GoodH l) (hl : xs.length + 20 * l.length + 10 ≤ 1000000000) (hb : base ≤ w.heap.size) :
    Calls Try.prog 27 #[v0, v] w fun e w' => ∃ v', e = .returned v' ∧ w'.ownsRow base 5 1 v' (xs ++ hopsB l).length ((xs ++ hopsB l).map (Value.int .u8)) ∧ Below base w w' := by
  have O0 : Hid (w.ownsRow base 5 1 v0 xs.length (xs.map (Value.int .u8))) := h0
  have HR : Hid (HpR w v l) := h
  have HG : Hid (GoodH l) := hg
  obtain ⟨la, lc, rfl, _, hm, _⟩ := h
  unfold maxLen at hm
  have hl2 : l.length ≤ 2000 := by have := (named_rises hg.1).2.2; simpa using this
  clear h0 hg
  go_enter Try.func27, Try.ntmps27
  go_wp2_with fail
  go_loopw [5, 6, 13] (fun s t i wr => ∃ k : Nat, k ≤ l.length ∧ i = .int .i64 k ∧ wr.ownsRow w.heap.size 3 1 s ((l.take k).map Prod.fst).length (((l.take k).map Prod.fst).flatMap encI) ∧ wr.ownsRow w.heap.size 3 1 t ((l.take k).map Prod.snd).length (((l.take k).map Prod.snd).flatMap encI) ∧ Apt s t ∧ Below w.heap.size w wr) (fun _ _ i _ => l.length - (intOf i).toNat)
  case atStart => exact ⟨0, by omega, rfl, World.ownsRow_nil _ _ _ _, World.ownsRow_nil _ _ _ _, Apt.nil _, Below.refl _ _⟩
  case round =>
    obtain ⟨k, hk, rfl, hos, hot, hap, hbel⟩ := hrel
    have OS : Hid (wr.ownsRow w.heap.size 3 1 u5 ((l.take k).map Prod.fst).length (((l.take k).map Prod.fst).flatMap encI)) := hos
    have OT : Hid (wr.ownsRow w.heap.size 3 1 u6 ((l.take k).map Prod.snd).length (((l.take k).map Prod.snd).flatMap encI)) := hot
    have AP : Hid (Apt u5 u6) := hap
    have HB : Hid (Below w.heap.size w wr) := hbel
    have hsr := hbel.size
    clear hos hot hap hbel
    by_cases hlt : k < l.length
    · obtain ⟨x, hx⟩ := getX hlt
      obtain ⟨b, off, cap', e1, _, _, lt, hv⟩ := HpR.at (HR.out.below HB.out (Nat.le_refl _)) (by omega)
      injection e1 with e1 _ e3
      subst e1 e3
      obtain ⟨d1, d2⟩ := hv k x hx
      have HT1 : Hid ((l.take (k + 1)).map Prod.fst = (l.take k).map Prod.fst ++ [x.1]) := by show _ = _; rw [take_snoc hx, List.map_append]; rfl
      have HT2 : Hid ((l.take (k + 1)).map Prod.snd = (l.take k).map Prod.snd ++ [x.2]) := by show _ = _; rw [take_snoc hx, List.map_append]; rfl
      have hk1 : ((l.take k).map Prod.fst).length ≤ 2000 := by simp; omega
      have hk2 : ((l.take k).map Prod.snd).length ≤ 2000 := by simp; omega
      clear hv hx
      generalize (l.take k).map Prod.fst = f1 at *
      generalize (l.take k).map Prod.snd = f2 at *
      obtain ⟨x1, x2⟩ := x
      simp only at *
      go_upto_region 5 with fail
      have W1 : Hid ((wr.alloc (.cells #[.int .i64 x1, .int .i64 x2] 87)).ownsRow w.heap.size 3 1 u5 f1.length (f1.flatMap encI) ∧ (wr.alloc (.cells #[.int .i64 x1, .int .i64 x2] 87)).ownsRow w.heap.size 3 1 u6 f2.length (f2.flatMap encI) ∧ Below w.heap.size w (wr.alloc (.cells #[.int .i64 x1, .int .i64 x2] 87)) ∧ (wr.alloc (.cells #[.int .i64 x1, .int .i64 x2] 87)).heap[wr.heap.size]? = some (.cells #[.int .i64 x1, .int .i64 x2] 87 (0, 0))) := ⟨OS.out.alloc _, OT.out.alloc _, HB.out.alloc hsr _, heap_alloc_new wr _⟩
      generalize wr.alloc (.cells #[.int .i64 x1, .int .i64 x2] 87) = w1 at *
      generalize wr.heap.size = bx at *
      obtain ⟨OS1, OT1, HB1, bx1⟩ := W1.out
      have k0 : w1.cell? ⟨bx, 0, none⟩ = some (.int .i64 x1) := by rw [cell_of_row _ _ _ _ _ _ bx1]; rfl
      have hs1 := HB1.size
      have OS1' : Hid (w1.ownsRow w.heap.size 3 1 u5 f1.length (f1.flatMap encI)) := OS1
      have OT1' : Hid (w1.ownsRow w.heap.size 3 1 u6 f2.length (f2.flatMap encI)) := OT1
      have HB1' : Hid (Below w.heap.size w w1) := HB1
      have BX : Hid (w1.heap[bx]? = some (.cells #[.int .i64 x1, .int .i64 x2] 87 (0, 0))) := bx1
      clear W1 OS OT HB d1 d2 OS1 OT1 HB1 bx1
      go_wp2_with (at_builtin; refine wpList_append_newL kI rfl _ _ rfl w.heap.size _ f1 rfl (OS1'.out.alloc _) w1.heap.size x1 rfl #[.int .i64 x1] rfl (0, 0) (heap_alloc_new _ _) (by simp [kI]; omega) (by unfold maxLen; omega) (by simp; omega) ?_)
      intro g2 c2 w2 hown2 hgr2 hli2
      have OS2 : Hid (w2.ownsRow w.heap.size 3 1 (.slice (some ⟨g2, 0, none⟩) (f1.length + 1) c2) (f1 ++ [x1]).length ((f1 ++ [x1]).flatMap encI)) := by
        show World.ownsRow _ _ _ _ _ _ _
        rw [flat_snoc, List.length_append]; exact hown2
      have OT2 : Hid (w2.ownsRow w.heap.size 3 1 u6 f2.length (f2.flatMap encI)) := (OT1'.out.alloc _).kept hgr2 AP.out.symm.or
      have AP2 : Hid (Apt (.slice (some ⟨g2, 0, none⟩) (f1.length + 1) c2) u6) := by
        refine AP.out.grown (w := w1.alloc (.cells #[.int .i64 x1] 3)) ?_ (OT1'.out.alloc _)
        rcases hli2 with h | h
        · exact .inl h
        · exact .inr (by simpa using h)
      have HB2 : Hid (Below w.heap.size w w2) := (HB1'.out.alloc hs1 _).trans ((Below.refl _ _).grown hgr2 (by simp; omega) (fun k hk => (own_ge OS1'.out hk).1))
      have k1 : w2.cell? ⟨bx, 1, none⟩ = some (.int .i64 x2) := by
        have hbx := (Array.getElem?_eq_some_iff.1 BX.out).1
        have : w2.heap[bx]? = some (.cells #[.int .i64 x1, .int .i64 x2] 87 (0, 0)) := by
          rw [hgr2.block bx (by simp; omega) (fun e => own_block OS1'.out e.symm BX.out (by decide) rfl), (below_alloc w1 _).block bx hbx]
          exact BX.out
        rw [cell_of_row _ _ _ _ _ _ this]; rfl
      have hs2 := HB2.out.size
      clear hown2 hgr2 hli2 OS1' OT1' HB1' BX k0 hs1 AP
      go_wp2_with (at_builtin; refine wpList_append_newL kI rfl _ _ rfl w.heap.size _ f2 rfl (OT2.out.alloc _) w2.heap.size x2 rfl #[.int .i64 x2] rfl (0, 0) (heap_alloc_new _ _) (by simp [kI]; omega) (by unfold maxLen; omega) (by simp; omega) ?_)
      intro g3 c3 w3 hown3 hgr3 hli3
      have OT3 : Hid (w3.ownsRow w.heap.size 3 1 (.slice (some ⟨g3, 0, none⟩) (f2.length + 1) c3) (f2 ++ [x2]).length ((f2 ++ [x2]).flatMap encI)) := by
        show World.ownsRow _ _ _ _ _ _ _
        rw [flat_snoc, List.length_append]; exact hown3
      have OS3 : Hid (w3.ownsRow w.heap.size 3 1 (.slice (some ⟨g2, 0, none⟩) (f1.length + 1) c2) (f1 ++ [x1]).length ((f1 ++ [x1]).flatMap encI)) := (OS2.out.alloc _).kept hgr3 AP2.out.or
      have AP3 : Hid (Apt (.slice (some ⟨g3, 0, none⟩) (f2.length + 1) c3) (.slice (some ⟨g2, 0, none⟩) (f1.length + 1) c2)) := by
        refine AP2.out.symm.grown (w := w2.alloc (.cells #[.int .i64 x2] 3)) ?_ (OS2.out.alloc _)
        rcases hli3 with h | h
        · exact .inl h
        · exact .inr (by simpa using h)
      have HB3 : Hid (Below w.heap.size w w3) := (HB2.out.alloc hs2 _).trans ((Below.refl _ _).grown hgr3 (by simp; omega) (fun k hk => (own_ge OT2.out hk).1))
      clear hown3 hgr3 hli3 OS2 OT2 HB2 AP2 k1
      go_wp2_with fail
      go_roundw
      case rel => exact ⟨k + 1, by omega, by go_num, by rw [HT1.out]; exact OS3.out, by rw [HT2.out]; exact OT3.out, AP3.out.symm, HB3.out⟩
      case measure => simp [intOf]; omega
    · have ek : l.take k = l := List.take_of_length_le (by omega)
      rw [ek] at OS OT
      clear ek AP
      have RS : Hid (Reads .i64 wr u5 (l.map Prod.fst)) := reads_own (by have := OS.out; rwa [flatI] at this)
      have O0r : Hid (wr.ownsRow base 5 1 v0 xs.length (xs.map (Value.int .u8))) := own_below O0.out HB.out (Nat.le_refl _)
      have HF : Hid (hopsB l = gapsF (l.map Prod.fst) 0 ++ numsB (l.map Prod.snd)) := rfl
      have HGL := gapsF_len (l.map Prod.fst) 0
      have hfl : (l.map Prod.fst).length = l.length := by simp
      have hsl : (l.map Prod.snd).length = l.length := by simp
      rw [hfl] at HGL
      clear O0 OS hfl
      go_wp2_with fail
      refine (gaps_any _ (l.map Prod.fst) _ RS.out).mono ?_
      rintro e w2 ⟨c, v2, rfl, hnm, hown2, hb2⟩
      obtain rfl : c = 0 := hnm.one HG.out.1
      have R2 : Hid (Reads .u8 w2 v2 (gapsF (l.map Prod.fst) 0)) := reads_own hown2
      have O02 : Hid (w2.ownsRow base 5 1 v0 xs.length (xs.map (Value.int .u8))) := own_below O0r.out hb2 (Nat.le_refl _)
      have OT2 : Hid (w2.ownsRow w.heap.size 3 1 u6 (l.map Prod.snd).length ((l.map Prod.snd).flatMap encI)) := own_below OT.out hb2 (Nat.le_refl _)
      have HB2 : Hid (Below w.heap.size w w2) := HB.out.trans (hb2.mono hsr)
      have hs2 := HB2.out.size
      clear hnm hown2 hb2 O0r OT HB RS
      have HG2 : Hid (∀ n ∈ l.map Prod.snd, 0 ≤ n ∧ n ≤ 1099511627776) := HG.out.2
      generalize gapsF (l.map Prod.fst) 0 = G at *
      generalize l.map Prod.snd = ws at *
      go_wp2_with (at_builtin; refine wpList_append_reads rfl _ _ rfl base _ xs rfl O02.out _ G rfl R2.out (by omega) (by omega) ?_)
      intro v3 w3 hown3 hb3 hgr3
      have O3 : Hid (w3.ownsRow base 5 1 v3 (xs ++ G).length ((xs ++ G).map (Value.int .u8))) := by
        show World.ownsRow _ _ _ _ _ _ _
        simpa using hown3
      have OT3 : Hid (w3.ownsRow w.heap.size 3 1 u6 ws.length (ws.flatMap encI)) := OT2.out.kept hgr3 (own_apart OT2.out O02.out (by decide))
      have HB3 : Hid (Below base w w3) := (HB2.out.mono hb).trans hb3
      have hs3 := HB3.out.size
      clear hown3 hb3 hgr3 O02 OT2 HB2 R2
      go_wp2_with fail
      refine (appendNumbers_any base w.heap.size _ _ (xs ++ G) ws _ O3.out OT3.out HG2.out (by rw [List.length_append]; omega) (by omega)).mono ?_
      rintro e w4 ⟨v4, rfl, hown4, hb4⟩
      have O4 : Hid (w4.ownsRow base 5 1 v4 (xs ++ hopsB l).length ((xs ++ hopsB l).map (Value.int .u8))) := by
        show World.ownsRow _ _ _ _ _ _ _
        rw [HF.out, ← List.append_assoc]; exact hown4
      have HB4 : Hid (Below base w w4) := HB3.out.trans hb4
      clear hown4 hb4
      go_wp2_with fail
      go_ret
      exact ⟨_, rfl, O4.out, HB4.out⟩
end Go.Proofs.Ytacpicnihgggaaa
