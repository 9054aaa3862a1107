/-
  Contract of rounds.sent.
-/
import Derived.Test.YtbmkgnlfccigpabProgSay
import Derived.Test.YtbmkgnlfccigpabProgOpen
import Derived.Test.YtbmkgnlfccigpabRndTable
import Derived.Test.YtbmkgnlfccigpabRndWoken
import Derived.Test.YtbmkgnlfccigpabMailTable
import Derived.Test.YtbmkgnlfccigpabIntSort
namespace Go.Proofs.Ytbmkgnlfccigpab
set_option maxRecDepth 100000
open Go.ChangeShapes Go.WideShapes Go.ChangeAt Go.RowKit
attribute [local go_sem ↓] exec_append

/-- What sent answers. -/
def SntP (w : World) (m : Nat) (j : Jb) (r : Int → Ml × Bool) (es : List Ed) (e : Ending) (w' : World) : Prop :=
  ((overR j r es = true ∧ e = .returned (.tuple #[.slice none 0 0, .int .i64 6])) ∨ (overR j r es = false ∧ ∃ vm, e = .returned (.tuple #[vm, .int .i64 0]) ∧ OwnLi w' w.heap.size vm (mailR m j r es))) ∧ Below w.heap.size w w'

theorem idx_zero (b c : Bool) (x y z u : Int) (X : World) : (Instr.index 93 (.agg #[.bool b, .int .i64 x, .int .i64 y, .bool c, .int .i64 z, .int .i64 u]) (.int .i64 0)).run Try.prog X = .ok (.agg #[.bool b, .int .i64 x, .int .i64 y]) X := by
  simp [Instr.index, run_underlying Try.underlying93, go_sem]
theorem idx_one (b c : Bool) (x y z u : Int) (X : World) : (Instr.index 93 (.agg #[.bool b, .int .i64 x, .int .i64 y, .bool c, .int .i64 z, .int .i64 u]) (.int .i64 1)).run Try.prog X = .ok (.agg #[.bool c, .int .i64 z, .int .i64 u]) X := by
  simp [Instr.index, run_underlying Try.underlying93, go_sem]

set_option maxHeartbeats 8000000 in
set_option maxRecDepth 100000 in
theorem sent_any (v : Value) (es : List Ed) (m : Nat) (k s ph : Int) (j : Jb) (r : Int → Ml × Bool) (vv vb : Value) (w : World) (h : EdR w v es) (hg : InG m es) (hwt : ∀ e ∈ es, 0 ≤ e.2.2 ∧ e.2.2 ≤ 1099511627776) (hk : k = Jb.k j) (hp : ph = Jb.p j) (hle : es.length ≤ 600) (hn : m ≤ 200)
    (hr : ∀ u : Int, 0 ≤ u ∧ u < (m : Int) → valB j (r u).1 = true ∧ ((r u).2 = true → 0 ≤ (r u).1.1)) (hv : MlR w vv (valsR m r)) (hb : BlR w vb (sdR m r m)) :
    Calls Try.prog 28 #[.agg #[.int .i64 (m : Int), v, .int .i64 k, .int .i64 s], .int .i64 ph, vv, vb] w (SntP w m j r es) := by
  have HR : Hid (EdR w v es) := h
  obtain ⟨ea, ec, rfl, _, hec, _, _⟩ := h
  unfold maxLen at hec
  have HPN : Hid (∀ w', overR j r es = true → Below w.heap.size w w' → SntP w m j r es (.returned (.tuple #[.slice none 0 0, .int .i64 6])) w') := fun w' h1 h2 => ⟨.inl ⟨h1, rfl⟩, h2⟩
  have HPY : Hid (∀ w' vm, overR j r es = false → OwnLi w' w.heap.size vm (mailR m j r es) → Below w.heap.size w w' → SntP w m j r es (.returned (.tuple #[vm, .int .i64 0])) w') := fun w' vm h1 h2 h3 => ⟨.inr ⟨h1, vm, rfl, h2⟩, h3⟩
  generalize SntP w m j r es = P at *
  have HG0 : Hid (InG m es) := hg
  have HWT : Hid (∀ e ∈ es, 0 ≤ e.2.2 ∧ e.2.2 ≤ 1099511627776) := hwt
  have HRR : Hid (∀ u : Int, 0 ≤ u ∧ u < (m : Int) → valB j (r u).1 = true ∧ ((r u).2 = true → 0 ≤ (r u).1.1)) := hr
  have HKJ : Hid (k = Jb.k j) := hk
  have HPJ : Hid (ph = Jb.p j) := hp
  have HLE : Hid (es.length ≤ 600) := hle
  have HV : Hid (MlR w vv (valsR m r)) := hv
  have HB : Hid (BlR w vb (sdR m r m)) := hb
  obtain ⟨va, cv, rfl, _, hcv, _, _⟩ := hv
  obtain ⟨ba, cb, rfl, _, hcb, _, _⟩ := hb
  rw [valsR_len] at HV ⊢
  rw [sdR_len] at HB ⊢
  have CW : Hid (∀ X, Calls Try.prog 12 #[.int .i64 k, .int .i64 ph] X fun e w' => e = .returned (.tuple #[.bool (wayJ j).1, .bool (wayJ j).2, .int .i64 0]) ∧ Below X.heap.size X w') := fun X => by rw [HKJ.out, HPJ.out]; exact waysP_any j X
  obtain ⟨wo, hwo⟩ : ∃ b, (wayJ j).1 = b := ⟨_, rfl⟩
  obtain ⟨wi, hwi⟩ : ∃ b, (wayJ j).2 = b := ⟨_, rfl⟩
  have HWO : Hid ((wayJ j).1 = wo) := hwo
  have HWI : Hid ((wayJ j).2 = wi) := hwi
  rw [hwo, hwi] at CW
  clear hwo hwi hg hwt hr hk hp
  obtain ⟨W0, hW0⟩ : ∃ W0, W0 = w.alloc (.cells #[.int .i64 (m : Int), .slice ea es.length ec, .int .i64 k, .int .i64 s] 27) := ⟨_, rfl⟩
  have Q0 : BX 27 W0 w.heap.size #[.int .i64 (m : Int), .slice ea es.length ec, .int .i64 k, .int .i64 s] := by rw [hW0]; exact BX.new _ _ _
  have BH : Hid (Below w.heap.size w W0) := by show Below _ _ _; rw [hW0]; exact below_alloc _ _
  have s1 : w.heap.size + 1 ≤ W0.heap.size := by rw [hW0]; simp
  have HK : Hid (∀ X, Below W0.heap.size W0 X → BX 27 X w.heap.size #[.int .i64 (m : Int), .slice ea es.length ec, .int .i64 k, .int .i64 s] ∧ Below w.heap.size w X) := fun X hX => ⟨Q0.below hX (by omega), BH.out.trans (hX.mono (by omega))⟩
  obtain ⟨q0, q1, q2, q3⟩ := Q0.all4
  clear Q0
  go_enter Try.func28, Try.ntmps28
  go_upto_region 1 with fail
  rw [← hW0]
  clear hW0
  go_wp2_with fail
  refine (CW.out _).mono ?_
  rintro e w1 ⟨rfl, hb1⟩
  have A1 : Hid (Below W0.heap.size W0 w1) := hb1
  obtain ⟨Q1, _⟩ := HK.out _ hb1
  clear q0 q1 q2 q3 CW hb1
  obtain ⟨q0, q1, q2, q3⟩ := Q1.all4
  obtain ⟨w2, hmk, htb, hb2⟩ := make_tbi w1 m (by omega)
  have A2 : Hid (Below W0.heap.size W0 w2) := A1.out.trans (hb2.mono A1.out.size)
  have TB : Hid (TbI w2 W0.heap.size w1.heap.size m (List.replicate m (.slice none 0 0)) (tabF m (t0F j r (es.take 0)))) := by
    show TbI _ _ _ _ _ _
    rw [List.take_zero, t0_nil]; exact htb.lower A1.out.size
  obtain ⟨Q2, _⟩ := HK.out _ A2.out
  obtain ⟨p0, p1, p2, p3⟩ := Q2.all4
  clear Q1 Q2 htb hb2
  generalize hg0 : w1.heap.size = g at *
  clear hg0
  go_wp2_with fail
  clear q0 q1 q2 q3 p0 p1 p2 p3 hmk
  go_loopw [42] (fun t wr => ∃ (i : Nat) (vs : List Value), i ≤ es.length ∧ t = .int .i64 i ∧ overR j r (es.take i) = false ∧ TbI wr W0.heap.size g m vs (tabF m (t0F j r (es.take i))) ∧ Below W0.heap.size W0 wr) (fun t _ => es.length - (intOf t).toNat)
  case atStart => exact ⟨0, _, by omega, rfl, rfl, TB.out, A2.out⟩
  case round =>
    obtain ⟨i, vs, hi, rfl, hov, htb, hbel⟩ := hrel
    have TR : Hid (TbI wr W0.heap.size g m vs (tabF m (t0F j r (es.take i)))) := htb
    have AB : Hid (Below W0.heap.size W0 wr) := hbel
    have HOV : Hid (overR j r (es.take i) = false) := hov
    have hsr := hbel.size
    clear htb hbel hov TB A2 A1
    by_cases hlt : i < es.length
    · obtain ⟨b1, o1, cap1, e1, _, _, lt1, hv1⟩ := EdR.at (HR.out.below (HK.out _ AB.out).2 (Nat.le_refl _)) (by omega)
      injection e1 with e1 _ e3
      subst e1 e3
      obtain ⟨x, hx⟩ := getE hlt
      obtain ⟨d1, d2, d3⟩ := hv1 i x hx
      have hin := HG0.out x (List.mem_of_getElem? hx)
      have hw3 := HWT.out x (List.mem_of_getElem? hx)
      obtain ⟨x1, x2, x3⟩ := x
      obtain ⟨x1, rfl⟩ : ∃ n : Nat, x1 = n := ⟨x1.toNat, by simp only at hin; omega⟩
      obtain ⟨x2, rfl⟩ : ∃ n : Nat, x2 = n := ⟨x2.toNat, by simp only at hin; omega⟩
      simp only at hin hw3 d1 d2 d3
      have HX : Hid (es[i]? = some ((x1 : Int), (x2 : Int), x3)) := hx
      have HW3 : Hid (0 ≤ x3 ∧ x3 ≤ 1099511627776) := hw3
      have hm0 : 0 < m := by omega
      have p0 : (0 : Int) ≤ (i : Int) := by omega
      have p1 : (i : Int) < (es.length : Int) := by omega
      obtain ⟨bv, ov, cv', e5, ltv, hvv⟩ := MlR.read HV.out (by rw [valsR_len]; omega)
      rw [valsR_len] at e5
      injection e5 with e5 _ e6
      subst e5 e6
      obtain ⟨bb, ob, cb', e7, _, _, ltb, hvb⟩ := BlR.at HB.out (by rw [sdR_len]; omega)
      rw [sdR_len] at e7
      injection e7 with e7 _ e8
      subst e7 e8
      have RV : Hid (∀ X (f : Nat), Below W0.heap.size W0 X → f < m → X.cell? ⟨bb, ob + f, none⟩ = some (.bool (r (f : Int)).2) ∧ X.cell? ⟨bv, ov + f * 2, none⟩ = some (.int .i64 (r (f : Int)).1.1) ∧ X.cell? ⟨bv, ov + f * 2 + 1, none⟩ = some (.int .i64 (r (f : Int)).1.2)) := fun X f hX hf => by
        have hbw := (HK.out _ hX).2
        obtain ⟨y0, y1⟩ := hvv f _ (valsR_at (r := r) hf)
        have yb := hvb f _ (sdR_at (i := m) (r := r) hf)
        rw [show (decide (f < m) && (r (f : Int)).2) = (r (f : Int)).2 from by rw [decide_eq_true hf]; rfl] at yb
        exact ⟨(hbw.cell (p := ⟨bb, ob + f, none⟩) ltb).trans yb, (hbw.cell (p := ⟨bv, ov + f * 2, none⟩) ltv).trans y0, (hbw.cell (p := ⟨bv, ov + f * 2 + 1, none⟩) ltv).trans y1⟩
      have W1 : Hid (TbI ((wr.alloc (.cells #[.int .i64 (x1 : Int), .int .i64 (x2 : Int), .int .i64 x3] 50)).alloc (.cells #[.bool wo, .int .i64 (x1 : Int), .int .i64 (x2 : Int), .bool wi, .int .i64 (x2 : Int), .int .i64 (x1 : Int)] 93)) W0.heap.size g m vs (tabF m (t0F j r (es.take i))) ∧ Below W0.heap.size W0 ((wr.alloc (.cells #[.int .i64 (x1 : Int), .int .i64 (x2 : Int), .int .i64 x3] 50)).alloc (.cells #[.bool wo, .int .i64 (x1 : Int), .int .i64 (x2 : Int), .bool wi, .int .i64 (x2 : Int), .int .i64 (x1 : Int)] 93)) ∧ BX 50 ((wr.alloc (.cells #[.int .i64 (x1 : Int), .int .i64 (x2 : Int), .int .i64 x3] 50)).alloc (.cells #[.bool wo, .int .i64 (x1 : Int), .int .i64 (x2 : Int), .bool wi, .int .i64 (x2 : Int), .int .i64 (x1 : Int)] 93)) wr.heap.size #[.int .i64 (x1 : Int), .int .i64 (x2 : Int), .int .i64 x3] ∧ BX 93 ((wr.alloc (.cells #[.int .i64 (x1 : Int), .int .i64 (x2 : Int), .int .i64 x3] 50)).alloc (.cells #[.bool wo, .int .i64 (x1 : Int), .int .i64 (x2 : Int), .bool wi, .int .i64 (x2 : Int), .int .i64 (x1 : Int)] 93)) (wr.heap.size + 1) #[.bool wo, .int .i64 (x1 : Int), .int .i64 (x2 : Int), .bool wi, .int .i64 (x2 : Int), .int .i64 (x1 : Int)]) := by
        refine ⟨TR.out.kept (((Kept.refl _ _).alloc _).alloc _), (AB.out.alloc hsr _).alloc (by simp; omega) _, (BX.new _ _ _).below (below_alloc _ _) (by simp), ?_⟩
        have := BX.new 93 (wr.alloc (.cells #[.int .i64 (x1 : Int), .int .i64 (x2 : Int), .int .i64 x3] 50)) #[.bool wo, .int .i64 (x1 : Int), .int .i64 (x2 : Int), .bool wi, .int .i64 (x2 : Int), .int .i64 (x1 : Int)]
        simpa using this
      clear hv1 hx hw3 hvv hvb
      go_upto_region 9 with fail
      generalize (wr.alloc (.cells #[.int .i64 (x1 : Int), .int .i64 (x2 : Int), .int .i64 x3] 50)).alloc (.cells #[.bool wo, .int .i64 (x1 : Int), .int .i64 (x2 : Int), .bool wi, .int .i64 (x2 : Int), .int .i64 (x1 : Int)] 93) = w3 at *
      generalize wr.heap.size = bx at *
      obtain ⟨TR3, AB3, EB3, ZB3⟩ := W1.out
      have T3 : Hid (TbI w3 W0.heap.size g m vs (tabF m (t0F j r (es.take i)))) := TR3
      have A3 : Hid (Below W0.heap.size W0 w3) := AB3
      have E3 : Hid (BX 50 w3 bx #[.int .i64 (x1 : Int), .int .i64 (x2 : Int), .int .i64 x3]) := EB3
      obtain ⟨⟨z0, z1, z2, z3, z4, z5⟩, _⟩ := ZB3.all6
      clear W1 TR3 AB3 EB3 ZB3 TR AB d1 d2 d3
      clear wr
      go_wp2_with fail
      clear z0 z1 z2 z3 z4 z5
      have ix0 : ∀ X, _ := idx_zero wo wi (x1 : Int) (x2 : Int) (x2 : Int) (x1 : Int)
      have ix1 : ∀ X, _ := idx_one wo wi (x1 : Int) (x2 : Int) (x2 : Int) (x1 : Int)
      go_loopw [60] (fun t wr => (Below W0.heap.size W0 wr ∧ BX 50 wr bx #[.int .i64 (x1 : Int), .int .i64 (x2 : Int), .int .i64 x3]) ∧ ((t = .int .i64 0 ∧ ∃ vs, TbI wr W0.heap.size g m vs (tabF m (t0F j r (es.take i)))) ∨ (t = .int .i64 1 ∧ overR j r (es.take (i + 1)) = false ∧ ∃ vs, TbI wr W0.heap.size g m vs (tabF m (t1F j r (es.take i) ((x1 : Int), (x2 : Int), x3)))) ∨ (t = .int .i64 2 ∧ overR j r (es.take (i + 1)) = false ∧ ∃ vs, TbI wr W0.heap.size g m vs (tabF m (t0F j r (es.take (i + 1))))))) (fun t _ => 2 - (intOf t).toNat)
      case atStart => exact ⟨⟨A3.out, E3.out⟩, .inl ⟨rfl, vs, T3.out⟩⟩
      case round =>
        clear T3 A3 E3
        obtain ⟨⟨hbel, heb⟩, hcase⟩ := hrel
        rcases hcase with ⟨rfl, vs, htb⟩ | ⟨rfl, hovn, vs, htb⟩ | ⟨rfl, hovn, vs, htb⟩
        · have TR : Hid (TbI wr W0.heap.size g m vs (tabF m (t0F j r (es.take i)))) := htb
          have AB : Hid (Below W0.heap.size W0 wr) := hbel
          have EB : Hid (BX 50 wr bx #[.int .i64 (x1 : Int), .int .i64 (x2 : Int), .int .i64 x3]) := heb
          have hsr := hbel.size
          have W1 : Hid (TbI (wr.alloc (.cells #[.bool wo, .int .i64 (x1 : Int), .int .i64 (x2 : Int)] 92)) W0.heap.size g m vs (tabF m (t0F j r (es.take i))) ∧ Below W0.heap.size W0 (wr.alloc (.cells #[.bool wo, .int .i64 (x1 : Int), .int .i64 (x2 : Int)] 92)) ∧ BX 50 (wr.alloc (.cells #[.bool wo, .int .i64 (x1 : Int), .int .i64 (x2 : Int)] 92)) bx #[.int .i64 (x1 : Int), .int .i64 (x2 : Int), .int .i64 x3] ∧ BX 92 (wr.alloc (.cells #[.bool wo, .int .i64 (x1 : Int), .int .i64 (x2 : Int)] 92)) wr.heap.size #[.bool wo, .int .i64 (x1 : Int), .int .i64 (x2 : Int)]) := ⟨TR.out.kept ((Kept.refl _ _).alloc _), AB.out.alloc hsr _, EB.out.below (below_alloc _ _) EB.out.lt, BX.new _ _ _⟩
          clear htb hbel heb
          have HN : Hid ((wo && (r (x1 : Int)).2) = false → (tabF m (t1F j r (es.take i) ((x1 : Int), (x2 : Int), x3))) = (tabF m (t0F j r (es.take i)))) := fun h => t1_no (e := ((x1 : Int), (x2 : Int), x3)) (by rw [HWO.out]; exact h)
          have HY : Hid ((wo && (r (x1 : Int)).2) = true → (tabF m (t1F j r (es.take i) ((x1 : Int), (x2 : Int), x3))) = (tabF m (t0F j r (es.take i))).set x2 ((t0F j r (es.take i) x2) ++ [(sayJ j (r (x1 : Int)).1.1 x3)])) := fun h => t1_yes (e := ((x1 : Int), (x2 : Int), x3)) (by rw [HWO.out]; exact h) rfl
          have HON : Hid ((wo && (r (x1 : Int)).2) = false → overR j r (es.take (i + 1)) = false) := fun h => by rw [over_take HX.out, HOV.out, HWO.out]; simp only [h, Bool.false_and, Bool.or_self]
          have HOY : Hid ((sayJ j (r (x1 : Int)).1.1 x3) ≤ Jb.top j → overR j r (es.take (i + 1)) = false) := fun h => by rw [over_take HX.out, HOV.out]; simp only [Bool.false_or, Bool.and_eq_false_iff, decide_eq_false_iff_not]; exact .inr (by omega)
          have HOX : Hid ((wo && (r (x1 : Int)).2) = true → ¬ (sayJ j (r (x1 : Int)).1.1 x3) ≤ Jb.top j → overR j r es = true) := fun h h2 => over_part (i := i + 1) (by rw [over_take HX.out, HWO.out]; simp only [h, Bool.true_and, Bool.or_eq_true, decide_eq_true_eq]; exact .inr (by omega))
          have HSAY : Hid ((r (x1 : Int)).2 = true → ∀ X, Calls Try.prog 36 #[.int .i64 k, .agg #[.int .i64 (r (x1 : Int)).1.1, .int .i64 (r (x1 : Int)).1.2], .int .i64 ph, .int .i64 x3] X fun e w' => ∃ v, e = .returned v ∧ (v = .tuple #[.int .i64 (if (sayJ j (r (x1 : Int)).1.1 x3) ≤ Jb.top j then ((sayJ j (r (x1 : Int)).1.1 x3), (0 : Int)) else (0, 6)).1, .int .i64 (if (sayJ j (r (x1 : Int)).1.1 x3) ≤ Jb.top j then ((sayJ j (r (x1 : Int)).1.1 x3), (0 : Int)) else (0, 6)).2] ∧ Below X.heap.size X w')) := fun hsd X => by
            have h1 := say_any k (r (x1 : Int)).1 ph x3 X
            have h2 := HRR.out (x1 : Int) (by omega)
            rw [HKJ.out, HPJ.out, saidF_of, said_fit h2.1 (h2.2 hsd) (inB_iff.2 HW3.out)] at h1
            rw [HKJ.out, HPJ.out]
            exact h1.mono fun e w' h => ⟨_, h.1, rfl, h.2⟩
          have VX : Hid (∀ X, Below W0.heap.size W0 X → X.cell? ⟨bb, ob + x1, none⟩ = some (.bool (r (x1 : Int)).2) ∧ X.cell? ⟨bv, ov + x1 * 2, none⟩ = some (.int .i64 (r (x1 : Int)).1.1) ∧ X.cell? ⟨bv, ov + x1 * 2 + 1, none⟩ = some (.int .i64 (r (x1 : Int)).1.2)) := fun X hX => RV.out X x1 hX (by omega)
          obtain ⟨u, hu⟩ := getX (show x2 < vs.length by rw [TR.out.lv]; omega)
          have HFL : Hid ((tabF m (t0F j r (es.take i)))[x2]? = some ((t0F j r (es.take i) x2))) := tabF_at (show x2 < m by omega)
          have hel := TR.out.el x2 u _ hu HFL.out
          obtain ⟨ua, un, uc, rfl⟩ : ∃ a n c, u = .slice a n c := by obtain ⟨a, c, e, _⟩ := RowK.own encI_len hel; exact ⟨_, _, _, e⟩
          have HU : Hid (vs[x2]? = some (.slice ua un uc)) := hu
          have hll : ((t0F j r (es.take i) x2)).length ≤ 1201 := (Nat.le_succ_of_le (t0_most HLE.out))
          clear hu hel
          generalize (t0F j r (es.take i) x2) = lst at *
          have q0 : (0 : Int) ≤ (x1 : Int) := by omega
          have q1 : (x1 : Int) < (m : Int) := by omega
          have q3 : (0 : Int) ≤ (x2 : Int) := by omega
          have q4 : (x2 : Int) < (m : Int) := by omega
          generalize (sayJ j (r (x1 : Int)).1.1 x3) = say at *
          generalize r (x1 : Int) = rv at *
          obtain ⟨⟨y1, y2⟩, sd⟩ := rv
          simp only at VX HSAY HN HY HON HOY HOX
          go_upto_region 12 with fail
          generalize wr.alloc (.cells #[.bool wo, .int .i64 (x1 : Int), .int .i64 (x2 : Int)] 92) = w3 at *
          generalize wr.heap.size = bw at *
          obtain ⟨TR3, AB3, EB3, WB3⟩ := W1.out
          obtain ⟨k0, k1, k2, _⟩ := WB3.all3
          obtain ⟨yb, _, _⟩ := VX.out _ AB3
          have hs3 := AB3.size
          cases wo
          · have T3 : Hid (TbI w3 W0.heap.size g m vs (tabF m (t1F j r (es.take i) ((x1 : Int), (x2 : Int), x3)))) := by
              show TbI _ _ _ _ _ _
              rw [HN.out rfl]; exact TR3
            have A3 : Hid (Below W0.heap.size W0 w3) := AB3
            have E3 : Hid (BX 50 w3 bx #[.int .i64 (x1 : Int), .int .i64 (x2 : Int), .int .i64 x3]) := EB3
            have OVN : Hid (overR j r (es.take (i + 1)) = false) := HON.out rfl
            clear TR3 AB3 EB3 WB3 W1 TR AB EB HN HY HSAY VX HFL HU
            go_wp2_with fail
            go_roundw
            case rel => exact ⟨⟨A3.out, E3.out⟩, .inr (.inl ⟨rfl, OVN.out, vs, T3.out⟩)⟩
            case measure => simp [intOf]
          · cases sd
            · have T3 : Hid (TbI w3 W0.heap.size g m vs (tabF m (t1F j r (es.take i) ((x1 : Int), (x2 : Int), x3)))) := by
                show TbI _ _ _ _ _ _
                rw [HN.out rfl]; exact TR3
              have A3 : Hid (Below W0.heap.size W0 w3) := AB3
              have E3 : Hid (BX 50 w3 bx #[.int .i64 (x1 : Int), .int .i64 (x2 : Int), .int .i64 x3]) := EB3
              have OVN : Hid (overR j r (es.take (i + 1)) = false) := HON.out rfl
              clear TR3 AB3 EB3 WB3 W1 TR AB EB HN HY HSAY VX HFL HU
              go_wp2_with fail
              go_roundw
              case rel => exact ⟨⟨A3.out, E3.out⟩, .inr (.inl ⟨rfl, OVN.out, vs, T3.out⟩)⟩
              case measure => simp [intOf]
            · have HS1 := HSAY.out rfl
              have KEEP : Hid (∀ V, Below w3.heap.size w3 V → (V.cell? ⟨w.heap.size, 2, none⟩ = some (.int .i64 k) ∧ V.cell? ⟨bw, 1, none⟩ = some (.int .i64 (x1 : Int)) ∧ V.cell? ⟨bx, 2, none⟩ = some (.int .i64 x3) ∧ V.cell? ⟨bv, ov + x1 * 2, none⟩ = some (.int .i64 y1) ∧ V.cell? ⟨bv, ov + x1 * 2 + 1, none⟩ = some (.int .i64 y2))) := fun V hV => by
                have hV2 : Below W0.heap.size W0 V := AB3.trans (hV.mono hs3)
                obtain ⟨Q4, _⟩ := HK.out V hV2
                obtain ⟨_, _, j2, _⟩ := Q4.all4
                obtain ⟨_, g1, _⟩ := (WB3.below hV WB3.lt).all3
                obtain ⟨_, _, g3, _⟩ := (EB3.below hV EB3.lt).all3
                obtain ⟨_, g4, g5⟩ := VX.out V hV2
                exact ⟨j2, g1, g3, g4, g5⟩
              have HS0 : Hid (w3.drew.cell? ⟨w.heap.size, 2, none⟩ = some (.int .i64 k) ∧ w3.drew.cell? ⟨bw, 1, none⟩ = some (.int .i64 (x1 : Int)) ∧ w3.drew.cell? ⟨bx, 2, none⟩ = some (.int .i64 x3) ∧ w3.drew.cell? ⟨bv, ov + x1 * 2, none⟩ = some (.int .i64 y1) ∧ w3.drew.cell? ⟨bv, ov + x1 * 2 + 1, none⟩ = some (.int .i64 y2)) := KEEP.out w3.drew (Below.refl _ _).drew
              obtain ⟨sr, hsr2⟩ : ∃ sr : Int × Int, (if say ≤ Jb.top j then (say, (0 : Int)) else (0, 6)) = sr := ⟨_, rfl⟩
              rw [hsr2] at HS1
              have HS2 : Hid (∀ X, Calls Try.prog 36 #[.int .i64 k, .agg #[.int .i64 y1, .int .i64 y2], .int .i64 ph, .int .i64 x3] X fun e w' => ∃ v, e = .returned v ∧ (v = .tuple #[.int .i64 sr.1, .int .i64 sr.2] ∧ Below X.heap.size X w')) := HS1
              have HSR : Hid ((if say ≤ Jb.top j then (say, (0 : Int)) else (0, 6)) = sr) := hsr2
              have TR3H : Hid (TbI w3 W0.heap.size g m vs (tabF m (t0F j r (es.take i)))) := TR3
              have AB3H : Hid (Below W0.heap.size W0 w3) := AB3
              have EB3H : Hid (BX 50 w3 bx #[.int .i64 (x1 : Int), .int .i64 (x2 : Int), .int .i64 x3]) := EB3
              have WB3H : Hid (BX 92 w3 bw #[.bool true, .int .i64 (x1 : Int), .int .i64 (x2 : Int)]) := WB3
              have esay : ∀ args w, (callFunc 36 args).run Try.prog w = .ok (.enter 36 args) w := enters_of Try.func36 (by kernel_rfl) rfl
              clear TR3 AB3 EB3 WB3 W1 TR AB EB HN HS1 hsr2 HSAY
              go_upto_region 13 with fail
              clear k0 k1 k2 yb
              refine wp_region_held (S := fun V => (V.cell? ⟨w.heap.size, 2, none⟩ = some (.int .i64 k) ∧ V.cell? ⟨bw, 1, none⟩ = some (.int .i64 (x1 : Int)) ∧ V.cell? ⟨bx, 2, none⟩ = some (.int .i64 x3) ∧ V.cell? ⟨bv, ov + x1 * 2, none⟩ = some (.int .i64 y1) ∧ V.cell? ⟨bv, ov + x1 * 2 + 1, none⟩ = some (.int .i64 y2))) (by kernel_rfl) ?_
              simp only [List.size_toArray, List.length_cons, List.length_nil, Nat.reduceAdd]
              refine takeH (i := 0) (v := .pointer (some ⟨w.heap.size, 2, none⟩)) (d := 75) rfl rfl (by kernel_rfl) (by kernel_rfl) (by kernel_rfl) (fun _ _ _ h => h) (by rfl) (fun V hV => by obtain ⟨v1, v2, v3, v4, v5⟩ := hV; go_simp) HS0.out ?_
              simp only [Act.put, List.setIfInBounds_toArray, List.set_cons_zero, List.set_cons_succ]
              refine takeH (i := 1) (v := .int .i64 k) (d := 76) rfl rfl (by kernel_rfl) (by kernel_rfl) (by kernel_rfl) (fun _ _ _ h => h) (by rfl) (fun V hV => by obtain ⟨v1, v2, v3, v4, v5⟩ := hV; go_simp) HS0.out ?_
              simp only [Act.put, List.setIfInBounds_toArray, List.set_cons_zero, List.set_cons_succ]
              refine takeH (i := 2) (v := .slice (some ⟨bv, ov, none⟩) m cv) (d := 77) rfl rfl (by kernel_rfl) (by kernel_rfl) (by kernel_rfl) (fun _ _ _ h => h) (by rfl) (fun V hV => by obtain ⟨v1, v2, v3, v4, v5⟩ := hV; go_simp) HS0.out ?_
              simp only [Act.put, List.setIfInBounds_toArray, List.set_cons_zero, List.set_cons_succ]
              refine takeH (i := 3) (v := .pointer (some ⟨bw, 1, none⟩)) (d := 78) rfl rfl (by kernel_rfl) (by kernel_rfl) (by kernel_rfl) (fun _ _ _ h => h) (by rfl) (fun V hV => by obtain ⟨v1, v2, v3, v4, v5⟩ := hV; go_simp) HS0.out ?_
              simp only [Act.put, List.setIfInBounds_toArray, List.set_cons_zero, List.set_cons_succ]
              refine takeH (i := 4) (v := .int .i64 (x1 : Int)) (d := 79) rfl rfl (by kernel_rfl) (by kernel_rfl) (by kernel_rfl) (fun _ _ _ h => h) (by rfl) (fun V hV => by obtain ⟨v1, v2, v3, v4, v5⟩ := hV; go_simp) HS0.out ?_
              simp only [Act.put, List.setIfInBounds_toArray, List.set_cons_zero, List.set_cons_succ]
              refine takeH (i := 5) (v := .pointer (some ⟨bv, ov + x1 * 2, none⟩)) (d := 80) rfl rfl (by kernel_rfl) (by kernel_rfl) (by kernel_rfl) (fun _ _ _ h => h) (by rfl) (fun V hV => by obtain ⟨v1, v2, v3, v4, v5⟩ := hV; go_simp) HS0.out ?_
              simp only [Act.put, List.setIfInBounds_toArray, List.set_cons_zero, List.set_cons_succ]
              refine takeH (i := 6) (v := .agg #[.int .i64 y1, .int .i64 y2]) (d := 81) rfl rfl (by kernel_rfl) (by kernel_rfl) (by kernel_rfl) (fun _ _ _ h => h) (by rfl) (fun V hV => by obtain ⟨v1, v2, v3, v4, v5⟩ := hV; go_simp) HS0.out ?_
              simp only [Act.put, List.setIfInBounds_toArray, List.set_cons_zero, List.set_cons_succ]
              refine takeH (i := 7) (v := .int .i64 ph) (d := 82) rfl rfl (by kernel_rfl) (by kernel_rfl) (by kernel_rfl) (fun _ _ _ h => h) (by rfl) (fun V hV => by obtain ⟨v1, v2, v3, v4, v5⟩ := hV; go_simp) HS0.out ?_
              simp only [Act.put, List.setIfInBounds_toArray, List.set_cons_zero, List.set_cons_succ]
              refine takeH (i := 8) (v := .pointer (some ⟨bx, 2, none⟩)) (d := 83) rfl rfl (by kernel_rfl) (by kernel_rfl) (by kernel_rfl) (fun _ _ _ h => h) (by rfl) (fun V hV => by obtain ⟨v1, v2, v3, v4, v5⟩ := hV; go_simp) HS0.out ?_
              simp only [Act.put, List.setIfInBounds_toArray, List.set_cons_zero, List.set_cons_succ]
              refine takeH (i := 9) (v := .int .i64 x3) (d := 84) rfl rfl (by kernel_rfl) (by kernel_rfl) (by kernel_rfl) (fun _ _ _ h => h) (by rfl) (fun V hV => by obtain ⟨v1, v2, v3, v4, v5⟩ := hV; go_simp) HS0.out ?_
              simp only [Act.put, List.setIfInBounds_toArray, List.set_cons_zero, List.set_cons_succ]
              refine oneH (i := 10) rfl (by kernel_rfl) rfl (call_gets (d := 85) (f := 36) (xs := #[.tmp 76, .tmp 81, .tmp 82, .tmp 84]) (ats := #[3, 44, 3, 3]) rfl rfl esay (vs := #[.int .i64 k, .agg #[.int .i64 y1, .int .i64 y2], .int .i64 ph, .int .i64 x3]) (by simp [Act.eval]) (HS2.out w3.drew) ?_)
              rintro vr w4 ⟨rfl, hb4⟩
              have b4 : Below w3.heap.size w3 w4 := (Below.refl _ _).drew.trans hb4
              have HS4 : Hid (w4.cell? ⟨w.heap.size, 2, none⟩ = some (.int .i64 k) ∧ w4.cell? ⟨bw, 1, none⟩ = some (.int .i64 (x1 : Int)) ∧ w4.cell? ⟨bx, 2, none⟩ = some (.int .i64 x3) ∧ w4.cell? ⟨bv, ov + x1 * 2, none⟩ = some (.int .i64 y1) ∧ w4.cell? ⟨bv, ov + x1 * 2 + 1, none⟩ = some (.int .i64 y2)) := KEEP.out w4 b4
              refine ⟨HS4.out, ?_⟩
              simp only [Act.put, List.setIfInBounds_toArray, List.set_cons_zero, List.set_cons_succ]
              refine takeH (i := 11) (v := .tuple #[.int .i64 sr.1, .int .i64 sr.2]) (d := 74) rfl rfl (by kernel_rfl) (by kernel_rfl) (by kernel_rfl) (fun _ _ _ h => h) (by rfl) (fun V hV => by obtain ⟨v1, v2, v3, v4, v5⟩ := hV; go_simp) HS4.out ?_
              simp only [Act.put, List.setIfInBounds_toArray, List.set_cons_zero, List.set_cons_succ]
              refine takeH (i := 12) (v := .int .i64 sr.1) (d := 86) rfl rfl (by kernel_rfl) (by kernel_rfl) (by kernel_rfl) (fun _ _ _ h => h) (by rfl) (fun V hV => by obtain ⟨v1, v2, v3, v4, v5⟩ := hV; go_simp) HS4.out ?_
              simp only [Act.put, List.setIfInBounds_toArray, List.set_cons_zero, List.set_cons_succ]
              refine takeH (i := 13) (v := .int .i64 sr.2) (d := 87) rfl rfl (by kernel_rfl) (by kernel_rfl) (by kernel_rfl) (fun _ _ _ h => h) (by rfl) (fun V hV => by obtain ⟨v1, v2, v3, v4, v5⟩ := hV; go_simp) HS4.out ?_
              simp only [Act.put, List.setIfInBounds_toArray, List.set_cons_zero, List.set_cons_succ]
              refine takeH (i := 14) (v := .int .i64 sr.1) (d := 19) rfl rfl (by kernel_rfl) (by kernel_rfl) (by kernel_rfl) (fun _ _ _ h => h) (by rfl) (fun V hV => by obtain ⟨v1, v2, v3, v4, v5⟩ := hV; go_simp) HS4.out ?_
              simp only [Act.put, List.setIfInBounds_toArray, List.set_cons_zero, List.set_cons_succ]
              refine takeH (i := 15) (v := .int .i64 sr.2) (d := 20) rfl rfl (by kernel_rfl) (by kernel_rfl) (by kernel_rfl) (fun _ _ _ h => h) (by rfl) (fun V hV => by obtain ⟨v1, v2, v3, v4, v5⟩ := hV; go_simp) HS4.out ?_
              simp only [Act.put, List.setIfInBounds_toArray, List.set_cons_zero, List.set_cons_succ]
              refine wpAnyH_done (by kernel_rfl) ?_ _
              have TR4 := TR3H.out.kept (Kept.of b4)
              have AB4 : Below W0.heap.size W0 w4 := AB3H.out.trans (b4.mono hs3)
              have EB4 := EB3H.out.below b4 EB3H.out.lt
              have WB4 := WB3H.out.below b4 WB3H.out.lt
              clear HS4 HS0 KEEP hb4 HS2 esay
              by_cases hfit : say ≤ Jb.top j
              · have OVN : Hid (overR j r (es.take (i + 1)) = false) := HOY.out hfit
                rw [if_pos hfit] at HSR
                obtain ⟨s1', s2'⟩ := sr
                have hs12 := HSR.out
                injection hs12 with e5 e6
                subst e5 e6
                simp only
                obtain ⟨k0, k1, k2, _⟩ := WB4.all3
                have k3 := TR4.cell HU.out
                have hbx := WB4.lt
                have hg4 : g < w4.heap.size := (TR4.row.lt g rfl).2
                have hgw : W0.heap.size ≤ g := (TR4.row.lt g rfl).1
                have m0 : ∀ X, (w4.alloc X).cell? ⟨bw, 2, none⟩ = some (.int .i64 (x2 : Int)) := fun X => ((below_alloc w4 X).cell (p := ⟨bw, 2, none⟩) hbx).trans k2
                have m1 : ∀ X, (w4.alloc X).cell? ⟨g, x2, none⟩ = some (.slice ua un uc) := fun X => ((below_alloc w4 X).cell (p := ⟨g, x2, none⟩) hg4).trans k3
                have hel := TR4.el x2 _ lst HU.out HFL.out
                have hs4 := AB4.size
                obtain ⟨g5, c5, w5, hrun, ho5, hgr5, hli5⟩ := run_append_newL kI (w := (w4.alloc (.cells #[.int .i64 say] 3)).drew) 30 W0.heap.size (.slice ua un uc) lst ((hel.alloc _).drew) w4.heap.size say #[.int .i64 say] rfl (0, 0) (heap_alloc_new w4 _) (by simp only [kI]; omega) (by unfold maxLen; omega) (by show W0.heap.size ≤ (w4.alloc _).heap.size; simp; omega)
                obtain ⟨a1, a2, a3⟩ := appOk_of hrun
                have TR5 : TbI (w4.alloc (.cells #[.int .i64 say] 3)).drew W0.heap.size g m vs (tabF m (t0F j r (es.take i))) := TR4.kept ((Kept.refl _ _).alloc _).drew
                obtain ⟨T5, k4, k5⟩ := TR5.put HU.out HFL.out hgr5 ho5 hli5
                have T6 : Hid (TbI (w5.setCell ⟨g, x2, none⟩ (.slice (some ⟨g5, 0, none⟩) (lst.length + 1) c5)) W0.heap.size g m (vs.set x2 (.slice (some ⟨g5, 0, none⟩) (lst.length + 1) c5)) (tabF m (t1F j r (es.take i) ((x1 : Int), (x2 : Int), x3)))) := by
                  show TbI _ _ _ _ _ _
                  rw [HY.out rfl]; exact T5
                have AB6 : Hid (Below W0.heap.size W0 (w5.setCell ⟨g, x2, none⟩ (.slice (some ⟨g5, 0, none⟩) (lst.length + 1) c5))) := by
                  have h5 : Below W0.heap.size W0 w5 := ((AB4.alloc hs4 _).drew).trans ((Below.refl _ _).grown hgr5 (by show W0.heap.size ≤ (w4.alloc _).heap.size; simp; omega) (fun q hq => (own_ge hel hq).1))
                  exact h5.setCell (p := ⟨g, x2, none⟩) hgw _
                have eb5 : ∀ (t : TypeId) (q : Nat) (cs : Array Value), BX t w4 q cs → 3 ≠ t → BX t w5 q cs := fun t q cs hq hne => by
                  have h7 := hq.lt
                  show w5.heap[q]? = _
                  rw [hgr5.block q (by show q < (w4.alloc _).heap.size; simp; omega) (fun e => own_block hel e.symm hq hne rfl)]
                  exact ((below_alloc w4 _).block q h7).trans hq
                have m2 : w5.cell? ⟨bw, 2, none⟩ = some (.int .i64 (x2 : Int)) := (eb5 _ _ _ WB4 (by decide)).all3.2.2.1
                have EB6 : Hid (BX 50 (w5.setCell ⟨g, x2, none⟩ (.slice (some ⟨g5, 0, none⟩) (lst.length + 1) c5)) bx #[.int .i64 (x1 : Int), .int .i64 (x2 : Int), .int .i64 x3]) := (eb5 _ _ _ EB4 (by decide)).other (by
                  obtain ⟨cur, hc⟩ := own_cur TR4.row
                  exact fun e => by
                    have h8 : w4.heap[bx]? = _ := EB4
                    rw [e, hc] at h8
                    injection h8 with h8
                    injection h8 with _ h8
                    exact absurd h8 (by decide))
                unfold kI at a1 a2 a3
                simp only at a1 a2 a3
                clear hel hrun ho5 hgr5 hli5 TR5 T5 TR4 AB4 EB4 WB4 TR3H AB3H EB3H WB3H eb5 HY HFL HU VX HSR b4
                go_upto_region 16 with fail
                go_region
                generalize w5.setCell ⟨g, x2, none⟩ (.slice (some ⟨g5, 0, none⟩) (lst.length + 1) c5) = w6 at *
                clear a1 a2 a3 m0 m1 m2 k0 k1 k2 k3 k4 k5
                go_wp2_with fail
                go_roundw
                case rel => exact ⟨⟨AB6.out, EB6.out⟩, .inr (.inl ⟨rfl, OVN.out, _, T6.out⟩)⟩
                case measure => simp [intOf]
              · have HOE : Hid (overR j r es = true) := HOX.out rfl hfit
                rw [if_neg hfit] at HSR
                obtain ⟨s1', s2'⟩ := sr
                have hs12 := HSR.out
                injection hs12 with e5 e6
                subst e5 e6
                simp only
                have BE : Hid (Below w.heap.size w w4) := (HK.out _ AB4).2
                clear TR4 AB4 EB4 WB4 TR3H AB3H EB3H WB3H HSR hfit b4
                go_wp2_with fail
                exact HPN.out _ HOE.out BE.out
        · have OVN : Hid (overR j r (es.take (i + 1)) = false) := hovn
          clear hovn
          have TR : Hid (TbI wr W0.heap.size g m vs (tabF m (t1F j r (es.take i) ((x1 : Int), (x2 : Int), x3)))) := htb
          have AB : Hid (Below W0.heap.size W0 wr) := hbel
          have EB : Hid (BX 50 wr bx #[.int .i64 (x1 : Int), .int .i64 (x2 : Int), .int .i64 x3]) := heb
          have hsr := hbel.size
          have W1 : Hid (TbI (wr.alloc (.cells #[.bool wi, .int .i64 (x2 : Int), .int .i64 (x1 : Int)] 92)) W0.heap.size g m vs (tabF m (t1F j r (es.take i) ((x1 : Int), (x2 : Int), x3))) ∧ Below W0.heap.size W0 (wr.alloc (.cells #[.bool wi, .int .i64 (x2 : Int), .int .i64 (x1 : Int)] 92)) ∧ BX 50 (wr.alloc (.cells #[.bool wi, .int .i64 (x2 : Int), .int .i64 (x1 : Int)] 92)) bx #[.int .i64 (x1 : Int), .int .i64 (x2 : Int), .int .i64 x3] ∧ BX 92 (wr.alloc (.cells #[.bool wi, .int .i64 (x2 : Int), .int .i64 (x1 : Int)] 92)) wr.heap.size #[.bool wi, .int .i64 (x2 : Int), .int .i64 (x1 : Int)]) := ⟨TR.out.kept ((Kept.refl _ _).alloc _), AB.out.alloc hsr _, EB.out.below (below_alloc _ _) EB.out.lt, BX.new _ _ _⟩
          clear htb hbel heb
          have HN : Hid ((wi && (r (x2 : Int)).2) = false → (tabF m (t0F j r (es.take (i + 1)))) = (tabF m (t1F j r (es.take i) ((x1 : Int), (x2 : Int), x3)))) := fun h => t2_no HX.out (by rw [HWI.out]; exact h)
          have HY : Hid ((wi && (r (x2 : Int)).2) = true → (tabF m (t0F j r (es.take (i + 1)))) = (tabF m (t1F j r (es.take i) ((x1 : Int), (x2 : Int), x3))).set x1 ((t1F j r (es.take i) ((x1 : Int), (x2 : Int), x3) x1) ++ [(sayJ j (r (x2 : Int)).1.1 x3)])) := fun h => t2_yes HX.out (by rw [HWI.out]; exact h) rfl
          have HFIT : Hid ((wi && (r (x2 : Int)).2) = true → (sayJ j (r (x2 : Int)).1.1 x3) ≤ Jb.top j) := fun h => by
            rw [Bool.and_eq_true] at h
            rw [way_say j (by rw [HWI.out]; exact h.1)]
            have h2 := (valB_iff.1 (HRR.out (x2 : Int) (by omega)).1).1.2
            exact h2
          have HSAY : Hid ((r (x2 : Int)).2 = true → ∀ X, Calls Try.prog 36 #[.int .i64 k, .agg #[.int .i64 (r (x2 : Int)).1.1, .int .i64 (r (x2 : Int)).1.2], .int .i64 ph, .int .i64 x3] X fun e w' => ∃ v, e = .returned v ∧ (v = .tuple #[.int .i64 (if (sayJ j (r (x2 : Int)).1.1 x3) ≤ Jb.top j then ((sayJ j (r (x2 : Int)).1.1 x3), (0 : Int)) else (0, 6)).1, .int .i64 (if (sayJ j (r (x2 : Int)).1.1 x3) ≤ Jb.top j then ((sayJ j (r (x2 : Int)).1.1 x3), (0 : Int)) else (0, 6)).2] ∧ Below X.heap.size X w')) := fun hsd X => by
            have h1 := say_any k (r (x2 : Int)).1 ph x3 X
            have h2 := HRR.out (x2 : Int) (by omega)
            rw [HKJ.out, HPJ.out, saidF_of, said_fit h2.1 (h2.2 hsd) (inB_iff.2 HW3.out)] at h1
            rw [HKJ.out, HPJ.out]
            exact h1.mono fun e w' h => ⟨_, h.1, rfl, h.2⟩
          have VX : Hid (∀ X, Below W0.heap.size W0 X → X.cell? ⟨bb, ob + x2, none⟩ = some (.bool (r (x2 : Int)).2) ∧ X.cell? ⟨bv, ov + x2 * 2, none⟩ = some (.int .i64 (r (x2 : Int)).1.1) ∧ X.cell? ⟨bv, ov + x2 * 2 + 1, none⟩ = some (.int .i64 (r (x2 : Int)).1.2)) := fun X hX => RV.out X x2 hX (by omega)
          obtain ⟨u, hu⟩ := getX (show x1 < vs.length by rw [TR.out.lv]; omega)
          have HFL : Hid ((tabF m (t1F j r (es.take i) ((x1 : Int), (x2 : Int), x3)))[x1]? = some ((t1F j r (es.take i) ((x1 : Int), (x2 : Int), x3) x1))) := tabF_at (show x1 < m by omega)
          have hel := TR.out.el x1 u _ hu HFL.out
          obtain ⟨ua, un, uc, rfl⟩ : ∃ a n c, u = .slice a n c := by obtain ⟨a, c, e, _⟩ := RowK.own encI_len hel; exact ⟨_, _, _, e⟩
          have HU : Hid (vs[x1]? = some (.slice ua un uc)) := hu
          have hll : ((t1F j r (es.take i) ((x1 : Int), (x2 : Int), x3) x1)).length ≤ 1201 := t1_most HLE.out
          clear hu hel
          generalize (t1F j r (es.take i) ((x1 : Int), (x2 : Int), x3) x1) = lst at *
          have q0 : (0 : Int) ≤ (x2 : Int) := by omega
          have q1 : (x2 : Int) < (m : Int) := by omega
          have q3 : (0 : Int) ≤ (x1 : Int) := by omega
          have q4 : (x1 : Int) < (m : Int) := by omega
          generalize (sayJ j (r (x2 : Int)).1.1 x3) = say at *
          generalize r (x2 : Int) = rv at *
          obtain ⟨⟨y1, y2⟩, sd⟩ := rv
          simp only at VX HSAY HN HY HFIT
          go_upto_region 12 with fail
          generalize wr.alloc (.cells #[.bool wi, .int .i64 (x2 : Int), .int .i64 (x1 : Int)] 92) = w3 at *
          generalize wr.heap.size = bw at *
          obtain ⟨TR3, AB3, EB3, WB3⟩ := W1.out
          obtain ⟨k0, k1, k2, _⟩ := WB3.all3
          obtain ⟨yb, _, _⟩ := VX.out _ AB3
          have hs3 := AB3.size
          cases wi
          · have T3 : Hid (TbI w3 W0.heap.size g m vs (tabF m (t0F j r (es.take (i + 1))))) := by
              show TbI _ _ _ _ _ _
              rw [HN.out rfl]; exact TR3
            have A3 : Hid (Below W0.heap.size W0 w3) := AB3
            have E3 : Hid (BX 50 w3 bx #[.int .i64 (x1 : Int), .int .i64 (x2 : Int), .int .i64 x3]) := EB3
            clear TR3 AB3 EB3 WB3 W1 TR AB EB HN HY HSAY VX HFL HU
            go_wp2_with fail
            go_roundw
            case rel => exact ⟨⟨A3.out, E3.out⟩, .inr (.inr ⟨rfl, OVN.out, vs, T3.out⟩)⟩
            case measure => simp [intOf]
          · cases sd
            · have T3 : Hid (TbI w3 W0.heap.size g m vs (tabF m (t0F j r (es.take (i + 1))))) := by
                show TbI _ _ _ _ _ _
                rw [HN.out rfl]; exact TR3
              have A3 : Hid (Below W0.heap.size W0 w3) := AB3
              have E3 : Hid (BX 50 w3 bx #[.int .i64 (x1 : Int), .int .i64 (x2 : Int), .int .i64 x3]) := EB3
              clear TR3 AB3 EB3 WB3 W1 TR AB EB HN HY HSAY VX HFL HU
              go_wp2_with fail
              go_roundw
              case rel => exact ⟨⟨A3.out, E3.out⟩, .inr (.inr ⟨rfl, OVN.out, vs, T3.out⟩)⟩
              case measure => simp [intOf]
            · have HS1 := HSAY.out rfl
              have KEEP : Hid (∀ V, Below w3.heap.size w3 V → (V.cell? ⟨w.heap.size, 2, none⟩ = some (.int .i64 k) ∧ V.cell? ⟨bw, 1, none⟩ = some (.int .i64 (x2 : Int)) ∧ V.cell? ⟨bx, 2, none⟩ = some (.int .i64 x3) ∧ V.cell? ⟨bv, ov + x2 * 2, none⟩ = some (.int .i64 y1) ∧ V.cell? ⟨bv, ov + x2 * 2 + 1, none⟩ = some (.int .i64 y2))) := fun V hV => by
                have hV2 : Below W0.heap.size W0 V := AB3.trans (hV.mono hs3)
                obtain ⟨Q4, _⟩ := HK.out V hV2
                obtain ⟨_, _, j2, _⟩ := Q4.all4
                obtain ⟨_, g1, _⟩ := (WB3.below hV WB3.lt).all3
                obtain ⟨_, _, g3, _⟩ := (EB3.below hV EB3.lt).all3
                obtain ⟨_, g4, g5⟩ := VX.out V hV2
                exact ⟨j2, g1, g3, g4, g5⟩
              have HS0 : Hid (w3.drew.cell? ⟨w.heap.size, 2, none⟩ = some (.int .i64 k) ∧ w3.drew.cell? ⟨bw, 1, none⟩ = some (.int .i64 (x2 : Int)) ∧ w3.drew.cell? ⟨bx, 2, none⟩ = some (.int .i64 x3) ∧ w3.drew.cell? ⟨bv, ov + x2 * 2, none⟩ = some (.int .i64 y1) ∧ w3.drew.cell? ⟨bv, ov + x2 * 2 + 1, none⟩ = some (.int .i64 y2)) := KEEP.out w3.drew (Below.refl _ _).drew
              obtain ⟨sr, hsr2⟩ : ∃ sr : Int × Int, (if say ≤ Jb.top j then (say, (0 : Int)) else (0, 6)) = sr := ⟨_, rfl⟩
              rw [hsr2] at HS1
              have HS2 : Hid (∀ X, Calls Try.prog 36 #[.int .i64 k, .agg #[.int .i64 y1, .int .i64 y2], .int .i64 ph, .int .i64 x3] X fun e w' => ∃ v, e = .returned v ∧ (v = .tuple #[.int .i64 sr.1, .int .i64 sr.2] ∧ Below X.heap.size X w')) := HS1
              have HSR : Hid ((if say ≤ Jb.top j then (say, (0 : Int)) else (0, 6)) = sr) := hsr2
              have TR3H : Hid (TbI w3 W0.heap.size g m vs (tabF m (t1F j r (es.take i) ((x1 : Int), (x2 : Int), x3)))) := TR3
              have AB3H : Hid (Below W0.heap.size W0 w3) := AB3
              have EB3H : Hid (BX 50 w3 bx #[.int .i64 (x1 : Int), .int .i64 (x2 : Int), .int .i64 x3]) := EB3
              have WB3H : Hid (BX 92 w3 bw #[.bool true, .int .i64 (x2 : Int), .int .i64 (x1 : Int)]) := WB3
              have esay : ∀ args w, (callFunc 36 args).run Try.prog w = .ok (.enter 36 args) w := enters_of Try.func36 (by kernel_rfl) rfl
              clear TR3 AB3 EB3 WB3 W1 TR AB EB HN HS1 hsr2 HSAY
              go_upto_region 13 with fail
              clear k0 k1 k2 yb
              refine wp_region_held (S := fun V => (V.cell? ⟨w.heap.size, 2, none⟩ = some (.int .i64 k) ∧ V.cell? ⟨bw, 1, none⟩ = some (.int .i64 (x2 : Int)) ∧ V.cell? ⟨bx, 2, none⟩ = some (.int .i64 x3) ∧ V.cell? ⟨bv, ov + x2 * 2, none⟩ = some (.int .i64 y1) ∧ V.cell? ⟨bv, ov + x2 * 2 + 1, none⟩ = some (.int .i64 y2))) (by kernel_rfl) ?_
              simp only [List.size_toArray, List.length_cons, List.length_nil, Nat.reduceAdd]
              refine takeH (i := 0) (v := .pointer (some ⟨w.heap.size, 2, none⟩)) (d := 75) rfl rfl (by kernel_rfl) (by kernel_rfl) (by kernel_rfl) (fun _ _ _ h => h) (by rfl) (fun V hV => by obtain ⟨v1, v2, v3, v4, v5⟩ := hV; go_simp) HS0.out ?_
              simp only [Act.put, List.setIfInBounds_toArray, List.set_cons_zero, List.set_cons_succ]
              refine takeH (i := 1) (v := .int .i64 k) (d := 76) rfl rfl (by kernel_rfl) (by kernel_rfl) (by kernel_rfl) (fun _ _ _ h => h) (by rfl) (fun V hV => by obtain ⟨v1, v2, v3, v4, v5⟩ := hV; go_simp) HS0.out ?_
              simp only [Act.put, List.setIfInBounds_toArray, List.set_cons_zero, List.set_cons_succ]
              refine takeH (i := 2) (v := .slice (some ⟨bv, ov, none⟩) m cv) (d := 77) rfl rfl (by kernel_rfl) (by kernel_rfl) (by kernel_rfl) (fun _ _ _ h => h) (by rfl) (fun V hV => by obtain ⟨v1, v2, v3, v4, v5⟩ := hV; go_simp) HS0.out ?_
              simp only [Act.put, List.setIfInBounds_toArray, List.set_cons_zero, List.set_cons_succ]
              refine takeH (i := 3) (v := .pointer (some ⟨bw, 1, none⟩)) (d := 78) rfl rfl (by kernel_rfl) (by kernel_rfl) (by kernel_rfl) (fun _ _ _ h => h) (by rfl) (fun V hV => by obtain ⟨v1, v2, v3, v4, v5⟩ := hV; go_simp) HS0.out ?_
              simp only [Act.put, List.setIfInBounds_toArray, List.set_cons_zero, List.set_cons_succ]
              refine takeH (i := 4) (v := .int .i64 (x2 : Int)) (d := 79) rfl rfl (by kernel_rfl) (by kernel_rfl) (by kernel_rfl) (fun _ _ _ h => h) (by rfl) (fun V hV => by obtain ⟨v1, v2, v3, v4, v5⟩ := hV; go_simp) HS0.out ?_
              simp only [Act.put, List.setIfInBounds_toArray, List.set_cons_zero, List.set_cons_succ]
              refine takeH (i := 5) (v := .pointer (some ⟨bv, ov + x2 * 2, none⟩)) (d := 80) rfl rfl (by kernel_rfl) (by kernel_rfl) (by kernel_rfl) (fun _ _ _ h => h) (by rfl) (fun V hV => by obtain ⟨v1, v2, v3, v4, v5⟩ := hV; go_simp) HS0.out ?_
              simp only [Act.put, List.setIfInBounds_toArray, List.set_cons_zero, List.set_cons_succ]
              refine takeH (i := 6) (v := .agg #[.int .i64 y1, .int .i64 y2]) (d := 81) rfl rfl (by kernel_rfl) (by kernel_rfl) (by kernel_rfl) (fun _ _ _ h => h) (by rfl) (fun V hV => by obtain ⟨v1, v2, v3, v4, v5⟩ := hV; go_simp) HS0.out ?_
              simp only [Act.put, List.setIfInBounds_toArray, List.set_cons_zero, List.set_cons_succ]
              refine takeH (i := 7) (v := .int .i64 ph) (d := 82) rfl rfl (by kernel_rfl) (by kernel_rfl) (by kernel_rfl) (fun _ _ _ h => h) (by rfl) (fun V hV => by obtain ⟨v1, v2, v3, v4, v5⟩ := hV; go_simp) HS0.out ?_
              simp only [Act.put, List.setIfInBounds_toArray, List.set_cons_zero, List.set_cons_succ]
              refine takeH (i := 8) (v := .pointer (some ⟨bx, 2, none⟩)) (d := 83) rfl rfl (by kernel_rfl) (by kernel_rfl) (by kernel_rfl) (fun _ _ _ h => h) (by rfl) (fun V hV => by obtain ⟨v1, v2, v3, v4, v5⟩ := hV; go_simp) HS0.out ?_
              simp only [Act.put, List.setIfInBounds_toArray, List.set_cons_zero, List.set_cons_succ]
              refine takeH (i := 9) (v := .int .i64 x3) (d := 84) rfl rfl (by kernel_rfl) (by kernel_rfl) (by kernel_rfl) (fun _ _ _ h => h) (by rfl) (fun V hV => by obtain ⟨v1, v2, v3, v4, v5⟩ := hV; go_simp) HS0.out ?_
              simp only [Act.put, List.setIfInBounds_toArray, List.set_cons_zero, List.set_cons_succ]
              refine oneH (i := 10) rfl (by kernel_rfl) rfl (call_gets (d := 85) (f := 36) (xs := #[.tmp 76, .tmp 81, .tmp 82, .tmp 84]) (ats := #[3, 44, 3, 3]) rfl rfl esay (vs := #[.int .i64 k, .agg #[.int .i64 y1, .int .i64 y2], .int .i64 ph, .int .i64 x3]) (by simp [Act.eval]) (HS2.out w3.drew) ?_)
              rintro vr w4 ⟨rfl, hb4⟩
              have b4 : Below w3.heap.size w3 w4 := (Below.refl _ _).drew.trans hb4
              have HS4 : Hid (w4.cell? ⟨w.heap.size, 2, none⟩ = some (.int .i64 k) ∧ w4.cell? ⟨bw, 1, none⟩ = some (.int .i64 (x2 : Int)) ∧ w4.cell? ⟨bx, 2, none⟩ = some (.int .i64 x3) ∧ w4.cell? ⟨bv, ov + x2 * 2, none⟩ = some (.int .i64 y1) ∧ w4.cell? ⟨bv, ov + x2 * 2 + 1, none⟩ = some (.int .i64 y2)) := KEEP.out w4 b4
              refine ⟨HS4.out, ?_⟩
              simp only [Act.put, List.setIfInBounds_toArray, List.set_cons_zero, List.set_cons_succ]
              refine takeH (i := 11) (v := .tuple #[.int .i64 sr.1, .int .i64 sr.2]) (d := 74) rfl rfl (by kernel_rfl) (by kernel_rfl) (by kernel_rfl) (fun _ _ _ h => h) (by rfl) (fun V hV => by obtain ⟨v1, v2, v3, v4, v5⟩ := hV; go_simp) HS4.out ?_
              simp only [Act.put, List.setIfInBounds_toArray, List.set_cons_zero, List.set_cons_succ]
              refine takeH (i := 12) (v := .int .i64 sr.1) (d := 86) rfl rfl (by kernel_rfl) (by kernel_rfl) (by kernel_rfl) (fun _ _ _ h => h) (by rfl) (fun V hV => by obtain ⟨v1, v2, v3, v4, v5⟩ := hV; go_simp) HS4.out ?_
              simp only [Act.put, List.setIfInBounds_toArray, List.set_cons_zero, List.set_cons_succ]
              refine takeH (i := 13) (v := .int .i64 sr.2) (d := 87) rfl rfl (by kernel_rfl) (by kernel_rfl) (by kernel_rfl) (fun _ _ _ h => h) (by rfl) (fun V hV => by obtain ⟨v1, v2, v3, v4, v5⟩ := hV; go_simp) HS4.out ?_
              simp only [Act.put, List.setIfInBounds_toArray, List.set_cons_zero, List.set_cons_succ]
              refine takeH (i := 14) (v := .int .i64 sr.1) (d := 19) rfl rfl (by kernel_rfl) (by kernel_rfl) (by kernel_rfl) (fun _ _ _ h => h) (by rfl) (fun V hV => by obtain ⟨v1, v2, v3, v4, v5⟩ := hV; go_simp) HS4.out ?_
              simp only [Act.put, List.setIfInBounds_toArray, List.set_cons_zero, List.set_cons_succ]
              refine takeH (i := 15) (v := .int .i64 sr.2) (d := 20) rfl rfl (by kernel_rfl) (by kernel_rfl) (by kernel_rfl) (fun _ _ _ h => h) (by rfl) (fun V hV => by obtain ⟨v1, v2, v3, v4, v5⟩ := hV; go_simp) HS4.out ?_
              simp only [Act.put, List.setIfInBounds_toArray, List.set_cons_zero, List.set_cons_succ]
              refine wpAnyH_done (by kernel_rfl) ?_ _
              have TR4 := TR3H.out.kept (Kept.of b4)
              have AB4 : Below W0.heap.size W0 w4 := AB3H.out.trans (b4.mono hs3)
              have EB4 := EB3H.out.below b4 EB3H.out.lt
              have WB4 := WB3H.out.below b4 WB3H.out.lt
              clear HS4 HS0 KEEP hb4 HS2 esay
              have hfit := HFIT.out rfl
              rw [if_pos hfit] at HSR
              obtain ⟨s1', s2'⟩ := sr
              have hs12 := HSR.out
              injection hs12 with e5 e6
              subst e5 e6
              simp only
              obtain ⟨k0, k1, k2, _⟩ := WB4.all3
              have k3 := TR4.cell HU.out
              have hbx := WB4.lt
              have hg4 : g < w4.heap.size := (TR4.row.lt g rfl).2
              have hgw : W0.heap.size ≤ g := (TR4.row.lt g rfl).1
              have m0 : ∀ X, (w4.alloc X).cell? ⟨bw, 2, none⟩ = some (.int .i64 (x1 : Int)) := fun X => ((below_alloc w4 X).cell (p := ⟨bw, 2, none⟩) hbx).trans k2
              have m1 : ∀ X, (w4.alloc X).cell? ⟨g, x1, none⟩ = some (.slice ua un uc) := fun X => ((below_alloc w4 X).cell (p := ⟨g, x1, none⟩) hg4).trans k3
              have hel := TR4.el x1 _ lst HU.out HFL.out
              have hs4 := AB4.size
              obtain ⟨g5, c5, w5, hrun, ho5, hgr5, hli5⟩ := run_append_newL kI (w := (w4.alloc (.cells #[.int .i64 say] 3)).drew) 30 W0.heap.size (.slice ua un uc) lst ((hel.alloc _).drew) w4.heap.size say #[.int .i64 say] rfl (0, 0) (heap_alloc_new w4 _) (by simp only [kI]; omega) (by unfold maxLen; omega) (by show W0.heap.size ≤ (w4.alloc _).heap.size; simp; omega)
              obtain ⟨a1, a2, a3⟩ := appOk_of hrun
              have TR5 : TbI (w4.alloc (.cells #[.int .i64 say] 3)).drew W0.heap.size g m vs (tabF m (t1F j r (es.take i) ((x1 : Int), (x2 : Int), x3))) := TR4.kept ((Kept.refl _ _).alloc _).drew
              obtain ⟨T5, k4, k5⟩ := TR5.put HU.out HFL.out hgr5 ho5 hli5
              have T6 : Hid (TbI (w5.setCell ⟨g, x1, none⟩ (.slice (some ⟨g5, 0, none⟩) (lst.length + 1) c5)) W0.heap.size g m (vs.set x1 (.slice (some ⟨g5, 0, none⟩) (lst.length + 1) c5)) (tabF m (t0F j r (es.take (i + 1))))) := by
                show TbI _ _ _ _ _ _
                rw [HY.out rfl]; exact T5
              have AB6 : Hid (Below W0.heap.size W0 (w5.setCell ⟨g, x1, none⟩ (.slice (some ⟨g5, 0, none⟩) (lst.length + 1) c5))) := by
                have h5 : Below W0.heap.size W0 w5 := ((AB4.alloc hs4 _).drew).trans ((Below.refl _ _).grown hgr5 (by show W0.heap.size ≤ (w4.alloc _).heap.size; simp; omega) (fun q hq => (own_ge hel hq).1))
                exact h5.setCell (p := ⟨g, x1, none⟩) hgw _
              have eb5 : ∀ (t : TypeId) (q : Nat) (cs : Array Value), BX t w4 q cs → 3 ≠ t → BX t w5 q cs := fun t q cs hq hne => by
                have h7 := hq.lt
                show w5.heap[q]? = _
                rw [hgr5.block q (by show q < (w4.alloc _).heap.size; simp; omega) (fun e => own_block hel e.symm hq hne rfl)]
                exact ((below_alloc w4 _).block q h7).trans hq
              have m2 : w5.cell? ⟨bw, 2, none⟩ = some (.int .i64 (x1 : Int)) := (eb5 _ _ _ WB4 (by decide)).all3.2.2.1
              have EB6 : Hid (BX 50 (w5.setCell ⟨g, x1, none⟩ (.slice (some ⟨g5, 0, none⟩) (lst.length + 1) c5)) bx #[.int .i64 (x1 : Int), .int .i64 (x2 : Int), .int .i64 x3]) := (eb5 _ _ _ EB4 (by decide)).other (by
                obtain ⟨cur, hc⟩ := own_cur TR4.row
                exact fun e => by
                  have h8 : w4.heap[bx]? = _ := EB4
                  rw [e, hc] at h8
                  injection h8 with h8
                  injection h8 with _ h8
                  exact absurd h8 (by decide))
              unfold kI at a1 a2 a3
              simp only at a1 a2 a3
              clear hel hrun ho5 hgr5 hli5 TR5 T5 TR4 AB4 EB4 WB4 TR3H AB3H EB3H WB3H eb5 HY HFL HU VX HSR b4
              go_upto_region 16 with fail
              go_region
              generalize w5.setCell ⟨g, x1, none⟩ (.slice (some ⟨g5, 0, none⟩) (lst.length + 1) c5) = w6 at *
              clear a1 a2 a3 m0 m1 m2 k0 k1 k2 k3 k4 k5
              go_wp2_with fail
              go_roundw
              case rel => exact ⟨⟨AB6.out, EB6.out⟩, .inr (.inr ⟨rfl, OVN.out, _, T6.out⟩)⟩
              case measure => simp [intOf]
        · have OVN : Hid (overR j r (es.take (i + 1)) = false) := hovn
          have T3 : Hid (TbI wr W0.heap.size g m vs (tabF m (t0F j r (es.take (i + 1))))) := htb
          have A3 : Hid (Below W0.heap.size W0 wr) := hbel
          clear hovn htb hbel heb
          go_wp2_with fail
          go_roundw
          case rel => exact ⟨i + 1, vs, by omega, by go_num, OVN.out, T3.out, A3.out⟩
          case measure => simp [intOf]; omega
    · have ei : es.take i = es := List.take_of_length_le (by omega)
      rw [ei] at TR HOV
      have TS : Hid (TbI wr W0.heap.size g m vs (tabF m (t2F j r es 0))) := by show TbI _ _ _ _ _ _; rw [s2_zero]; exact TR.out
      have HMS : Hid (∀ c : Nat, (msgs j r es (c : Int)).length < 4611686018427387904) := fun c => by have := msgs_most j r es (c : Int); have := HLE.out; omega
      clear ei TR
      go_wp2_with fail
      go_loopw [107] (fun t wr => ∃ c : Nat, c ≤ m ∧ t = .int .i64 c ∧ TbI wr W0.heap.size g m vs (tabF m (t2F j r es c)) ∧ Below W0.heap.size W0 wr) (fun t _ => m - (intOf t).toNat)
      case atStart => exact ⟨0, by omega, rfl, TS.out, AB.out⟩
      case round =>
        obtain ⟨c, hc, rfl, htb, hbel⟩ := hrel
        have TR : Hid (TbI wr W0.heap.size g m vs (tabF m (t2F j r es c))) := htb
        have AC : Hid (Below W0.heap.size W0 wr) := hbel
        clear htb hbel TS
        by_cases hlt : c < m
        · obtain ⟨u, hu⟩ := getX (show c < vs.length by rw [TR.out.lv]; omega)
          have HFL : Hid ((tabF m (t2F j r es c))[c]? = some (msgs j r es (c : Int))) := by
            show _ = _
            rw [tabF_at hlt, s2_at]
          have hel := TR.out.el c u _ hu HFL.out
          have hcell := TR.out.cell hu
          have CS : Hid (∀ X, X.ownsRow W0.heap.size 3 1 u (msgs j r es (c : Int)).length ((msgs j r es (c : Int)).flatMap encI) → Calls Try.prog 37 #[u] X fun e w' => e = .returned (.tuple #[]) ∧ w'.ownsRow W0.heap.size 3 1 u (sortN (msgs j r es (c : Int))).length ((sortN (msgs j r es (c : Int))).flatMap encI) ∧ Kept (fun q => u.ownBlock = some q) X w') := fun X hX => sortI_any _ u _ X hX (HMS.out c)
          have EL : Hid (wr.ownsRow W0.heap.size 3 1 u (msgs j r es (c : Int)).length ((msgs j r es (c : Int)).flatMap encI)) := hel
          have HU : Hid (vs[c]? = some u) := hu
          obtain ⟨ua, un, uc, rfl⟩ : ∃ a n c, u = .slice a n c := by obtain ⟨a, c, e, _⟩ := RowK.own encI_len hel; exact ⟨_, _, _, e⟩
          have p0 : (0 : Int) ≤ (c : Int) := by omega
          have p1 : (c : Int) < (m : Int) := by omega
          clear hu hel
          go_wp2_with fail
          refine (CS.out _ EL.out).mono ?_
          rintro e w4 ⟨rfl, ho4, hk4⟩
          have T4 : Hid (TbI w4 W0.heap.size g m vs (tabF m (t2F j r es (c + 1)))) := by
            show TbI _ _ _ _ _ _
            rw [s2_next]; exact TR.out.turn HU.out HFL.out hk4 ho4
          have A4 : Hid (Below W0.heap.size W0 w4) := AC.out.trans (hk4.below AC.out.size (fun q hq => (own_ge EL.out hq).1))
          clear hcell ho4 hk4
          go_wp2_with fail
          go_roundw
          case rel => exact ⟨c + 1, by omega, by go_num, T4.out, A4.out⟩
          case measure => simp [intOf]; omega
        · have ec : c = m := by omega
          have OE : Hid (OwnLi wr w.heap.size (.slice (some ⟨g, 0, none⟩) m m) (mailR m j r es)) := by
            have := TR.out.own
            rw [ec, s2_all] at this
            exact this.lower (by omega)
          have BE : Hid (Below w.heap.size w wr) := (HK.out _ AC.out).2
          clear ec
          go_wp2_with fail
          exact HPY.out _ _ HOV.out OE.out BE.out
end Go.Proofs.Ytbmkgnlfccigpab
