/-
  Contract of play.Show: P17.3.
-/
import Derived.Test.YtdeghndcglgfkaaDoorPlayLine
namespace Go.Proofs.YtdeghndcglgfkaaDoor
set_option maxRecDepth 100000
open Go.ChangeShapes Go.WideShapes Go.ChangeAt Go.RowKit

theorem shwW_len {l : List Mv} (h : l.length ≤ 100000) (hl : ∀ m ∈ l, plE m = 0) (k : Nat) : ((l.take k).flatMap plW).length ≤ 4700000 := by
  have h1 := plL_len (l.take k) fun m hm => hl m (List.mem_of_mem_take hm)
  have h2 : (l.take k).length ≤ 100000 := by simp; omega
  omega

set_option maxHeartbeats 4000000 in
theorem show_any (v : Value) (l : List Mv) (w : World) (h : EdR w v l) (hF : FrmF w.heap.size w) (hT : Tab10 w.heap.size w) :
    Calls Tryd.prog 8 #[v] w fun e w' => e = .returned (.tuple #[.string ⟨(shwW l).toArray⟩, .int .i64 (shwE l)]) ∧ Below w.heap.size w w' := by
  have HR : Hid (EdR w v l) := h
  have HF : Hid (FrmF w.heap.size w) := hF
  have HT : Hid (Tab10 w.heap.size w) := hT
  obtain ⟨a, cap, rfl, hcap, hmx, _, _⟩ := h
  unfold maxLen at hmx
  clear hF hT
  by_cases hbig : 100000 < l.length
  · have e1 : shwE l = 1 := by rw [shwE, if_pos hbig]
    have e2 : shwW l = [] := by rw [shwW, e1]; rfl
    rw [e1, e2]
    have hb1 : (100000 : Int) < (l.length : Int) := by omega
    go_enter Tryd.func8, Tryd.ntmps8
    go_wp2_with fail
    go_ret2
    exact ⟨rfl, Below.refl _ _⟩
  · have hb1 : ¬ (100000 : Int) < (l.length : Int) := by omega
    have HL : Hid (l.length ≤ 100000) := by show _ ≤ _; omega
    have HLO : Hid (∀ m : Mv, ∀ X, FrmF X.heap.size X → Tab10 X.heap.size X → Calls Tryd.prog 14 #[.agg #[.int .i64 m.1, .int .i64 m.2.1, .int .i64 m.2.2]] X fun e w' => e = .returned (linO m) ∧ Below X.heap.size X w') := fun m X h1 h2 => lineOf_any m X h1 h2
    go_enter Tryd.func8, Tryd.ntmps8
    go_wp2_with fail
    have HI0 : Hid (Lib.IsBuilderF 42 5 w.heap.size w.heap.size (Lib.byteCells ((l.take 0).flatMap plW)) (w.alloc (.cells #[.pointer none, .slice none 0 0] 42))) := Lib.IsBuilderF.of (Lib.fresh_isBuilder 42 5 w)
    have HB0 : Hid (Below w.heap.size w (w.alloc (.cells #[.pointer none, .slice none 0 0] 42))) := below_alloc _ _
    generalize w.alloc (.cells #[.pointer none, .slice none 0 0] 42) = W0 at HI0 HB0 ⊢
    go_loopw [14] (fun i wr => ∃ k : Nat, k ≤ l.length ∧ i = .int .i64 k ∧ (∀ m ∈ l.take k, plE m = 0) ∧ Lib.IsBuilderF 42 5 w.heap.size w.heap.size (Lib.byteCells ((l.take k).flatMap plW)) wr ∧ Below w.heap.size w wr) (fun i _ => l.length - (intOf i).toNat)
    case atStart => exact ⟨0, by omega, rfl, fun m hm => by simp at hm, HI0.out, HB0.out⟩
    case round =>
      obtain ⟨k, hk, rfl, hok, hb, hbel⟩ := hrel
      have HOK : Hid (∀ m ∈ l.take k, plE m = 0) := hok
      have HIr : Hid (Lib.IsBuilderF 42 5 w.heap.size w.heap.size (Lib.byteCells ((l.take k).flatMap plW)) wr) := hb
      have HB : Hid (Below w.heap.size w wr) := hbel
      have hsr : w.heap.size ≤ wr.heap.size := hbel.size
      have hlt1 : w.heap.size < wr.heap.size := by rcases hb with h | h <;> exact h.lt
      have HLr : Hid (EdR wr (.slice a l.length cap) l) := HR.out.below HB.out (Nat.le_refl _)
      have HLN : Hid (((l.take k).flatMap plW).length ≤ 4700000) := by
        have h1 := plL_len (l.take k) hok
        have h2 : (l.take k).length ≤ 100000 := by have := HL.out; simp; omega
        show _ ≤ _
        omega
      clear hok hb hbel
      by_cases hlt : k < l.length
      · obtain ⟨b, off, cap', e1, _, _, lt, hv⟩ := EdR.at HLr.out (by omega)
        injection e1 with e1 _ e3
        subst e1 e3
        obtain ⟨x, hx⟩ := getE hlt
        obtain ⟨c1, c2, c3⟩ := hv k x hx
        have HX : Hid (l[k]? = some x) := hx
        have HLX := Lib.hid (HLO.out x)
        obtain ⟨xk, xa, xb⟩ := x
        simp only at c1 c2 c3 HLX
        have p0 : (0 : Int) ≤ (k : Int) := by omega
        have p1 : (k : Int) < (l.length : Int) := by omega
        clear hv hx HLO
        by_cases hE : plE (xk, xa, xb) = 0
        · have HO : Hid (linO (xk, xa, xb) = .tuple #[.string ⟨(plW (xk, xa, xb)).toArray⟩, .int .i64 0]) := by
            show linO _ = _
            unfold linO
            rw [hE, if_pos rfl]
          have HN : Hid ((l.take (k + 1)).flatMap plW = (l.take k).flatMap plW ++ plW (xk, xa, xb) ∧ ∀ m ∈ l.take (k + 1), plE m = 0) := by
            rw [take_snoc HX.out]
            refine ⟨by simp, fun m hm => ?_⟩
            rcases List.mem_append.1 hm with hm | hm
            · exact HOK.out m hm
            · simp at hm; rw [hm]; exact hE
          have HW : Hid ((plW (xk, xa, xb)).length ≤ 47) := plW_len hE
          rw [HO.out] at HLX
          generalize plW (xk, xa, xb) = LW at HN HW HLX
          generalize (l.take k).flatMap plW = E0 at HN HIr HLN
          clear hE HO
          go_wp2_with fail
          refine (HLX.out _ ?_ ?_).mono ?_
          · exact ((HF.out.on HB.out).on ((Below.refl _ _).alloc hsr _)).up (by simp; omega)
          · exact ((HT.out.on HB.out).on ((Below.refl _ _).alloc hsr _)).up (by simp; omega)
          rintro e w2 ⟨rfl, hb2⟩
          have HI2 : Hid (Lib.IsBuilderF 42 5 w.heap.size w.heap.size (Lib.byteCells E0) w2) := builder_below (HIr.out.alloc _) hb2 (Nat.le_refl _)
          have HB2 : Hid (Below w.heap.size w w2) := (HB.out.alloc hsr _).trans (hb2.mono (by simp; omega))
          have hs2 := HB2.out.size
          clear hb2 HLX c1 c2 c3
          go_wp2_with fail
          refine (wstring_walk w.heap.size w.heap.size (Lib.byteCells E0) ⟨LW.toArray⟩ _ HI2.out ?_ hs2).mono ?_
          · rw [Lib.byteCells_length, bytes_size]; have := HW.out; have := HLN.out; omega
          rintro e w3 ⟨rfl, hI3, hb3, _⟩
          have H3 : Hid (Lib.IsBuilderF 42 5 w.heap.size w.heap.size (Lib.byteCells ((l.take (k + 1)).flatMap plW)) w3 ∧ Below w.heap.size w w3) := by
            refine ⟨?_, HB2.out.trans hb3⟩
            rw [HN.out.1, Lib.byteCells_append, ← Lib.strCells_toArray]
            exact hI3
          clear hI3 hb3
          go_wp2_with fail
          go_roundw
          case rel => exact ⟨k + 1, by omega, by go_num, HN.out.2, H3.out⟩
          case measure => simp [intOf]; omega
        · have HO : Hid (linO (xk, xa, xb) = .tuple #[.string ⟨#[]⟩, .int .i64 (plE (xk, xa, xb))]) := by
            show linO _ = _
            unfold linO
            rw [if_neg hE]
          have hne : (plE (xk, xa, xb) != 0) = true := by simpa using hE
          have HEE : Hid (shwE l = plE (xk, xa, xb) ∧ shwW l = []) := by
            have e1 : shwE l = plE (xk, xa, xb) := by rw [shwE, if_neg (by have := HL.out; omega)]; exact fir_at HOK.out HX.out hE
            exact ⟨e1, by rw [shwW, if_neg (by rw [e1]; exact hE)]⟩
          rw [HO.out] at HLX
          generalize plE (xk, xa, xb) = PE at hne HEE HLX
          clear hE HO
          go_wp2_with fail
          refine (HLX.out _ ?_ ?_).mono ?_
          · exact ((HF.out.on HB.out).on ((Below.refl _ _).alloc hsr _)).up (by simp; omega)
          · exact ((HT.out.on HB.out).on ((Below.refl _ _).alloc hsr _)).up (by simp; omega)
          rintro e w2 ⟨rfl, hb2⟩
          have HB2 : Hid (Below w.heap.size w w2) := (HB.out.alloc hsr _).trans (hb2.mono (by simp; omega))
          clear hb2 HLX c1 c2 c3
          go_wp2_with fail
          go_ret2
          exact ⟨by rw [HEE.out.1, HEE.out.2]; rfl, HB2.out⟩
      · have ek : l.take k = l := List.take_of_length_le (by omega)
        have HSS : Hid (shwE l = 0 ∧ shwW l = l.flatMap plW) := by
          have h1 := HOK.out
          rw [ek] at h1
          have e1 : shwE l = 0 := by rw [shwE, if_neg (by have := HL.out; omega)]; exact fir_all h1
          exact ⟨e1, by rw [shwW, if_pos e1]⟩
        rw [ek] at HIr
        clear ek HLN HOK
        generalize l.flatMap plW = sh at HIr HSS
        go_wp2_with fail
        refine (Tryd.Builder_String_any_k w.heap.size w.heap.size sh _ HIr.out (by omega)).mono ?_
        rintro e w3 ⟨rfl, _, hb3, _⟩
        have B3 : Hid (Below w.heap.size w w3) := HB.out.trans hb3
        clear hb3
        go_wp2_with fail
        go_ret2
        exact ⟨by rw [HSS.out.1, HSS.out.2]; rfl, B3.out⟩
end Go.Proofs.YtdeghndcglgfkaaDoor
