/-
  Contract of the document's own MovesShown (P17.3).
-/
import Derived.Test.YtdeghndcglgfkaaDoorRefLine
namespace Go.Proofs.YtdeghndcglgfkaaDoor
set_option maxRecDepth 100000
open Go.ChangeShapes Go.WideShapes Go.ChangeAt Go.RowKit

/-- string(b) of a row of bytes that is owned. -/
theorem conv_own {w : World} {base : Nat} {v : Value} {l : List UInt8} (h : w.ownsRow base 5 1 v l.length (Lib.byteCells l)) : (convert 40 9 v).run Tryd.prog w = .ok (.string ⟨l.toArray⟩) w := by
  rcases own_shapeK h with ⟨rfl, h0, _⟩ | ⟨g, cap, rfl, _, _, _, _, hc⟩
  · have : l = [] := List.eq_nil_of_length_eq_zero h0
    subst this
    rw [run_convert_bytes_nil w 40 5 Tryd.underlying40 Tryd.underlying5 _ _ 9 Tryd.underlying9]
    rfl
  · exact run_convert_bytes_back (P := Tryd.prog) w 40 9 5 ⟨g, 0, none⟩ cap l Tryd.underlying40 Tryd.underlying5 Tryd.underlying9 (by
      intro j hj
      rw [addr_add]
      have := hc j _ (by rw [Lib.byteCells, List.getElem?_map, List.getElem?_eq_getElem hj]; rfl)
      simpa using this)

set_option maxHeartbeats 4000000 in
theorem movesShown_any (v : Value) (l : List Mv) (w : World) (h : EdR w v l) :
    Calls Tryd.prog 9 #[v] w fun e w' => e = .returned (.tuple #[.string ⟨(shwW l).toArray⟩, .int .i64 (shwE l)]) ∧ Below w.heap.size w w' := by
  have HR : Hid (EdR w v l) := h
  obtain ⟨a, cap, rfl, hcap, hmx, _, _⟩ := h
  unfold maxLen at hmx
  by_cases hbig : 100000 < l.length
  · have e1 : shwE l = 1 := by rw [shwE, if_pos hbig]
    have e2 : shwW l = [] := by rw [shwW, e1]; rfl
    rw [e1, e2]
    have hb1 : (100000 : Int) < (l.length : Int) := by omega
    go_enter Tryd.func9, Tryd.ntmps9
    go_wp2_with fail
    go_ret2
    exact ⟨rfl, Below.refl _ _⟩
  · have hb1 : ¬ (100000 : Int) < (l.length : Int) := by omega
    have HL : Hid (l.length ≤ 100000) := by show _ ≤ _; omega
    have HLO : Hid (∀ m : Mv, ∀ X, Calls Tryd.prog 17 #[.agg #[.int .i64 m.1, .int .i64 m.2.1, .int .i64 m.2.2]] X fun e w' => e = .returned (linO m) ∧ Below X.heap.size X w') := fun m X => moveLine_any m X
    obtain ⟨i0, hi, hz0, hz1, hz2⟩ := info_parts Tryd.infoB5
    go_enter Tryd.func9, Tryd.ntmps9
    go_wp2_with fail
    go_loopw [4, 5] (fun u i wr => ∃ k : Nat, k ≤ l.length ∧ i = .int .i64 k ∧ (∀ m ∈ l.take k, plE m = 0) ∧ wr.ownsRow w.heap.size 5 1 u ((l.take k).flatMap plW).length (Lib.byteCells ((l.take k).flatMap plW)) ∧ Below w.heap.size w wr) (fun _ i _ => l.length - (intOf i).toNat)
    case atStart => exact ⟨0, by omega, rfl, fun m hm => by simp at hm, World.ownsRow_nil _ _ _ _, Below.refl _ _⟩
    case round =>
      obtain ⟨k, hk, rfl, hok, hown, hbel⟩ := hrel
      have HOK : Hid (∀ m ∈ l.take k, plE m = 0) := hok
      have OW : Hid (wr.ownsRow w.heap.size 5 1 u4 ((l.take k).flatMap plW).length (Lib.byteCells ((l.take k).flatMap plW))) := hown
      have HB : Hid (Below w.heap.size w wr) := hbel
      have hsr : w.heap.size ≤ wr.heap.size := hbel.size
      have HLr : Hid (EdR wr (.slice a l.length cap) l) := HR.out.below HB.out (Nat.le_refl _)
      have HLN : Hid (((l.take k).flatMap plW).length ≤ 4700000) := by
        have h1 := plL_len (l.take k) hok
        have h2 : (l.take k).length ≤ 100000 := by have := HL.out; simp; omega
        show _ ≤ _
        omega
      clear hok hown hbel
      by_cases hlt : k < l.length
      · obtain ⟨b, off, cap', e1, _, _, lt, hv⟩ := EdR.at HLr.out (by omega)
        injection e1 with e1 _ e3
        subst e1 e3
        obtain ⟨x, hx⟩ := getE hlt
        obtain ⟨c1, c2, c3⟩ := hv k x hx
        have HX : Hid (l[k]? = some x) := hx
        have HLX := Lib.hid (HLO.out x)
        obtain ⟨xk, xa, xb⟩ := x
        simp only at c1 c2 c3 HLX
        have p0 : (0 : Int) ≤ (k : Int) := by omega
        have p1 : (k : Int) < (l.length : Int) := by omega
        clear hv hx HLO
        by_cases hE : plE (xk, xa, xb) = 0
        · have HO : Hid (linO (xk, xa, xb) = .tuple #[.string ⟨(plW (xk, xa, xb)).toArray⟩, .int .i64 0]) := by
            show linO _ = _
            unfold linO
            rw [hE, if_pos rfl]
          have HN : Hid ((l.take (k + 1)).flatMap plW = (l.take k).flatMap plW ++ plW (xk, xa, xb) ∧ ∀ m ∈ l.take (k + 1), plE m = 0) := by
            rw [take_snoc HX.out]
            refine ⟨by simp, fun m hm => ?_⟩
            rcases List.mem_append.1 hm with hm | hm
            · exact HOK.out m hm
            · simp at hm; rw [hm]; exact hE
          have HW : Hid ((plW (xk, xa, xb)).length ≤ 47) := plW_len hE
          rw [HO.out] at HLX
          generalize plW (xk, xa, xb) = LW at HN HW HLX
          generalize (l.take k).flatMap plW = E0 at HN OW HLN
          clear hE HO
          go_wp2_with fail
          refine (HLX.out _).mono ?_
          rintro e w2 ⟨rfl, hb2⟩
          have O2 : Hid (w2.ownsRow w.heap.size 5 1 u4 E0.length (Lib.byteCells E0)) := own_below OW.out hb2 (Nat.le_refl _)
          have HB2 : Hid (Below w.heap.size w w2) := HB.out.trans (hb2.mono hsr)
          have hs2 := HB2.out.size
          obtain ⟨ua, un, uc, rfl⟩ : ∃ a n c, u4 = .slice a n c := by
            rcases O2.out.2 with ⟨hv, _⟩ | ⟨g, cap, cur, hv, _⟩ <;> exact ⟨_, _, _, hv⟩
          clear hb2 HLX c1 c2 c3
          have q1 : E0.length + (⟨LW.toArray⟩ : ByteArray).size ≤ 140737488355328 := by rw [bytes_size]; have := HW.out; have := HLN.out; omega
          go_wp2_with (at_builtin; refine Lib.wpList_append_own_string _ rfl _ _ 40 9 rfl w.heap.size 5 i0 Tryd.underlying40 Tryd.underlying9 hi hz0 hz1 hz2 _ _ _ rfl O2.out ⟨LW.toArray⟩ rfl ?c3 ?c4 ?c5 ?_)
          case c3 => unfold maxLen; omega
          case c4 => exact q1
          case c5 => exact hs2
          intro v' w3 hown3 hgrow _
          have H3 : Hid (w3.ownsRow w.heap.size 5 1 v' ((l.take (k + 1)).flatMap plW).length (Lib.byteCells ((l.take (k + 1)).flatMap plW)) ∧ Below w.heap.size w w3) := by
            refine ⟨?_, HB2.out.grown hgrow hs2 (fun j hj => (O2.out.lt j hj).1)⟩
            rw [HN.out.1, Lib.byteCells_append, ← Lib.strCells_toArray, List.length_append]
            exact hown3
          clear hown3 hgrow q1
          go_wp2_with fail
          go_roundw
          case rel => exact ⟨k + 1, by omega, by go_num, HN.out.2, H3.out⟩
          case measure => simp [intOf]; omega
        · have HO : Hid (linO (xk, xa, xb) = .tuple #[.string ⟨#[]⟩, .int .i64 (plE (xk, xa, xb))]) := by
            show linO _ = _
            unfold linO
            rw [if_neg hE]
          have hne : (plE (xk, xa, xb) != 0) = true := by simpa using hE
          have HEE : Hid (shwE l = plE (xk, xa, xb) ∧ shwW l = []) := by
            have e1 : shwE l = plE (xk, xa, xb) := by rw [shwE, if_neg (by have := HL.out; omega)]; exact fir_at HOK.out HX.out hE
            exact ⟨e1, by rw [shwW, if_neg (by rw [e1]; exact hE)]⟩
          rw [HO.out] at HLX
          generalize plE (xk, xa, xb) = PE at hne HEE HLX
          clear hE HO
          go_wp2_with fail
          refine (HLX.out _).mono ?_
          rintro e w2 ⟨rfl, hb2⟩
          have HB2 : Hid (Below w.heap.size w w2) := HB.out.trans (hb2.mono hsr)
          clear hb2 HLX c1 c2 c3
          go_wp2_with fail
          go_ret2
          exact ⟨by rw [HEE.out.1, HEE.out.2]; rfl, HB2.out⟩
      · have ek : l.take k = l := List.take_of_length_le (by omega)
        have HSS : Hid (shwE l = 0 ∧ shwW l = l.flatMap plW) := by
          have h1 := HOK.out
          rw [ek] at h1
          have e1 : shwE l = 0 := by rw [shwE, if_neg (by have := HL.out; omega)]; exact fir_all h1
          exact ⟨e1, by rw [shwW, if_pos e1]⟩
        rw [ek] at OW
        clear ek HLN HOK
        generalize l.flatMap plW = sh at OW HSS
        have hcv := conv_own OW.out
        go_wp2_with fail
        go_ret2
        exact ⟨by rw [HSS.out.1, HSS.out.2]; rfl, HB.out⟩
end Go.Proofs.YtdeghndcglgfkaaDoor
