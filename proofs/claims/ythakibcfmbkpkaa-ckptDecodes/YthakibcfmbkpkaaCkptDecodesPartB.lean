/-
  Contract of the document's SavedOf: P14.3.
  Contract of the law's own sameValues, of what reads alike.
  Contract of the law's own sameMails: what reads alike.
  Contract of the law's own sameSaved, of what reads alike.
  Contract of octets: a copy of the bytes in memory of its own; nothing else is written.
  Bytes that came in: what their data say of memory.
-/
import Derived.Test.YthakibcfmbkpkaaCkptDecodesPartA
import Derived.Deep.CutRange
import Derived.Test.YthakibcfmbkpkaaTwoMem
import Derived.Deep.QuietTactic
import Derived.BigQuiet
import Derived.Lib.QuietBelow
import Derived.Test.YthakibcfmbkpkaaMailMem
import Derived.Test.YthakibcfmbkpkaaSavedMayP
import Derived.Test.YthakibcfmbkpkaaSame
import Derived.Laws.AppendOwnNone
import Derived.Test.YthakibcfmbkpkaaRowBase
import Derived.Deep.Slices
import Derived.Deep.Strs
import Derived.SizedLaws
import Derived.ShutString
import Derived.ChangeOld
import Derived.Below

namespace Go.Proofs.Ythakibcfmbkpkaa
set_option maxRecDepth 100000
open Go.ChangeShapes Go.WideShapes Go.ChangeAt Go.RowKit

set_option maxHeartbeats 4000000 in
set_option maxRecDepth 100000 in
theorem savedOf_any (v : Value) (b : List Int) (w : World) (hr : Reads .u8 w v b) (hx : ∀ x ∈ b, 0 ≤ x ∧ x ≤ 255) :
    Calls Try.prog 6 #[v] w (SvdP w (decS b)) := by
  have HR : Hid (Reads .u8 w v b) := hr
  have HX : Hid (∀ x ∈ b, 0 ≤ x ∧ x ≤ 255) := hx
  obtain ⟨va, vc, rfl⟩ : ∃ a c, v = .slice a b.length c := by obtain ⟨a, c, e, _⟩ := hr; exact ⟨a, c, e⟩
  obtain ⟨W0, hW0⟩ : ∃ W0, W0 = w.alloc (.cells #[.int .i64 0, .int .i64 0, .bool false, .slice none 0 0, .slice none 0 0] 27) := ⟨_, rfl⟩
  have Q0 : BX 27 W0 w.heap.size #[.int .i64 0, .int .i64 0, .bool false, .slice none 0 0, .slice none 0 0] := by rw [hW0]; exact BX.new _ _ _
  have s1 : w.heap.size + 1 ≤ W0.heap.size := by rw [hW0]; simp
  have B0 : Hid (Below w.heap.size w W0) := by show Below _ _ _; rw [hW0]; exact below_alloc _ _
  have ZX : Hid (∀ X, Below W0.heap.size W0 X → BX 27 X w.heap.size #[.int .i64 0, .int .i64 0, .bool false, .slice none 0 0, .slice none 0 0] ∧ Below w.heap.size w X) := fun X hX => ⟨Q0.below hX (by omega), B0.out.trans (hX.mono (by omega))⟩
  have DE : Hid (¬ (unwrapF b).2.2 = 0 → decS b = (sv0, (unwrapF b).2.2)) := decS_err
  have DY : Hid (∀ s, encS s = (b, 0) → decS b = (s, 0)) := fun s h => decS_yes h
  have DN : Hid ((unwrapF b).2.2 = 0 → (∀ s, encS s ≠ (b, 0)) → decS b = (sv0, 3)) := decS_no
  have DQ : Hid (noQ (unwrapF b).1 → ∀ s, encS s ≠ (b, 0)) := noQ_enc
  have DB : Hid (∀ s, encS s = (b, 0) → svMay s = true ∧ bytN (numsS s) = (unwrapF b).1) := fun s h => ⟨(enc_back h).2.1, by rw [(enc_back h).1]⟩
  have UL := unwrap_len b
  have UB : Hid (∀ x ∈ (unwrapF b).1, 0 ≤ x ∧ x ≤ 255) := unwrapF_bytes hx
  have CU : Hid (∀ X, Reads .u8 X (.slice va b.length vc) b → Calls Try.prog 13 #[.slice va b.length vc] X fun e w' => ∃ v', e = .returned (.tuple #[v', .int .i64 (unwrapF b).2.1, .int .i64 (unwrapF b).2.2]) ∧ w'.ownsRow X.heap.size 5 1 v' (unwrapF b).1.length ((unwrapF b).1.map (Value.int .u8)) ∧ Below X.heap.size X w') := fun X hX => unwrapped_any _ b X hX HX.out
  have R0 : Hid (Reads .u8 W0 (.slice va b.length vc) b) := HR.out.below B0.out (Nat.le_refl _)
  clear Q0 hr hx HR
  generalize unwrapF b = U at *
  obtain ⟨pl, us, ue⟩ := U
  simp only at UL
  generalize decS b = D at *
  go_enter Try.func6, Try.ntmps6
  go_upto_region 1 with fail
  rw [← hW0]
  clear hW0
  go_wp2_with fail
  refine (CU.out _ R0.out).mono ?_
  rintro e w1 ⟨v1, rfl, ho1, hb1⟩
  have A1 : Hid (Below W0.heap.size W0 w1) := hb1
  have hs1 := hb1.size
  obtain ⟨pa, pc, rfl⟩ := own_slice ho1
  have R1 : Hid (Reads .u8 w1 (.slice pa pl.length pc) pl) := reads_own ho1
  have LT1 : Hid (∀ a n c, (.slice pa pl.length pc : Value) = .slice (some a) n c → a.block < w1.heap.size) := fun a n c e => by
    injection e with e
    subst e
    rcases own_shapeK ho1 with ⟨e, _⟩ | ⟨g', c', e, _, h2, _⟩
    · injection e with e; cases e
    · injection e with e; injection e with e; subst e; exact h2
  clear ho1 hb1
  by_cases hu : ue = 0
  case neg =>
    have hd := DE.out hu
    have tz : (ue != 0) = true := by simp [hu]
    obtain ⟨zz, zb⟩ := ZX.out _ A1.out
    have ZR : Hid (BX 27 (putS w1 w.heap.size (.int .i64 0) (.int .i64 0) (.bool false) (.slice none 0 0) (.slice none 0 0)) w.heap.size #[.int .i64 0, .int .i64 0, .bool false, .slice none 0 0, .slice none 0 0] ∧ Below w.heap.size w (putS w1 w.heap.size (.int .i64 0) (.int .i64 0) (.bool false) (.slice none 0 0) (.slice none 0 0))) := ⟨zz.putS, below_putS zb (Nat.le_refl _) _ _ _ _ _⟩
    obtain ⟨e0, e1, e2, e3, e4⟩ := zz.all5
    obtain ⟨f0, f1, f2, f3, f4⟩ := zz.all5f
    have HDD : Hid (D = (sv0, ue)) := hd
    clear hd zz zb
    go_wp2_with fail
    obtain ⟨r0, r1, r2, r3, r4⟩ := ZR.out.1.all5
    unfold putS at r0 r1 r2 r3 r4
    refine bodyPost_ret (v := .tuple #[.agg #[.int .i64 0, .int .i64 0, .bool false, .slice none 0 0, .slice none 0 0], .int .i64 ue]) (by simp [results, Try.results6, go_sem, r0, r1, r2, r3, r4]) rfl ?_
    rw [HDD.out]
    exact SvdP.no ZR.out.2
  case pos =>
    subst hu
    have HN3 : Hid ((∀ s, encS s ≠ (b, 0)) → D = (sv0, 3)) := DN.out rfl
    clear DE DN
    have hpl : pl.length ≤ 20000 := UL
    go_upto_region 5 with fail
    go_wp2_with fail
    go_loopw [7, 8] (fun vl at_ wr => ∃ l : List Int, wr.ownsRow w1.heap.size 3 1 vl l.length (l.flatMap encI) ∧ Below w1.heap.size w1 wr ∧ l.length ≤ 20001 ∧ (∀ x ∈ l, 0 ≤ x ∧ x ≤ 1152921504606846976) ∧ ((∃ i : Nat, at_ = .int .i64 (i : Int) ∧ i ≤ pl.length ∧ l.length ≤ i ∧ rdQ pl l i) ∨ (at_ = .int .i64 (-1) ∧ noQ pl))) (fun _ at_ _ => if intOf at_ < 0 then 0 else pl.length + 1 - (intOf at_).toNat)
    case atStart => exact ⟨[], World.ownsRow_nil _ _ _ _, Below.refl _ _, by simp, by simp, .inl ⟨0, rfl, by omega, by simp, rdQ_nil _⟩⟩
    case round =>
      obtain ⟨l, hol, hbl, hll, hlx, hst⟩ := hrel
      have OL : Hid (wr.ownsRow w1.heap.size 3 1 _ l.length (l.flatMap encI)) := hol
      have BL : Hid (Below w1.heap.size w1 wr) := hbl
      have LX : Hid (∀ x ∈ l, 0 ≤ x ∧ x ≤ 1152921504606846976) := hlx
      have hsr := hbl.size
      obtain ⟨la, lc, rfl⟩ := own_slice hol
      clear hol hbl hlx
      rcases hst with ⟨i, rfl, hi, hli, hq⟩ | ⟨rfl, hno⟩
      · have RQ : Hid (rdQ pl l i) := hq
        clear hq
        by_cases hlt : i < pl.length
        · have hlt' : (i : Int) < (pl.length : Int) := by omega
          have hi0 : (0 : Int) ≤ (i : Int) := by omega
          have SM : Hid (∀ X, X = wr → _) := fun X (_ : X = wr) => small_any (.slice pa pl.length pc) pl i 1152921504606846976 wr (R1.out.below BL.out (Nat.le_refl _)) UB.out hi (by omega) (by omega)
          go_wp2_with fail
          refine (SM.out _ rfl).mono ?_
          rintro e w2 ⟨hs, e2⟩
          have e2' : wr = w2 := e2.symm
          subst e2'
          clear e2 SM
          unfold SmlP at hs
          rcases hs with ⟨hn, rfl⟩ | ⟨x, i2, hn, hi1, hi2, rfl⟩
          · have NQ : Hid (noQ pl) := rdQ_none RQ.out hlt hn
            clear hn
            go_wp2_with (at_builtin; refine wpList_append_newK kI rfl _ _ rfl w1.heap.size _ l rfl (OL.out.alloc _) _ (0 : Int) rfl #[.int .i64 0] rfl (0, 0) (heap_alloc_new _ _) (by simp only [kI]; omega) (by unfold maxLen; omega) (by simp; omega) ?_)
            intro g gc w' hown hbel _
            have OW : Hid (w'.ownsRow w1.heap.size 3 1 (.slice (some ⟨g, 0, none⟩) (l.length + 1) gc) (l ++ [0]).length ((l ++ [0]).flatMap encI)) := by show World.ownsRow _ _ _ _ _ _ _; simpa [kI] using hown
            have BW : Hid (Below w1.heap.size w1 w') := (BL.out.alloc hsr _).trans hbel
            clear hown hbel
            go_wp2_with fail
            go_roundw
            case rel => exact ⟨l ++ [0], OW.out, BW.out, by simp; omega, fun x hx => by rcases List.mem_append.1 hx with h | h; exact LX.out x h; rw [List.mem_singleton.1 h]; omega, .inr ⟨rfl, NQ.out⟩⟩
            case measure =>
              show (if ((-1 : Int)) < 0 then 0 else pl.length + 1 - ((-1 : Int)).toNat) < (if (i : Int) < 0 then 0 else pl.length + 1 - (i : Int).toNat)
              rw [if_pos (by decide), if_neg (by omega)]
              omega
          · have RS : Hid (rdQ pl (l ++ [x]) i2) := rdQ_step RQ.out hlt hn
            have hxb := numF_inv (fun y hy => UB.out y (List.mem_of_mem_drop hy)) hn
            have hx0 : 0 ≤ x ∧ x ≤ 1152921504606846976 := ⟨hxb.1, hxb.2.1⟩
            clear hn hxb
            go_wp2_with (at_builtin; refine wpList_append_newK kI rfl _ _ rfl w1.heap.size _ l rfl (OL.out.alloc _) _ x rfl #[.int .i64 x] rfl (0, 0) (heap_alloc_new _ _) (by simp only [kI]; omega) (by unfold maxLen; omega) (by simp; omega) ?_)
            intro g gc w' hown hbel _
            have OW : Hid (w'.ownsRow w1.heap.size 3 1 (.slice (some ⟨g, 0, none⟩) (l.length + 1) gc) (l ++ [x]).length ((l ++ [x]).flatMap encI)) := by show World.ownsRow _ _ _ _ _ _ _; simpa [kI] using hown
            have BW : Hid (Below w1.heap.size w1 w') := (BL.out.alloc hsr _).trans hbel
            clear hown hbel
            go_wp2_with fail
            go_roundw
            case rel => exact ⟨l ++ [x], OW.out, BW.out, by simp; omega, fun y hy => by rcases List.mem_append.1 hy with h | h; exact LX.out y h; rw [List.mem_singleton.1 h]; exact hx0, .inl ⟨i2, rfl, hi2, by simp; omega, RS.out⟩⟩
            case measure =>
              show (if (i2 : Int) < 0 then 0 else pl.length + 1 - (i2 : Int).toNat) < (if (i : Int) < 0 then 0 else pl.length + 1 - (i : Int).toNat)
              rw [if_neg (by omega), if_neg (by omega)]
              omega
        · have hlt' : ¬ (i : Int) < (pl.length : Int) := by omega
          have hi0 : (0 : Int) ≤ (i : Int) := by omega
          have hi1 : ¬ (i : Int) < 0 := by omega
          have EQ : Hid (∀ s, svMay s = true → bytN (numsS s) = pl → l = numsS s) := rdQ_end RQ.out (by omega)
          have AW : Hid (Below W0.heap.size W0 wr) := A1.out.trans (BL.out.mono hs1)
          by_cases h5 : l.length < 5
          · have h5' : (l.length : Int) < 5 := by omega
            have HDD : Hid (D = (sv0, 3)) := HN3.out fun s he => by
              have h1 := EQ.out s (DB.out s he).1 (DB.out s he).2
              have h2 := numsS_len s
              rw [h1] at h5
              omega
            obtain ⟨zz, zb⟩ := ZX.out wr AW.out
            have ZR : Hid (BX 27 (putS wr w.heap.size (.int .i64 0) (.int .i64 0) (.bool false) (.slice none 0 0) (.slice none 0 0)) w.heap.size #[.int .i64 0, .int .i64 0, .bool false, .slice none 0 0, .slice none 0 0] ∧ Below w.heap.size w (putS wr w.heap.size (.int .i64 0) (.int .i64 0) (.bool false) (.slice none 0 0) (.slice none 0 0))) := ⟨zz.putS, below_putS zb (Nat.le_refl _) _ _ _ _ _⟩
            obtain ⟨e0, e1, e2, e3, e4⟩ := zz.all5
            obtain ⟨f0, f1, f2, f3, f4⟩ := zz.all5f
            clear zz zb
            go_wp2_with fail
            obtain ⟨r0, r1, r2, r3, r4⟩ := ZR.out.1.all5
            unfold putS at r0 r1 r2 r3 r4
            refine bodyPost_ret (v := .tuple #[.agg #[.int .i64 0, .int .i64 0, .bool false, .slice none 0 0, .slice none 0 0], .int .i64 3]) (by simp [results, Try.results6, go_sem, r0, r1, r2, r3, r4]) rfl ?_
            rw [HDD.out]
            exact SvdP.no ZR.out.2
          · have h5' : ¬ (l.length : Int) < 5 := by omega
            obtain ⟨g, cap, hv, hgl⟩ : ∃ g cap, (.slice la l.length lc : Value) = .slice (some ⟨g, 0, none⟩) l.length cap ∧ g < wr.heap.size := by
              rcases own_shapeK OL.out with ⟨_, h0, _⟩ | ⟨g, cap, e, _, h2, _⟩
              · omega
              · exact ⟨g, cap, e, h2⟩
            injection hv with e1 _ e3
            subst e1 e3
            have LC : Hid (∀ X, Below wr.heap.size wr X → ∀ j, j < l.length → X.cell? ⟨g, j, none⟩ = some (.int .i64 (l.getD j 0))) := fun X hX j hj => (hX.cell (p := ⟨g, j, none⟩) hgl).trans (own_atN OL.out (by rw [List.getElem?_eq_getElem hj, List.getD_eq_getElem?_getD, List.getElem?_eq_getElem hj]; rfl))
            have hlm : (l.length : Int) ≤ 9223372036854775807 := by omega
            have b0 : Below wr.heap.size wr wr.drew := (Below.refl _ _).drew
            have HS0 : Hid (wr.drew.cell? ⟨g, 0, none⟩ = some (.int .i64 (l.getD 0 0)) ∧ wr.drew.cell? ⟨g, 1, none⟩ = some (.int .i64 (l.getD 1 0)) ∧ wr.drew.cell? ⟨g, 2, none⟩ = some (.int .i64 (l.getD 2 0))) := ⟨LC.out _ b0 0 (by omega), LC.out _ b0 1 (by omega), LC.out _ b0 2 (by omega)⟩
            have lne : ¬ l = [] := fun h => by rw [h] at h5; simp at h5
            have i0 : (0 : Int) < (l.length : Int) := by omega
            have i1 : (1 : Int) < (l.length : Int) := by omega
            have i2 : (2 : Int) < (l.length : Int) := by omega
            go_upto_region 12 with fail
            refine wp_region_held (S := fun V => (V.cell? ⟨g, 0, none⟩ = some (.int .i64 (l.getD 0 0)) ∧ V.cell? ⟨g, 1, none⟩ = some (.int .i64 (l.getD 1 0)) ∧ V.cell? ⟨g, 2, none⟩ = some (.int .i64 (l.getD 2 0)))) (by kernel_rfl) ?_
            simp only [List.size_toArray, List.length_cons, List.length_nil, Nat.reduceAdd]
            refine takeH (i := 0) (v := .slice (some ⟨g, 0, none⟩) l.length lc) (d := 54) rfl rfl (by kernel_rfl) (by kernel_rfl) (by kernel_rfl) (fun _ _ _ h => h) (by rfl) (fun V hV => by obtain ⟨v1, v2, v3⟩ := hV; go_simp) HS0.out ?_
            simp only [Act.put, List.setIfInBounds_toArray, List.set_cons_zero, List.set_cons_succ]
            refine takeH (i := 1) (v := .pointer (some ⟨g, 0, none⟩)) (d := 55) rfl rfl (by kernel_rfl) (by kernel_rfl) (by kernel_rfl) (fun _ _ _ h => h) (by rfl) (fun V hV => by obtain ⟨v1, v2, v3⟩ := hV; go_simp) HS0.out ?_
            simp only [Act.put, List.setIfInBounds_toArray, List.set_cons_zero, List.set_cons_succ]
            refine takeH (i := 2) (v := .int .i64 (l.getD 0 0)) (d := 56) rfl rfl (by kernel_rfl) (by kernel_rfl) (by kernel_rfl) (fun _ _ _ h => h) (by rfl) (fun V hV => by obtain ⟨v1, v2, v3⟩ := hV; go_simp) HS0.out ?_
            simp only [Act.put, List.setIfInBounds_toArray, List.set_cons_zero, List.set_cons_succ]
            refine takeH (i := 3) (v := .slice (some ⟨g, 0, none⟩) l.length lc) (d := 57) rfl rfl (by kernel_rfl) (by kernel_rfl) (by kernel_rfl) (fun _ _ _ h => h) (by rfl) (fun V hV => by obtain ⟨v1, v2, v3⟩ := hV; go_simp) HS0.out ?_
            simp only [Act.put, List.setIfInBounds_toArray, List.set_cons_zero, List.set_cons_succ]
            refine takeH (i := 4) (v := .pointer (some ⟨g, 1, none⟩)) (d := 58) rfl rfl (by kernel_rfl) (by kernel_rfl) (by kernel_rfl) (fun _ _ _ h => h) (by rfl) (fun V hV => by obtain ⟨v1, v2, v3⟩ := hV; go_simp) HS0.out ?_
            simp only [Act.put, List.setIfInBounds_toArray, List.set_cons_zero, List.set_cons_succ]
            refine takeH (i := 5) (v := .int .i64 (l.getD 1 0)) (d := 59) rfl rfl (by kernel_rfl) (by kernel_rfl) (by kernel_rfl) (fun _ _ _ h => h) (by rfl) (fun V hV => by obtain ⟨v1, v2, v3⟩ := hV; go_simp) HS0.out ?_
            simp only [Act.put, List.setIfInBounds_toArray, List.set_cons_zero, List.set_cons_succ]
            refine takeH (i := 6) (v := .slice (some ⟨g, 0, none⟩) l.length lc) (d := 60) rfl rfl (by kernel_rfl) (by kernel_rfl) (by kernel_rfl) (fun _ _ _ h => h) (by rfl) (fun V hV => by obtain ⟨v1, v2, v3⟩ := hV; go_simp) HS0.out ?_
            simp only [Act.put, List.setIfInBounds_toArray, List.set_cons_zero, List.set_cons_succ]
            refine takeH (i := 7) (v := .pointer (some ⟨g, 2, none⟩)) (d := 61) rfl rfl (by kernel_rfl) (by kernel_rfl) (by kernel_rfl) (fun _ _ _ h => h) (by rfl) (fun V hV => by obtain ⟨v1, v2, v3⟩ := hV; go_simp) HS0.out ?_
            simp only [Act.put, List.setIfInBounds_toArray, List.set_cons_zero, List.set_cons_succ]
            refine takeH (i := 8) (v := .int .i64 (l.getD 2 0)) (d := 62) rfl rfl (by kernel_rfl) (by kernel_rfl) (by kernel_rfl) (fun _ _ _ h => h) (by rfl) (fun V hV => by obtain ⟨v1, v2, v3⟩ := hV; go_simp) HS0.out ?_
            simp only [Act.put, List.setIfInBounds_toArray, List.set_cons_zero, List.set_cons_succ]
            refine takeH (i := 9) (v := .bool (l.getD 2 0 == 1)) (d := 63) rfl rfl (by kernel_rfl) (by kernel_rfl) (by kernel_rfl) (fun _ _ _ h => h) (by rfl) (fun V hV => by obtain ⟨v1, v2, v3⟩ := hV; go_simp) HS0.out ?_
            simp only [Act.put, List.setIfInBounds_toArray, List.set_cons_zero, List.set_cons_succ]
            refine takeH (i := 10) (v := .agg #[.int .i64 (l.getD 0 0), .int .i64 (l.getD 1 0), .bool (l.getD 2 0 == 1), .slice none 0 0, .slice none 0 0]) (d := 64) rfl rfl (by kernel_rfl) (by kernel_rfl) (by kernel_rfl) (fun _ _ _ h => h) (by rfl) (fun V hV => by obtain ⟨v1, v2, v3⟩ := hV; go_simp) HS0.out ?_
            simp only [Act.put, List.setIfInBounds_toArray, List.set_cons_zero, List.set_cons_succ]
            have KS : Hid (∀ X, Below wr.heap.size wr X → (X.cell? ⟨g, 0, none⟩ = some (.int .i64 (l.getD 0 0)) ∧ X.cell? ⟨g, 1, none⟩ = some (.int .i64 (l.getD 1 0)) ∧ X.cell? ⟨g, 2, none⟩ = some (.int .i64 (l.getD 2 0)))) := fun X hX => ⟨LC.out _ hX 0 (by omega), LC.out _ hX 1 (by omega), LC.out _ hX 2 (by omega)⟩
            have bA : Below wr.heap.size wr (wr.drew.alloc (.cells #[.int .i64 0, .int .i64 0, .bool false, .slice none 0 0, .slice none 0 0] 27)) := Below.alloc b0 (Nat.le_refl _) _
            have NX : BX 27 (wr.drew.alloc (.cells #[.int .i64 0, .int .i64 0, .bool false, .slice none 0 0, .slice none 0 0] 27)) wr.heap.size #[.int .i64 0, .int .i64 0, .bool false, .slice none 0 0, .slice none 0 0] := BX.new _ _ _
            obtain ⟨d0, d1, d2, d3, d4⟩ := NX.all5
            obtain ⟨e0, e1, e2, e3, e4⟩ := NX.all5f
            have N5 : Hid (Below wr.heap.size wr (putS (wr.drew.alloc (.cells #[.int .i64 0, .int .i64 0, .bool false, .slice none 0 0, .slice none 0 0] 27)) wr.heap.size (.int .i64 (l.getD 0 0)) (.int .i64 (l.getD 1 0)) (.bool (l.getD 2 0 == 1)) (.slice none 0 0) (.slice none 0 0)) ∧ BX 27 (putS (wr.drew.alloc (.cells #[.int .i64 0, .int .i64 0, .bool false, .slice none 0 0, .slice none 0 0] 27)) wr.heap.size (.int .i64 (l.getD 0 0)) (.int .i64 (l.getD 1 0)) (.bool (l.getD 2 0 == 1)) (.slice none 0 0) (.slice none 0 0)) wr.heap.size #[.int .i64 (l.getD 0 0), .int .i64 (l.getD 1 0), .bool (l.getD 2 0 == 1), .slice none 0 0, .slice none 0 0] ∧ wr.heap.size + 1 ≤ (putS (wr.drew.alloc (.cells #[.int .i64 0, .int .i64 0, .bool false, .slice none 0 0, .slice none 0 0] 27)) wr.heap.size (.int .i64 (l.getD 0 0)) (.int .i64 (l.getD 1 0)) (.bool (l.getD 2 0 == 1)) (.slice none 0 0) (.slice none 0 0)).heap.size) := ⟨below_putS bA (Nat.le_refl _) _ _ _ _ _, NX.putS, by unfold putS; simp⟩
            refine oneH (i := 11) rfl (by kernel_rfl) rfl (op_run (d := 11) (v' := .pointer (some ⟨wr.heap.size, 0, none⟩)) (w' := wr.drew.alloc (.cells #[.int .i64 0, .int .i64 0, .bool false, .slice none 0 0, .slice none 0 0] 27)) rfl (by go_simp) ⟨KS.out _ bA, ?_⟩)
            simp only [Act.put, List.setIfInBounds_toArray, List.set_cons_zero, List.set_cons_succ]
            refine oneH (i := 12) rfl (by kernel_rfl) rfl (op_skip (w' := putS (wr.drew.alloc (.cells #[.int .i64 0, .int .i64 0, .bool false, .slice none 0 0, .slice none 0 0] 27)) wr.heap.size (.int .i64 (l.getD 0 0)) (.int .i64 (l.getD 1 0)) (.bool (l.getD 2 0 == 1)) (.slice none 0 0) (.slice none 0 0)) rfl (by unfold putS; go_simp) ⟨KS.out _ N5.out.1, ?_⟩)
            refine wpAnyH_done (by kernel_rfl) ?_ _
            clear d0 d1 d2 d3 d4 e0 e1 e2 e3 e4 NX bA HS0 b0 KS
            generalize putS (wr.drew.alloc (.cells #[.int .i64 0, .int .i64 0, .bool false, .slice none 0 0, .slice none 0 0] 27)) wr.heap.size (.int .i64 (l.getD 0 0)) (.int .i64 (l.getD 1 0)) (.bool (l.getD 2 0 == 1)) (.slice none 0 0) (.slice none 0 0) = w5 at *
            obtain ⟨b2, hb2⟩ : ∃ b, b = wr.heap.size := ⟨_, rfl⟩
            rw [← hb2] at N5 ⊢
            have hWb : W0.heap.size ≤ b2 := by rw [hb2]; exact AW.out.size
            have LC2 : Hid (∀ X, Below b2 wr X → ∀ j, j < l.length → X.cell? ⟨g, j, none⟩ = some (.int .i64 (l.getD j 0))) := fun X hX => LC.out X (by rw [← hb2]; exact hX)
            have I5 : Hid (DcI wr w5 b2 (l.getD 0 0) (l.getD 1 0) (l.getD 2 0 == 1) (.slice none 0 0) (.slice none 0 0) [] []) := ⟨N5.out.2.1, World.ownsRow_nil _ _ _ _, World.ownsRow_nil _ _ _ _, N5.out.1, N5.out.2.2⟩
            clear LC N5 hb2 OL BL RQ
            have m3 := LC2.out w5 I5.out.low 3 (by omega)
            obtain ⟨x3, hx3⟩ : ∃ x, x = l.getD 3 0 := ⟨_, rfl⟩
            rw [← hx3] at m3
            have b3 : 0 ≤ x3 ∧ x3 ≤ 1152921504606846976 := by rw [hx3, List.getD_eq_getElem?_getD, List.getElem?_eq_getElem (show 3 < l.length by omega)]; exact LX.out _ (List.getElem_mem _)
            obtain ⟨m, rfl⟩ : ∃ m : Nat, x3 = (m : Int) := ⟨x3.toNat, by omega⟩
            have HX3 : Hid ((m : Int) = l.getD 3 0) := hx3
            clear hx3
            have i3 : (3 : Int) < (l.length : Int) := by omega
            have HVAL : Hid (∀ s, encS s = (b, 0) → l = numsS s ∧ m = s.vals.length ∧ l.length = 5 + 2 * s.vals.length + 2 * s.mail.length ∧ s.vals.length ≤ 200 ∧ svMay s = true) := fun s he => by
              have h1 := EQ.out s (DB.out s he).1 (DB.out s he).2
              have h3 := numsS_count s
              have h4 := (svMay_iff.1 (DB.out s he).1).2.1
              have h5 := HX3.out
              rw [h1, h3] at h5
              exact ⟨h1, by omega, by rw [h1]; exact numsS_len s, h4, (DB.out s he).1⟩
            generalize wr = w4 at *
            clear wr
            by_cases hm2 : m ≤ 200
            case neg =>
              have HDD : Hid (D = (sv0, 3)) := HN3.out fun s he => by obtain ⟨_, h2, _, h4, _⟩ := HVAL.out s he; omega
              have tg : (200 : Int) < (m : Int) := by omega
              have AZ : Hid (Below W0.heap.size W0 w5) := AW.out.trans (I5.out.low.mono hWb)
              obtain ⟨zz, zb⟩ := ZX.out w5 AZ.out
              have ZR : Hid (BX 27 (putS w5 w.heap.size (.int .i64 0) (.int .i64 0) (.bool false) (.slice none 0 0) (.slice none 0 0)) w.heap.size #[.int .i64 0, .int .i64 0, .bool false, .slice none 0 0, .slice none 0 0] ∧ Below w.heap.size w (putS w5 w.heap.size (.int .i64 0) (.int .i64 0) (.bool false) (.slice none 0 0) (.slice none 0 0))) := ⟨zz.putS, below_putS zb (Nat.le_refl _) _ _ _ _ _⟩
              obtain ⟨e0, e1, e2, e3, e4⟩ := zz.all5
              obtain ⟨f0, f1, f2, f3, f4⟩ := zz.all5f
              clear zz zb
              go_wp2_with fail
              obtain ⟨r0, r1, r2, r3, r4⟩ := ZR.out.1.all5
              unfold putS at r0 r1 r2 r3 r4
              refine bodyPost_ret (v := .tuple #[.agg #[.int .i64 0, .int .i64 0, .bool false, .slice none 0 0, .slice none 0 0], .int .i64 3]) (by simp [results, Try.results6, go_sem, r0, r1, r2, r3, r4]) rfl ?_
              rw [HDD.out]
              exact SvdP.no ZR.out.2
            case pos =>
              have tg : ¬ (200 : Int) < (m : Int) := by omega
              obtain ⟨m2, hm21, hm22⟩ : ∃ m2 : Nat, m2 ≤ 2 * m ∧ 2 * m ≤ m2 := ⟨2 * m, by omega, by omega⟩
              obtain ⟨m5, hm51, hm52⟩ : ∃ m5 : Nat, m5 ≤ 5 + 2 * m ∧ 5 + 2 * m ≤ m5 := ⟨5 + 2 * m, by omega, by omega⟩
              have ww1 : IntKind.i64.wrap (2 * (m : Int)) = (m2 : Int) := by rw [IntKind.wrap_i64]; omega
              have ww2 : IntKind.i64.wrap (5 + (m2 : Int)) = (m5 : Int) := by rw [IntKind.wrap_i64]; omega
              by_cases hm3 : m5 ≤ l.length
              case neg =>
                have HDD : Hid (D = (sv0, 3)) := HN3.out fun s he => by obtain ⟨_, h2, h3, _, _⟩ := HVAL.out s he; omega
                have tl : (l.length : Int) < (m5 : Int) := by omega
                have AZ : Hid (Below W0.heap.size W0 w5) := AW.out.trans (I5.out.low.mono hWb)
                obtain ⟨zz, zb⟩ := ZX.out w5 AZ.out
                have ZR : Hid (BX 27 (putS w5 w.heap.size (.int .i64 0) (.int .i64 0) (.bool false) (.slice none 0 0) (.slice none 0 0)) w.heap.size #[.int .i64 0, .int .i64 0, .bool false, .slice none 0 0, .slice none 0 0] ∧ Below w.heap.size w (putS w5 w.heap.size (.int .i64 0) (.int .i64 0) (.bool false) (.slice none 0 0) (.slice none 0 0))) := ⟨zz.putS, below_putS zb (Nat.le_refl _) _ _ _ _ _⟩
                obtain ⟨e0, e1, e2, e3, e4⟩ := zz.all5
                obtain ⟨f0, f1, f2, f3, f4⟩ := zz.all5f
                clear zz zb
                go_wp2_with fail
                obtain ⟨r0, r1, r2, r3, r4⟩ := ZR.out.1.all5
                unfold putS at r0 r1 r2 r3 r4
                refine bodyPost_ret (v := .tuple #[.agg #[.int .i64 0, .int .i64 0, .bool false, .slice none 0 0, .slice none 0 0], .int .i64 3]) (by simp [results, Try.results6, go_sem, r0, r1, r2, r3, r4]) rfl ?_
                rw [HDD.out]
                exact SvdP.no ZR.out.2
              case pos =>
                have tl : ¬ (l.length : Int) < (m5 : Int) := by omega
                go_upto_region 16 with fail
                clear tl tg m3 i3 b3
                go_wp2_with fail
                go_loopw [13] (fun i wr => ∃ (k : Nat) (vv : Value), k ≤ m ∧ i = .int .i64 k ∧ DcI w4 wr b2 (l.getD 0 0) (l.getD 1 0) (l.getD 2 0 == 1) vv (.slice none 0 0) (valsD l k) []) (fun i _ => m - (intOf i).toNat)
                case atStart => exact ⟨0, _, by omega, rfl, I5.out⟩
                case round =>
                  obtain ⟨k, vx, hk, rfl, hi⟩ := hrel
                  have PI0 : Hid (DcI w4 wr b2 (l.getD 0 0) (l.getD 1 0) (l.getD 2 0 == 1) vx (.slice none 0 0) (valsD l k) []) := hi
                  clear hi
                  by_cases hlt : k < m
                  · have hlt' : (k : Int) < (m : Int) := by omega
                    obtain ⟨y1, hy1⟩ : ∃ y, y = l.getD (4 + 2 * k) 0 := ⟨_, rfl⟩
                    obtain ⟨y2, hy2⟩ : ∃ y, y = l.getD (5 + 2 * k) 0 := ⟨_, rfl⟩
                    obtain ⟨k2, hk21, hk22⟩ : ∃ x : Nat, x ≤ 2 * k ∧ 2 * k ≤ x := ⟨2 * k, by omega, by omega⟩
                    obtain ⟨k4, hk4⟩ : ∃ x : Nat, x = 4 + 2 * k := ⟨_, rfl⟩
                    obtain ⟨k5, hk5⟩ : ∃ x : Nat, x = 5 + 2 * k := ⟨_, rfl⟩
                    have HS : Hid (valsD l (k + 1) = valsD l k ++ [(IntKind.i64.wrap (y1 - 1), IntKind.i64.wrap (y2 - 1))]) := by show _ = _; rw [hy1, hy2]; exact valsD_snoc l k
                    rw [← hk4] at hy1
                    rw [← hk5] at hy2
                    have Y1 : Hid (y1 = l.getD k4 0) := hy1
                    have Y2 : Hid (y2 = l.getD k5 0) := hy2
                    have o4 : k4 ≤ 4 + 2 * k ∧ 4 + 2 * k ≤ k4 := by omega
                    have o5 : k5 ≤ 5 + 2 * k ∧ 5 + 2 * k ≤ k5 := by omega
                    clear hy1 hy2 hk4 hk5
                    have wk1 : IntKind.i64.wrap (2 * (k : Int)) = (k2 : Int) := by rw [IntKind.wrap_i64]; omega
                    have wk2 : IntKind.i64.wrap (4 + (k2 : Int)) = (k4 : Int) := by rw [IntKind.wrap_i64]; omega
                    have wk3 : IntKind.i64.wrap (5 + (k2 : Int)) = (k5 : Int) := by rw [IntKind.wrap_i64]; omega
                    have z4 : (0 : Int) ≤ (k4 : Int) := by omega
                    have z5 : (0 : Int) ≤ (k5 : Int) := by omega
                    have l4 : (k4 : Int) < (l.length : Int) := by omega
                    have l5 : (k5 : Int) < (l.length : Int) := by omega
                    have hG0 : (valsD l k).length ≤ k ∧ k ≤ (valsD l k).length := by rw [valsD_len]; omega
                    generalize valsD l k = g1 at *
                    obtain ⟨xa, xc, rfl⟩ := (RowK.own encM_len PI0.out.vals : MlR wr vx g1).shape
                    have PD : Hid (DcI w4 wr.drew b2 (l.getD 0 0) (l.getD 1 0) (l.getD 2 0 == 1) (.slice xa g1.length xc) (.slice none 0 0) g1 []) := PI0.out.drew
                    have KS : Hid (∀ X, DcI w4 X b2 (l.getD 0 0) (l.getD 1 0) (l.getD 2 0 == 1) (.slice xa g1.length xc) (.slice none 0 0) g1 [] → (X.cell? ⟨b2, 3, none⟩ = some (.slice xa g1.length xc) ∧ X.cell? ⟨g, k4, none⟩ = some (.int .i64 y1) ∧ X.cell? ⟨g, k5, none⟩ = some (.int .i64 y2))) := fun X hX => ⟨hX.box.all5.2.2.2.1, (LC2.out _ hX.low k4 (by omega)).trans (by rw [Y1.out]), (LC2.out _ hX.low k5 (by omega)).trans (by rw [Y2.out])⟩
                    clear PI0
                    go_upto_region 19 with fail
                    refine region_lastF (S := fun V => (V.cell? ⟨b2, 3, none⟩ = some (.slice xa g1.length xc) ∧ V.cell? ⟨g, k4, none⟩ = some (.int .i64 y1) ∧ V.cell? ⟨g, k5, none⟩ = some (.int .i64 y2))) (by kernel_rfl) (by kernel_rfl) (by kernel_rfl) (by kernel_rfl) ?_
                    simp only [List.pop_toArray, List.dropLast_cons_cons, List.dropLast_singleton, List.size_toArray, List.length_cons, List.length_nil, Nat.reduceAdd]
                    refine takeH (i := 0) (v := .pointer (some ⟨b2, 3, none⟩)) (d := 84) rfl rfl (by kernel_rfl) (by kernel_rfl) (by kernel_rfl) (fun _ _ _ h => h) (by rfl) (fun V hV => by obtain ⟨v1, v2, v3⟩ := hV; go_simp) (KS.out _ PD.out) ?_
                    simp only [Act.put, List.setIfInBounds_toArray, List.set_cons_zero, List.set_cons_succ]
                    refine takeH (i := 1) (v := .slice xa g1.length xc) (d := 85) rfl rfl (by kernel_rfl) (by kernel_rfl) (by kernel_rfl) (fun _ _ _ h => h) (by rfl) (fun V hV => by obtain ⟨v1, v2, v3⟩ := hV; go_simp) (KS.out _ PD.out) ?_
                    simp only [Act.put, List.setIfInBounds_toArray, List.set_cons_zero, List.set_cons_succ]
                    refine takeH (i := 2) (v := .slice (some ⟨g, 0, none⟩) l.length lc) (d := 86) rfl rfl (by kernel_rfl) (by kernel_rfl) (by kernel_rfl) (fun _ _ _ h => h) (by rfl) (fun V hV => by obtain ⟨v1, v2, v3⟩ := hV; go_simp) (KS.out _ PD.out) ?_
                    simp only [Act.put, List.setIfInBounds_toArray, List.set_cons_zero, List.set_cons_succ]
                    refine takeH (i := 3) (v := .int .i64 (k : Int)) (d := 87) rfl rfl (by kernel_rfl) (by kernel_rfl) (by kernel_rfl) (fun _ _ _ h => h) (by rfl) (fun V hV => by obtain ⟨v1, v2, v3⟩ := hV; go_simp) (KS.out _ PD.out) ?_
                    simp only [Act.put, List.setIfInBounds_toArray, List.set_cons_zero, List.set_cons_succ]
                    refine takeH (i := 4) (v := .int .i64 (k2 : Int)) (d := 88) rfl rfl (by kernel_rfl) (by kernel_rfl) (by kernel_rfl) (fun _ _ _ h => h) (by rfl) (fun V hV => by obtain ⟨v1, v2, v3⟩ := hV; go_simp) (KS.out _ PD.out) ?_
                    simp only [Act.put, List.setIfInBounds_toArray, List.set_cons_zero, List.set_cons_succ]
                    refine takeH (i := 5) (v := .int .i64 (k4 : Int)) (d := 89) rfl rfl (by kernel_rfl) (by kernel_rfl) (by kernel_rfl) (fun _ _ _ h => h) (by rfl) (fun V hV => by obtain ⟨v1, v2, v3⟩ := hV; go_simp) (KS.out _ PD.out) ?_
                    simp only [Act.put, List.setIfInBounds_toArray, List.set_cons_zero, List.set_cons_succ]
                    refine takeH (i := 6) (v := .pointer (some ⟨g, k4, none⟩)) (d := 90) rfl rfl (by kernel_rfl) (by kernel_rfl) (by kernel_rfl) (fun _ _ _ h => h) (by rfl) (fun V hV => by obtain ⟨v1, v2, v3⟩ := hV; go_simp) (KS.out _ PD.out) ?_
                    simp only [Act.put, List.setIfInBounds_toArray, List.set_cons_zero, List.set_cons_succ]
                    refine takeH (i := 7) (v := .int .i64 y1) (d := 91) rfl rfl (by kernel_rfl) (by kernel_rfl) (by kernel_rfl) (fun _ _ _ h => h) (by rfl) (fun V hV => by obtain ⟨v1, v2, v3⟩ := hV; go_simp) (KS.out _ PD.out) ?_
                    simp only [Act.put, List.setIfInBounds_toArray, List.set_cons_zero, List.set_cons_succ]
                    refine takeH (i := 8) (v := .int .i64 (IntKind.i64.wrap (y1 - 1))) (d := 92) rfl rfl (by kernel_rfl) (by kernel_rfl) (by kernel_rfl) (fun _ _ _ h => h) (by rfl) (fun V hV => by obtain ⟨v1, v2, v3⟩ := hV; go_simp) (KS.out _ PD.out) ?_
                    simp only [Act.put, List.setIfInBounds_toArray, List.set_cons_zero, List.set_cons_succ]
                    refine takeH (i := 9) (v := .slice (some ⟨g, 0, none⟩) l.length lc) (d := 93) rfl rfl (by kernel_rfl) (by kernel_rfl) (by kernel_rfl) (fun _ _ _ h => h) (by rfl) (fun V hV => by obtain ⟨v1, v2, v3⟩ := hV; go_simp) (KS.out _ PD.out) ?_
                    simp only [Act.put, List.setIfInBounds_toArray, List.set_cons_zero, List.set_cons_succ]
                    refine takeH (i := 10) (v := .int .i64 (k : Int)) (d := 94) rfl rfl (by kernel_rfl) (by kernel_rfl) (by kernel_rfl) (fun _ _ _ h => h) (by rfl) (fun V hV => by obtain ⟨v1, v2, v3⟩ := hV; go_simp) (KS.out _ PD.out) ?_
                    simp only [Act.put, List.setIfInBounds_toArray, List.set_cons_zero, List.set_cons_succ]
                    refine takeH (i := 11) (v := .int .i64 (k2 : Int)) (d := 95) rfl rfl (by kernel_rfl) (by kernel_rfl) (by kernel_rfl) (fun _ _ _ h => h) (by rfl) (fun V hV => by obtain ⟨v1, v2, v3⟩ := hV; go_simp) (KS.out _ PD.out) ?_
                    simp only [Act.put, List.setIfInBounds_toArray, List.set_cons_zero, List.set_cons_succ]
                    refine takeH (i := 12) (v := .int .i64 (k5 : Int)) (d := 96) rfl rfl (by kernel_rfl) (by kernel_rfl) (by kernel_rfl) (fun _ _ _ h => h) (by rfl) (fun V hV => by obtain ⟨v1, v2, v3⟩ := hV; go_simp) (KS.out _ PD.out) ?_
                    simp only [Act.put, List.setIfInBounds_toArray, List.set_cons_zero, List.set_cons_succ]
                    refine takeH (i := 13) (v := .pointer (some ⟨g, k5, none⟩)) (d := 97) rfl rfl (by kernel_rfl) (by kernel_rfl) (by kernel_rfl) (fun _ _ _ h => h) (by rfl) (fun V hV => by obtain ⟨v1, v2, v3⟩ := hV; go_simp) (KS.out _ PD.out) ?_
                    simp only [Act.put, List.setIfInBounds_toArray, List.set_cons_zero, List.set_cons_succ]
                    refine takeH (i := 14) (v := .int .i64 y2) (d := 98) rfl rfl (by kernel_rfl) (by kernel_rfl) (by kernel_rfl) (fun _ _ _ h => h) (by rfl) (fun V hV => by obtain ⟨v1, v2, v3⟩ := hV; go_simp) (KS.out _ PD.out) ?_
                    simp only [Act.put, List.setIfInBounds_toArray, List.set_cons_zero, List.set_cons_succ]
                    refine takeH (i := 15) (v := .int .i64 (IntKind.i64.wrap (y2 - 1))) (d := 99) rfl rfl (by kernel_rfl) (by kernel_rfl) (by kernel_rfl) (fun _ _ _ h => h) (by rfl) (fun V hV => by obtain ⟨v1, v2, v3⟩ := hV; go_simp) (KS.out _ PD.out) ?_
                    simp only [Act.put, List.setIfInBounds_toArray, List.set_cons_zero, List.set_cons_succ]
                    refine takeH (i := 16) (v := .agg #[.int .i64 (IntKind.i64.wrap (y1 - 1)), .int .i64 (IntKind.i64.wrap (y2 - 1))]) (d := 100) rfl rfl (by kernel_rfl) (by kernel_rfl) (by kernel_rfl) (fun _ _ _ h => h) (by rfl) (fun V hV => by obtain ⟨v1, v2, v3⟩ := hV; go_simp) (KS.out _ PD.out) ?_
                    simp only [Act.put, List.setIfInBounds_toArray, List.set_cons_zero, List.set_cons_succ]
                    have PC : Hid (DcI w4 (wr.drew.alloc (.cells #[.int .i64 (IntKind.i64.wrap (y1 - 1)), .int .i64 (IntKind.i64.wrap (y2 - 1))] 43)) b2 (l.getD 0 0) (l.getD 1 0) (l.getD 2 0 == 1) (.slice xa g1.length xc) (.slice none 0 0) g1 []) := PD.out.alloc _
                    obtain ⟨gg, gc, wd, hrun, hown, hgr⟩ := run_append_newK kV (w := wr.drew.alloc (.cells #[.int .i64 (IntKind.i64.wrap (y1 - 1)), .int .i64 (IntKind.i64.wrap (y2 - 1))] 43)) 24 (b2 + 1) (.slice xa g1.length xc) g1 PC.out.vals wr.drew.heap.size (IntKind.i64.wrap (y1 - 1), IntKind.i64.wrap (y2 - 1)) #[.int .i64 (IntKind.i64.wrap (y1 - 1)), .int .i64 (IntKind.i64.wrap (y2 - 1))] rfl (0, 0) (heap_alloc_new _ _) (by simp only [kV]; omega) (by unfold maxLen; omega) PC.out.size
                    obtain ⟨bd, bl, PF0⟩ := PC.out.setV hgr hown
                    have PF : Hid (DcI w4 (wd.setCell ⟨b2, 3, none⟩ (.slice (some ⟨gg, 0, none⟩) (g1.length + 1) gc)) b2 (l.getD 0 0) (l.getD 1 0) (l.getD 2 0 == 1) (.slice (some ⟨gg, 0, none⟩) (g1.length + 1) gc) (.slice none 0 0) (g1 ++ [(IntKind.i64.wrap (y1 - 1), IntKind.i64.wrap (y2 - 1))]) []) := PF0
                    have cd : Hid (wd.cell? ⟨b2, 3, none⟩ = some (.slice xa g1.length xc) ∧ wd.cell? ⟨g, k4, none⟩ = some (.int .i64 y1) ∧ wd.cell? ⟨g, k5, none⟩ = some (.int .i64 y2)) := ⟨bd.all5.2.2.2.1, (LC2.out _ bl k4 (by omega)).trans (by rw [Y1.out]), (LC2.out _ bl k5 (by omega)).trans (by rw [Y2.out])⟩
                    have fd := bd.frozen 3
                    clear hgr hown bd bl PF0
                    refine oneH (i := 17) rfl (by kernel_rfl) rfl (op_run (d := 101) (v' := .slice (some ⟨wr.drew.heap.size, 0, none⟩) 1 1) (w' := wr.drew.alloc (.cells #[.int .i64 (IntKind.i64.wrap (y1 - 1)), .int .i64 (IntKind.i64.wrap (y2 - 1))] 43)) rfl (by go_simp) ⟨KS.out _ PC.out, ?_⟩)
                    simp only [Act.put, List.setIfInBounds_toArray, List.set_cons_zero, List.set_cons_succ]
                    refine oneH (i := 18) rfl (by kernel_rfl) rfl (call_append (d := 102) (s := .tmp 85) (x := .tmp 101) (t := 24) rfl rfl (v := .slice xa g1.length xc) (v2 := .slice (some ⟨wr.drew.heap.size, 0, none⟩) 1 1) (by simp [Act.eval]) (by simp [Act.eval]) hrun ⟨cd.out, ?_⟩)
                    simp only [Act.put, List.setIfInBounds_toArray, List.set_cons_zero, List.set_cons_succ]
                    refine takeH (i := 19) (v := .pointer (some ⟨b2, 3, none⟩)) (d := 103) rfl rfl (by kernel_rfl) (by kernel_rfl) (by kernel_rfl) (fun _ _ _ h => h) (by rfl) (fun V hV => by obtain ⟨v1, v2, v3⟩ := hV; go_simp) cd.out ?_
                    simp only [Act.put, List.setIfInBounds_toArray, List.set_cons_zero, List.set_cons_succ]
                    refine wpAnyH_done (by kernel_rfl) ?_ _
                    have cd1 := cd.out.1
                    clear hrun PC PD KS cd
                    show Oper.wp _ _ _ _ _ _
                    go_wp2_with fail
                    go_roundw
                    case rel => exact ⟨k + 1, _, by omega, by go_num, by rw [HS.out]; exact PF.out⟩
                    case measure => simp [intOf]; omega
                  · have hlt' : ¬ (k : Int) < (m : Int) := by omega
                    have e0 : k = m := by omega
                    have PE0 : Hid (DcI w4 wr b2 (l.getD 0 0) (l.getD 1 0) (l.getD 2 0 == 1) vx (.slice none 0 0) (valsD l m) []) := by rw [← e0]; exact PI0.out
                    clear PI0 e0 hk hlt
                    go_upto_region 20 with fail
                    clear hlt' I5
                    obtain ⟨j, hj1, hj2⟩ : ∃ j : Nat, 5 + 2 * m + 2 * j ≤ l.length ∧ l.length ≤ 5 + 2 * m + 2 * j + 1 := ⟨(l.length - (5 + 2 * m)) / 2, by omega, by omega⟩
                    have HDOC : Hid (∀ s, encS s = (b, 0) → s = docS l m j) := fun s he => by
                      obtain ⟨h1, h2, h3, _, h5⟩ := HVAL.out s he
                      have h6 : j = s.mail.length := by omega
                      rw [h1, h2, h6]
                      exact (docS_nums h5).symm
                    have HDV : Hid (docS l m j = ⟨l.getD 0 0, l.getD 1 0, l.getD 2 0 == 1, valsD l m, mailD l m j⟩) := rfl
                    have hG0 : (valsD l m).length ≤ m := by rw [valsD_len]; omega
                    generalize valsD l m = V at *
                    obtain ⟨ua, uc, rfl⟩ := (RowK.own encM_len PE0.out.vals : MlR wr vx V).shape
                    go_wp2_with fail
                    generalize hwr5 : wr = w6 at *
                    go_loopw [14] (fun i wr => ∃ (k i1 : Nat) (vm : Value), k ≤ j ∧ i = .int .i64 (i1 : Int) ∧ (i1 ≤ 5 + 2 * m + 2 * k ∧ 5 + 2 * m + 2 * k ≤ i1) ∧ DcI w4 wr b2 (l.getD 0 0) (l.getD 1 0) (l.getD 2 0 == 1) (.slice ua V.length uc) vm V (mailD l m k)) (fun i _ => l.length + 2 - (intOf i).toNat)
                    case atStart => exact ⟨0, m5, _, by omega, rfl, ⟨by omega, by omega⟩, PE0.out⟩
                    case round =>
                      obtain ⟨k, i1, vx, hk, rfl, ⟨hi1, hi2⟩, hi⟩ := hrel
                      have PI0 : Hid (DcI w4 wr b2 (l.getD 0 0) (l.getD 1 0) (l.getD 2 0 == 1) (.slice ua V.length uc) vx V (mailD l m k)) := hi
                      clear hi
                      obtain ⟨i2, hi21⟩ : ∃ x : Nat, x ≤ i1 + 1 ∧ i1 + 1 ≤ x := ⟨i1 + 1, by omega, by omega⟩
                      have wi1 : IntKind.i64.wrap ((i1 : Int) + 1) = (i2 : Int) := by rw [IntKind.wrap_i64]; omega
                      by_cases hlt : k < j
                      · have hlt' : (i2 : Int) < (l.length : Int) := by omega
                        have hlt0 : (i1 : Int) < (l.length : Int) := by omega
                        have z4 : (0 : Int) ≤ (i1 : Int) := by omega
                        have z5 : (0 : Int) ≤ (i2 : Int) := by omega
                        obtain ⟨i3, hi31⟩ : ∃ x : Nat, x ≤ i1 + 2 ∧ i1 + 2 ≤ x := ⟨i1 + 2, by omega, by omega⟩
                        have wi2 : IntKind.i64.wrap ((i1 : Int) + 2) = (i3 : Int) := by rw [IntKind.wrap_i64]; omega
                        obtain ⟨y1, hy1⟩ : ∃ y, y = l.getD i1 0 := ⟨_, rfl⟩
                        obtain ⟨y2, hy2⟩ : ∃ y, y = l.getD i2 0 := ⟨_, rfl⟩
                        have Y1 : Hid (y1 = l.getD i1 0) := hy1
                        have Y2 : Hid (y2 = l.getD i2 0) := hy2
                        have HS : Hid (mailD l m (k + 1) = mailD l m k ++ [(y1, y2)]) := by
                          have q1 : i1 = 5 + 2 * m + 2 * k := by omega
                          have q2 : i2 = 6 + 2 * m + 2 * k := by omega
                          show _ = _
                          rw [hy1, hy2, q1, q2]
                          exact mailD_snoc l m k
                        clear hy1 hy2
                        have hG1 : (mailD l m k).length ≤ k ∧ k ≤ (mailD l m k).length := by rw [mailD_len]; omega
                        generalize mailD l m k = g1 at *
                        obtain ⟨xa, xc, rfl⟩ := (RowK.own encM_len PI0.out.mail : MlR wr vx g1).shape
                        have PD : Hid (DcI w4 wr.drew b2 (l.getD 0 0) (l.getD 1 0) (l.getD 2 0 == 1) (.slice ua V.length uc) (.slice xa g1.length xc) V g1) := PI0.out.drew
                        have KS : Hid (∀ X, DcI w4 X b2 (l.getD 0 0) (l.getD 1 0) (l.getD 2 0 == 1) (.slice ua V.length uc) (.slice xa g1.length xc) V g1 → (X.cell? ⟨b2, 4, none⟩ = some (.slice xa g1.length xc) ∧ X.cell? ⟨g, i1, none⟩ = some (.int .i64 y1) ∧ X.cell? ⟨g, i2, none⟩ = some (.int .i64 y2))) := fun X hX => ⟨hX.box.all5.2.2.2.2, (LC2.out _ hX.low i1 (by omega)).trans (by rw [Y1.out]), (LC2.out _ hX.low i2 (by omega)).trans (by rw [Y2.out])⟩
                        clear PI0
                        go_upto_region 23 with fail
                        refine region_lastF (S := fun V => (V.cell? ⟨b2, 4, none⟩ = some (.slice xa g1.length xc) ∧ V.cell? ⟨g, i1, none⟩ = some (.int .i64 y1) ∧ V.cell? ⟨g, i2, none⟩ = some (.int .i64 y2))) (by kernel_rfl) (by kernel_rfl) (by kernel_rfl) (by kernel_rfl) ?_
                        simp only [List.pop_toArray, List.dropLast_cons_cons, List.dropLast_singleton, List.size_toArray, List.length_cons, List.length_nil, Nat.reduceAdd]
                        refine takeH (i := 0) (v := .pointer (some ⟨b2, 4, none⟩)) (d := 114) rfl rfl (by kernel_rfl) (by kernel_rfl) (by kernel_rfl) (fun _ _ _ h => h) (by rfl) (fun V hV => by obtain ⟨v1, v2, v3⟩ := hV; go_simp) (KS.out _ PD.out) ?_
                        simp only [Act.put, List.setIfInBounds_toArray, List.set_cons_zero, List.set_cons_succ]
                        refine takeH (i := 1) (v := .slice xa g1.length xc) (d := 115) rfl rfl (by kernel_rfl) (by kernel_rfl) (by kernel_rfl) (fun _ _ _ h => h) (by rfl) (fun V hV => by obtain ⟨v1, v2, v3⟩ := hV; go_simp) (KS.out _ PD.out) ?_
                        simp only [Act.put, List.setIfInBounds_toArray, List.set_cons_zero, List.set_cons_succ]
                        refine takeH (i := 2) (v := .slice (some ⟨g, 0, none⟩) l.length lc) (d := 116) rfl rfl (by kernel_rfl) (by kernel_rfl) (by kernel_rfl) (fun _ _ _ h => h) (by rfl) (fun V hV => by obtain ⟨v1, v2, v3⟩ := hV; go_simp) (KS.out _ PD.out) ?_
                        simp only [Act.put, List.setIfInBounds_toArray, List.set_cons_zero, List.set_cons_succ]
                        refine takeH (i := 3) (v := .int .i64 (i1 : Int)) (d := 117) rfl rfl (by kernel_rfl) (by kernel_rfl) (by kernel_rfl) (fun _ _ _ h => h) (by rfl) (fun V hV => by obtain ⟨v1, v2, v3⟩ := hV; go_simp) (KS.out _ PD.out) ?_
                        simp only [Act.put, List.setIfInBounds_toArray, List.set_cons_zero, List.set_cons_succ]
                        refine takeH (i := 4) (v := .pointer (some ⟨g, i1, none⟩)) (d := 118) rfl rfl (by kernel_rfl) (by kernel_rfl) (by kernel_rfl) (fun _ _ _ h => h) (by rfl) (fun V hV => by obtain ⟨v1, v2, v3⟩ := hV; go_simp) (KS.out _ PD.out) ?_
                        simp only [Act.put, List.setIfInBounds_toArray, List.set_cons_zero, List.set_cons_succ]
                        refine takeH (i := 5) (v := .int .i64 y1) (d := 119) rfl rfl (by kernel_rfl) (by kernel_rfl) (by kernel_rfl) (fun _ _ _ h => h) (by rfl) (fun V hV => by obtain ⟨v1, v2, v3⟩ := hV; go_simp) (KS.out _ PD.out) ?_
                        simp only [Act.put, List.setIfInBounds_toArray, List.set_cons_zero, List.set_cons_succ]
                        refine takeH (i := 6) (v := .slice (some ⟨g, 0, none⟩) l.length lc) (d := 120) rfl rfl (by kernel_rfl) (by kernel_rfl) (by kernel_rfl) (fun _ _ _ h => h) (by rfl) (fun V hV => by obtain ⟨v1, v2, v3⟩ := hV; go_simp) (KS.out _ PD.out) ?_
                        simp only [Act.put, List.setIfInBounds_toArray, List.set_cons_zero, List.set_cons_succ]
                        refine takeH (i := 7) (v := .int .i64 (i1 : Int)) (d := 121) rfl rfl (by kernel_rfl) (by kernel_rfl) (by kernel_rfl) (fun _ _ _ h => h) (by rfl) (fun V hV => by obtain ⟨v1, v2, v3⟩ := hV; go_simp) (KS.out _ PD.out) ?_
                        simp only [Act.put, List.setIfInBounds_toArray, List.set_cons_zero, List.set_cons_succ]
                        refine takeH (i := 8) (v := .int .i64 (i2 : Int)) (d := 122) rfl rfl (by kernel_rfl) (by kernel_rfl) (by kernel_rfl) (fun _ _ _ h => h) (by rfl) (fun V hV => by obtain ⟨v1, v2, v3⟩ := hV; go_simp) (KS.out _ PD.out) ?_
                        simp only [Act.put, List.setIfInBounds_toArray, List.set_cons_zero, List.set_cons_succ]
                        refine takeH (i := 9) (v := .pointer (some ⟨g, i2, none⟩)) (d := 123) rfl rfl (by kernel_rfl) (by kernel_rfl) (by kernel_rfl) (fun _ _ _ h => h) (by rfl) (fun V hV => by obtain ⟨v1, v2, v3⟩ := hV; go_simp) (KS.out _ PD.out) ?_
                        simp only [Act.put, List.setIfInBounds_toArray, List.set_cons_zero, List.set_cons_succ]
                        refine takeH (i := 10) (v := .int .i64 y2) (d := 124) rfl rfl (by kernel_rfl) (by kernel_rfl) (by kernel_rfl) (fun _ _ _ h => h) (by rfl) (fun V hV => by obtain ⟨v1, v2, v3⟩ := hV; go_simp) (KS.out _ PD.out) ?_
                        simp only [Act.put, List.setIfInBounds_toArray, List.set_cons_zero, List.set_cons_succ]
                        refine takeH (i := 11) (v := .agg #[.int .i64 y1, .int .i64 y2]) (d := 125) rfl rfl (by kernel_rfl) (by kernel_rfl) (by kernel_rfl) (fun _ _ _ h => h) (by rfl) (fun V hV => by obtain ⟨v1, v2, v3⟩ := hV; go_simp) (KS.out _ PD.out) ?_
                        simp only [Act.put, List.setIfInBounds_toArray, List.set_cons_zero, List.set_cons_succ]
                        have PC : Hid (DcI w4 (wr.drew.alloc (.cells #[.int .i64 (y1), .int .i64 (y2)] 45)) b2 (l.getD 0 0) (l.getD 1 0) (l.getD 2 0 == 1) (.slice ua V.length uc) (.slice xa g1.length xc) V g1) := PD.out.alloc _
                        obtain ⟨gg, gc, wd, hrun, hown, hgr⟩ := run_append_newK kM (w := wr.drew.alloc (.cells #[.int .i64 (y1), .int .i64 (y2)] 45)) 25 (b2 + 1) (.slice xa g1.length xc) g1 PC.out.mail wr.drew.heap.size (y1, y2) #[.int .i64 (y1), .int .i64 (y2)] rfl (0, 0) (heap_alloc_new _ _) (by simp only [kM]; omega) (by unfold maxLen; omega) PC.out.size
                        obtain ⟨bd, bl, PF0⟩ := PC.out.setM hgr hown
                        have PF : Hid (DcI w4 (wd.setCell ⟨b2, 4, none⟩ (.slice (some ⟨gg, 0, none⟩) (g1.length + 1) gc)) b2 (l.getD 0 0) (l.getD 1 0) (l.getD 2 0 == 1) (.slice ua V.length uc) (.slice (some ⟨gg, 0, none⟩) (g1.length + 1) gc) V (g1 ++ [(y1, y2)])) := PF0
                        have cd : Hid (wd.cell? ⟨b2, 4, none⟩ = some (.slice xa g1.length xc) ∧ wd.cell? ⟨g, i1, none⟩ = some (.int .i64 y1) ∧ wd.cell? ⟨g, i2, none⟩ = some (.int .i64 y2)) := ⟨bd.all5.2.2.2.2, (LC2.out _ bl i1 (by omega)).trans (by rw [Y1.out]), (LC2.out _ bl i2 (by omega)).trans (by rw [Y2.out])⟩
                        have fd := bd.frozen 4
                        clear hgr hown bd bl PF0
                        refine oneH (i := 12) rfl (by kernel_rfl) rfl (op_run (d := 126) (v' := .slice (some ⟨wr.drew.heap.size, 0, none⟩) 1 1) (w' := wr.drew.alloc (.cells #[.int .i64 (y1), .int .i64 (y2)] 45)) rfl (by go_simp) ⟨KS.out _ PC.out, ?_⟩)
                        simp only [Act.put, List.setIfInBounds_toArray, List.set_cons_zero, List.set_cons_succ]
                        refine oneH (i := 13) rfl (by kernel_rfl) rfl (call_append (d := 127) (s := .tmp 115) (x := .tmp 126) (t := 25) rfl rfl (v := .slice xa g1.length xc) (v2 := .slice (some ⟨wr.drew.heap.size, 0, none⟩) 1 1) (by simp [Act.eval]) (by simp [Act.eval]) hrun ⟨cd.out, ?_⟩)
                        simp only [Act.put, List.setIfInBounds_toArray, List.set_cons_zero, List.set_cons_succ]
                        refine takeH (i := 14) (v := .pointer (some ⟨b2, 4, none⟩)) (d := 128) rfl rfl (by kernel_rfl) (by kernel_rfl) (by kernel_rfl) (fun _ _ _ h => h) (by rfl) (fun V hV => by obtain ⟨v1, v2, v3⟩ := hV; go_simp) cd.out ?_
                        simp only [Act.put, List.setIfInBounds_toArray, List.set_cons_zero, List.set_cons_succ]
                        refine wpAnyH_done (by kernel_rfl) ?_ _
                        have cd1 := cd.out.1
                        clear hrun PC PD KS cd
                        show Oper.wp _ _ _ _ _ _
                        go_wp2_with fail
                        go_roundw
                        case rel => exact ⟨k + 1, i3, _, by omega, rfl, ⟨by omega, by omega⟩, by rw [HS.out]; exact PF.out⟩
                        case measure => simp [intOf]; omega
                      · have hlt' : ¬ (i2 : Int) < (l.length : Int) := by omega
                        have e0 : k = j := by omega
                        obtain ⟨S, hS⟩ : ∃ S, S = docS l m j := ⟨_, rfl⟩
                        have PE0 : DcI w4 wr b2 S.step S.phase S.fresh (.slice ua V.length uc) vx S.vals S.mail := by rw [hS, HDV.out, ← e0]; exact PI0.out
                        have hVS : V = S.vals := by rw [hS, HDV.out]
                        rw [hVS] at PE0 ⊢
                        rw [← hS] at HDOC
                        obtain ⟨ya, yc, rfl⟩ := (RowK.own encM_len PE0.mail : MlR wr vx S.mail).shape
                        have PE : Hid (DcI w4 wr b2 S.step S.phase S.fresh (.slice ua S.vals.length uc) (.slice ya S.mail.length yc) S.vals S.mail) := PE0
                        clear PI0 e0 hk hlt PE0 hS hVS HDV
                        go_upto_region 24 with fail
                        clear hlt'
                        have AW7 : Hid (Below W0.heap.size W0 wr) := AW.out.trans (PE.out.low.mono hWb)
                        have CE : Hid (∀ X, X = wr → _) := fun X (_ : X = wr) => savedBytes_any S (.slice ua S.vals.length uc) (.slice ya S.mail.length yc) wr (RowK.own encM_len PE.out.vals) (RowK.own encM_len PE.out.mail)
                        have EB : Hid (∀ x ∈ (encS S).1, 0 ≤ x ∧ x ≤ 255) := encS_bd S
                        have ES : Hid (encS S = (b, 0) → D = (S, 0)) := DY.out S
                        have EN : Hid (encS S ≠ (b, 0) → D = (sv0, 3)) := fun h => HN3.out fun s he => h (by rw [← HDOC.out s he]; exact he)
                        have hsr := AW7.out.size
                        obtain ⟨c0, c1, c2, c3, c4⟩ := PE.out.box.all5
                        clear DY DQ DB HDOC HN3
                        generalize encS S = E at *
                        obtain ⟨eb, ee⟩ := E
                        go_wp2_with fail
                        refine (CE.out _ rfl).mono ?_
                        rintro e w7 ⟨ve, rfl, ho7, hb7⟩
                        obtain ⟨ea, ec, rfl⟩ := own_slice ho7
                        have R7 : Hid (Reads .u8 w7 (.slice ea eb.length ec) eb) := reads_own ho7
                        have A7 : Hid (Below W0.heap.size W0 w7) := AW7.out.trans (hb7.mono hsr)
                        have X7 : Hid (BX 27 w7 b2 #[.int .i64 S.step, .int .i64 S.phase, .bool S.fresh, .slice ua S.vals.length uc, .slice ya S.mail.length yc]) := PE.out.box.below hb7 PE.out.box.lt
                        have V7 : Hid (w7.ownsRow W0.heap.size 43 2 (.slice ua S.vals.length uc) S.vals.length (S.vals.flatMap encM)) := own_lower (own_below PE.out.vals hb7 (Nat.le_refl _)) (by omega)
                        have M7 : Hid (w7.ownsRow W0.heap.size 45 2 (.slice ya S.mail.length yc) S.mail.length (S.mail.flatMap encM)) := own_lower (own_below PE.out.mail hb7 (Nat.le_refl _)) (by omega)
                        have RB : Hid (Reads .u8 w7 (.slice va b.length vc) b) := R0.out.below A7.out (Nat.le_refl _)
                        obtain ⟨zz, zb⟩ := ZX.out _ A7.out
                        have ZR : Hid (BX 27 (putS w7 w.heap.size (.int .i64 0) (.int .i64 0) (.bool false) (.slice none 0 0) (.slice none 0 0)) w.heap.size #[.int .i64 0, .int .i64 0, .bool false, .slice none 0 0, .slice none 0 0] ∧ Below w.heap.size w (putS w7 w.heap.size (.int .i64 0) (.int .i64 0) (.bool false) (.slice none 0 0) (.slice none 0 0))) := ⟨zz.putS, below_putS zb (Nat.le_refl _) _ _ _ _ _⟩
                        have ZY : Hid (BX 27 (putS w7 w.heap.size (.int .i64 S.step) (.int .i64 S.phase) (.bool S.fresh) (.slice ua S.vals.length uc) (.slice ya S.mail.length yc)) w.heap.size #[.int .i64 S.step, .int .i64 S.phase, .bool S.fresh, .slice ua S.vals.length uc, .slice ya S.mail.length yc] ∧ (putS w7 w.heap.size (.int .i64 S.step) (.int .i64 S.phase) (.bool S.fresh) (.slice ua S.vals.length uc) (.slice ya S.mail.length yc)).ownsRow w.heap.size 43 2 (.slice ua S.vals.length uc) S.vals.length (S.vals.flatMap encM) ∧ (putS w7 w.heap.size (.int .i64 S.step) (.int .i64 S.phase) (.bool S.fresh) (.slice ua S.vals.length uc) (.slice ya S.mail.length yc)).ownsRow w.heap.size 45 2 (.slice ya S.mail.length yc) S.mail.length (S.mail.flatMap encM) ∧ Below w.heap.size w (putS w7 w.heap.size (.int .i64 S.step) (.int .i64 S.phase) (.bool S.fresh) (.slice ua S.vals.length uc) (.slice ya S.mail.length yc))) := ⟨zz.putS, own_lower (own_off V7.out zz (by decide) (kept_putS w7 w.heap.size _ _ _ _ _)) (by omega), own_lower (own_off M7.out zz (by decide) (kept_putS w7 w.heap.size _ _ _ _ _)) (by omega), below_putS zb (Nat.le_refl _) _ _ _ _ _⟩
                        obtain ⟨e0, e1, e2, e3, e4⟩ := zz.all5
                        obtain ⟨f0, f1, f2, f3, f4⟩ := zz.all5f
                        clear c0 c1 c2 c3 c4 zz zb ho7 hb7 CE
                        by_cases he : ee = 0
                        case neg =>
                          have HDD : Hid (D = (sv0, 3)) := EN.out (fun h => he (Prod.mk.inj h).2)
                          have tz : (ee != 0) = true := by simp [he]
                          go_wp2_with fail
                          obtain ⟨r0, r1, r2, r3, r4⟩ := ZR.out.1.all5
                          unfold putS at r0 r1 r2 r3 r4
                          refine bodyPost_ret (v := .tuple #[.agg #[.int .i64 0, .int .i64 0, .bool false, .slice none 0 0, .slice none 0 0], .int .i64 3]) (by simp [results, Try.results6, go_sem, r0, r1, r2, r3, r4]) rfl ?_
                          rw [HDD.out]
                          exact SvdP.no ZR.out.2
                        case pos =>
                          subst he
                          have ca := R7.out.convert
                          have cb := RB.out.convert
                          by_cases hq : eb = b
                          case neg =>
                            have HDD : Hid (D = (sv0, 3)) := EN.out (fun h => hq (Prod.mk.inj h).1)
                            have tq : ¬ (strOfNums eb).toList = (strOfNums b).toList := fun h => hq ((strOfNums_eq EB.out HX.out).1 h)
                            have tr : ((strOfNums eb).toList == (strOfNums b).toList) = false := by simpa using tq
                            clear hq
                            go_wp2_with fail
                            obtain ⟨r0, r1, r2, r3, r4⟩ := ZR.out.1.all5
                            unfold putS at r0 r1 r2 r3 r4
                            refine bodyPost_ret (v := .tuple #[.agg #[.int .i64 0, .int .i64 0, .bool false, .slice none 0 0, .slice none 0 0], .int .i64 3]) (by simp [results, Try.results6, go_sem, r0, r1, r2, r3, r4]) rfl ?_
                            rw [HDD.out]
                            exact SvdP.no ZR.out.2
                          case pos =>
                            have HDD : Hid (D = (S, 0)) := ES.out (by rw [hq])
                            have tq : (strOfNums eb).toList = (strOfNums b).toList := by rw [hq]
                            have tr : ((strOfNums eb).toList == (strOfNums b).toList) = true := by rw [hq]; simp
                            clear hq
                            obtain ⟨c0, c1, c2, c3, c4⟩ := X7.out.all5
                            go_wp2_with fail
                            obtain ⟨r0, r1, r2, r3, r4⟩ := ZY.out.1.all5
                            unfold putS at r0 r1 r2 r3 r4
                            refine bodyPost_ret (v := .tuple #[.agg #[.int .i64 S.step, .int .i64 S.phase, .bool S.fresh, .slice ua S.vals.length uc, .slice ya S.mail.length yc], .int .i64 0]) (by simp [results, Try.results6, go_sem, r0, r1, r2, r3, r4]) rfl ?_
                            rw [HDD.out]
                            exact ⟨_, _, rfl, ZY.out.2.1, ZY.out.2.2.1, ZY.out.2.2.2⟩
      · have HDD : Hid (D = (sv0, 3)) := HN3.out (DQ.out hno)
        have AW : Hid (Below W0.heap.size W0 wr) := A1.out.trans (BL.out.mono hs1)
        obtain ⟨zz, zb⟩ := ZX.out wr AW.out
        have ZR : Hid (BX 27 (putS wr w.heap.size (.int .i64 0) (.int .i64 0) (.bool false) (.slice none 0 0) (.slice none 0 0)) w.heap.size #[.int .i64 0, .int .i64 0, .bool false, .slice none 0 0, .slice none 0 0] ∧ Below w.heap.size w (putS wr w.heap.size (.int .i64 0) (.int .i64 0) (.bool false) (.slice none 0 0) (.slice none 0 0))) := ⟨zz.putS, below_putS zb (Nat.le_refl _) _ _ _ _ _⟩
        obtain ⟨e0, e1, e2, e3, e4⟩ := zz.all5
        obtain ⟨f0, f1, f2, f3, f4⟩ := zz.all5f
        clear zz zb
        go_wp2_with fail
        obtain ⟨r0, r1, r2, r3, r4⟩ := ZR.out.1.all5
        unfold putS at r0 r1 r2 r3 r4
        refine bodyPost_ret (v := .tuple #[.agg #[.int .i64 0, .int .i64 0, .bool false, .slice none 0 0, .slice none 0 0], .int .i64 3]) (by simp [results, Try.results6, go_sem, r0, r1, r2, r3, r4]) rfl ?_
        rw [HDD.out]
        exact SvdP.no ZR.out.2
end Go.Proofs.Ythakibcfmbkpkaa

namespace Go.Proofs.Ythakibcfmbkpkaa
set_option maxRecDepth 100000
open Go.ChangeShapes Go.WideShapes Go.ChangeAt Go.RowKit

set_option maxHeartbeats 1000000 in
set_option maxRecDepth 100000 in
theorem sameVals_yes (va vb : Value) (vs : List Ml) (w : World) (ha : MlR w va vs) (hb : MlR w vb vs) :
    Calls Try.prog 16 #[va, vb] w fun e w' => e = .returned (.bool true) ∧ Below w.heap.size w w' := by
  have HA : Hid (MlR w va vs) := ha
  have HB : Hid (MlR w vb vs) := hb
  obtain ⟨a, ca, rfl, hca, hma, _, _⟩ := ha
  obtain ⟨b, cb, rfl, hcb, hmb, _, _⟩ := hb
  unfold maxLen at hma hmb
  have hll : ((vs.length : Int) != (vs.length : Int)) = false := by simp
  go_enter Try.func16, Try.ntmps16
  go_wp2_with fail
  go_loopw [5] (fun i wr => ∃ k : Nat, k ≤ vs.length ∧ i = .int .i64 k ∧ Below w.heap.size w wr) (fun i _ => vs.length - (intOf i).toNat)
  case atStart => exact ⟨0, by omega, rfl, Below.refl _ _⟩
  case round =>
    obtain ⟨k, hk, rfl, hbel⟩ := hrel
    have HBL : Hid (Below w.heap.size w wr) := hbel
    clear hbel
    by_cases hlt : k < vs.length
    · obtain ⟨xa, oa, cap', e1, _, _, la, hva⟩ := MlR.at (HA.out.below HBL.out (Nat.le_refl _)) (by omega)
      injection e1 with e1 _ e3
      subst e1 e3
      obtain ⟨xb, ob, cap', e1, _, _, lb, hvb⟩ := MlR.at (HB.out.below HBL.out (Nat.le_refl _)) (by omega)
      injection e1 with e1 _ e3
      subst e1 e3
      obtain ⟨x, hx⟩ := getX hlt
      have p0 : (0 : Int) ≤ (k : Int) := by omega
      have p1 : (k : Int) < (vs.length : Int) := by omega
      obtain ⟨c1, c2⟩ := hva k x hx
      obtain ⟨d1, d2⟩ := hvb k x hx
      obtain ⟨x1, x2⟩ := x
      simp only at c1 c2 d1 d2
      clear hva hvb hx
      go_wp2_with fail
      go_quiet (fail)
      go_wp2_with fail
      go_roundw
      case rel => exact ⟨k + 1, by omega, by go_num, below_drewN HBL.out _⟩
      case measure => simp [intOf]; omega
    · go_wp2_with fail
      go_ret
      exact ⟨rfl, HBL.out⟩

end Go.Proofs.Ythakibcfmbkpkaa

namespace Go.Proofs.Ythakibcfmbkpkaa
set_option maxRecDepth 100000
open Go.ChangeShapes Go.WideShapes Go.ChangeAt Go.RowKit

set_option maxHeartbeats 1000000 in
set_option maxRecDepth 100000 in
theorem sameMails_yes (va vb : Value) (es : List Ml) (w : World) (ha : MlR w va es) (hb : MlR w vb es) :
    Calls Try.prog 17 #[va, vb] w fun e w' => e = .returned (.bool true) ∧ Below w.heap.size w w' := by
  have HA : Hid (MlR w va es) := ha
  have HB : Hid (MlR w vb es) := hb
  obtain ⟨a, ca, rfl, hca, hma, _, _⟩ := ha
  obtain ⟨b, cb, rfl, hcb, hmb, _, _⟩ := hb
  unfold maxLen at hma hmb
  have hll : ((es.length : Int) != (es.length : Int)) = false := by simp
  go_enter Try.func17, Try.ntmps17
  go_wp2_with fail
  go_loopw [5] (fun i wr => ∃ k : Nat, k ≤ es.length ∧ i = .int .i64 k ∧ Below w.heap.size w wr) (fun i _ => es.length - (intOf i).toNat)
  case atStart => exact ⟨0, by omega, rfl, Below.refl _ _⟩
  case round =>
    obtain ⟨k, hk, rfl, hbel⟩ := hrel
    have HBL : Hid (Below w.heap.size w wr) := hbel
    clear hbel
    by_cases hlt : k < es.length
    · obtain ⟨xa, oa, cap', e1, _, _, la, hva⟩ := MlR.at (HA.out.below HBL.out (Nat.le_refl _)) (by omega)
      injection e1 with e1 _ e3
      subst e1 e3
      obtain ⟨xb, ob, cap', e1, _, _, lb, hvb⟩ := MlR.at (HB.out.below HBL.out (Nat.le_refl _)) (by omega)
      injection e1 with e1 _ e3
      subst e1 e3
      obtain ⟨x, hx⟩ := getX hlt
      have p0 : (0 : Int) ≤ (k : Int) := by omega
      have p1 : (k : Int) < (es.length : Int) := by omega
      obtain ⟨c1, c2⟩ := hva k x hx
      obtain ⟨d1, d2⟩ := hvb k x hx
      obtain ⟨xt, xc⟩ := x
      simp only at c1 c2 d1 d2
      clear hva hvb hx
      go_wp2_with fail
      go_quiet (fail)
      go_wp2_with fail
      go_roundw
      case rel => exact ⟨k + 1, by omega, by go_num, below_drewN HBL.out _⟩
      case measure => simp [intOf]; omega
    · go_wp2_with fail
      go_ret
      exact ⟨rfl, HBL.out⟩
end Go.Proofs.Ythakibcfmbkpkaa

namespace Go.Proofs.Ythakibcfmbkpkaa
set_option maxRecDepth 100000
open Go.ChangeShapes Go.WideShapes Go.ChangeAt Go.RowKit

set_option maxHeartbeats 2000000 in
set_option maxRecDepth 100000 in
theorem sameSaved_yes (s : SvS) (va vb vma vmb : Value) (w : World) (ha : MlR w va s.vals) (hb : MlR w vb s.vals) (hma : MlR w vma s.mail) (hmb : MlR w vmb s.mail) :
    Calls Try.prog 7 #[.agg #[.int .i64 s.step, .int .i64 s.phase, .bool s.fresh, va, vma], .agg #[.int .i64 s.step, .int .i64 s.phase, .bool s.fresh, vb, vmb]] w fun e w' => e = .returned (.bool true) ∧ Below w.heap.size w w' := by
  have HA : Hid (MlR w va s.vals) := ha
  have HB : Hid (MlR w vb s.vals) := hb
  have HMA : Hid (MlR w vma s.mail) := hma
  have HMB : Hid (MlR w vmb s.mail) := hmb
  obtain ⟨a, ca, rfl⟩ := ha.shape
  obtain ⟨b, cb, rfl⟩ := hb.shape
  obtain ⟨ma, mca, rfl⟩ := hma.shape
  obtain ⟨mb, mcb, rfl⟩ := hmb.shape
  clear ha hb hma hmb
  obtain ⟨W0, hW0⟩ : ∃ W0, W0 = (w.alloc (.cells #[.int .i64 s.step, .int .i64 s.phase, .bool s.fresh, .slice a s.vals.length ca, .slice ma s.mail.length mca] 27)).alloc (.cells #[.int .i64 s.step, .int .i64 s.phase, .bool s.fresh, .slice b s.vals.length cb, .slice mb s.mail.length mcb] 27) := ⟨_, rfl⟩
  obtain ⟨Q0, T0, B0, s1, s2⟩ := boxes2 w #[.int .i64 s.step, .int .i64 s.phase, .bool s.fresh, .slice a s.vals.length ca, .slice ma s.mail.length mca] #[.int .i64 s.step, .int .i64 s.phase, .bool s.fresh, .slice b s.vals.length cb, .slice mb s.mail.length mcb] 27 27 W0 hW0
  have BH : Hid (Below w.heap.size w W0) := B0
  have HK : Hid (∀ X, Below W0.heap.size W0 X → BX 27 X w.heap.size #[.int .i64 s.step, .int .i64 s.phase, .bool s.fresh, .slice a s.vals.length ca, .slice ma s.mail.length mca] ∧ BX 27 X (w.heap.size + 1) #[.int .i64 s.step, .int .i64 s.phase, .bool s.fresh, .slice b s.vals.length cb, .slice mb s.mail.length mcb] ∧ Below w.heap.size w X) := fun X hX => ⟨Q0.below hX (by omega), T0.below hX (by omega), BH.out.trans (hX.mono (by omega))⟩
  have A0 : Hid (Below W0.heap.size W0 W0) := Below.refl _ _
  obtain ⟨q0, q1, q2, q3, q4⟩ := Q0.all5
  obtain ⟨p0, p1, p2, p3, p4⟩ := T0.all5
  have t0 : (s.step == s.step) = true := by simp
  have t1 : (s.phase == s.phase) = true := by simp
  have t2 : (s.fresh == s.fresh) = true := by simp
  have CV : Hid (∀ X, Below W0.heap.size W0 X → Calls Try.prog 16 #[.slice a s.vals.length ca, .slice b s.vals.length cb] X fun e w' => e = .returned (.bool true) ∧ Below X.heap.size X w') := fun X hX => sameVals_yes _ _ s.vals X (HA.out.below (HK.out X hX).2.2 (Nat.le_refl _)) (HB.out.below (HK.out X hX).2.2 (Nat.le_refl _))
  have CM : Hid (∀ X, Below W0.heap.size W0 X → Calls Try.prog 17 #[.slice ma s.mail.length mca, .slice mb s.mail.length mcb] X fun e w' => e = .returned (.bool true) ∧ Below X.heap.size X w') := fun X hX => sameMails_yes _ _ s.mail X (HMA.out.below (HK.out X hX).2.2 (Nat.le_refl _)) (HMB.out.below (HK.out X hX).2.2 (Nat.le_refl _))
  clear Q0 T0 B0 HA HB HMA HMB
  go_enter Try.func7, Try.ntmps7
  go_upto_region 1 with fail
  rw [← hW0]
  clear hW0
  go_wp2_with fail
  refine (CV.out _ A0.out).mono ?_
  rintro e w1 ⟨rfl, hb1⟩
  have A1 : Hid (Below W0.heap.size W0 w1) := hb1
  have hs1 := hb1.size
  obtain ⟨QA, QB, _⟩ := HK.out _ hb1
  clear q0 q1 q2 q3 q4 p0 p1 p2 p3 p4 hb1
  obtain ⟨q0, q1, q2, q3, q4⟩ := QA.all5
  obtain ⟨p0, p1, p2, p3, p4⟩ := QB.all5
  clear QA QB
  go_wp2_with fail
  refine (CM.out _ A1.out).mono ?_
  rintro e w2 ⟨rfl, hb2⟩
  have A2 : Hid (Below w.heap.size w w2) := (HK.out _ (A1.out.trans (hb2.mono hs1))).2.2
  clear q0 q1 q2 q3 q4 p0 p1 p2 p3 p4 hb2
  go_wp2_with fail
  go_ret
  exact ⟨rfl, A2.out⟩
end Go.Proofs.Ythakibcfmbkpkaa

namespace Go.Proofs.Ythakibcfmbkpkaa
set_option maxRecDepth 100000
open Go.ChangeShapes Go.WideShapes Go.ChangeAt Go.RowKit

set_option maxHeartbeats 400000 in
theorem octets_any (v : Value) (xs : List Int) (w : World) (h : Reads .u8 w v xs) (hl : xs.length ≤ 140737488355328) :
    Calls Try.prog 4 #[v] w fun e w' =>
      ∃ v', e = .returned v' ∧ w'.ownsRow w.heap.size 5 1 v' xs.length (xs.map (Value.int .u8)) ∧ Below w.heap.size w w' := by
  obtain ⟨i0, hi, hz0, hz1, hz2⟩ := info_parts Try.info5
  obtain ⟨a, cap, rfl, hc, hm, ha, hcell⟩ := h
  cases a with
  | none =>
    have hcap := ha rfl
    have : xs = [] := List.eq_nil_of_length_eq_zero (by omega)
    subst this
    subst hcap
    clear hcell ha
    go_enter Try.func4, Try.ntmps4
    go_wp2_with (at_builtin; refine wpList_append_own_none rfl _ _ 22 rfl w.heap.size 5 i0 1 Try.underlying22 hi _ 0 [] rfl (World.ownsRow_nil _ _ _ _) rfl ?_)
    go_ret
    exact ⟨_, rfl, World.ownsRow_nil _ _ _ _, Below.refl _ _⟩
  | some x =>
    have HN : Hid (∀ (j : Nat) (u : Value), (xs.map (Value.int IntKind.u8))[j]? = some u → w.cell? (x.add j) = some u) := fun j u hj => by
      obtain ⟨hj1, rfl⟩ := getD_map hj
      exact hcell x rfl j hj1
    clear hcell ha
    go_enter Try.func4, Try.ntmps4
    go_wp2_with (at_builtin; refine wpList_append_own _ rfl _ _ 22 rfl w.heap.size 5 i0 (.int .u8 0) 1 1 Try.underlying22 hi hz0 hz1 hz2 rfl (by decide) _ 0 [] rfl (World.ownsRow_nil _ _ _ _) x xs.length cap (xs.map (Value.int .u8)) rfl (by simp) HN.out (bytes_oneCell _) ?d3 ?d4 ?d5 ?_)
    case d3 => unfold maxLen; simp; omega
    case d4 => simp; omega
    case d5 => exact Nat.le_refl _
    intro v' w1 hown' hgrow _
    have hbel : Below w.heap.size w w1 := (Below.refl _ _).grown hgrow (Nat.le_refl _) (fun k hk => by simp [Value.ownBlock] at hk)
    clear HN
    go_wp2
    go_ret
    exact ⟨v', rfl, by simpa using hown', hbel⟩
end Go.Proofs.Ythakibcfmbkpkaa

namespace Go.Proofs.Ythakibcfmbkpkaa
set_option maxRecDepth 100000
open Go.ChangeShapes Go.WideShapes Go.ChangeAt Go.RowKit

theorem open_bytes {H : Type} {enc : TypeId × Value → H} {W : World} {v0 : Value} {d0 : DataW H} {p0 : List MemPlace} (hv : ∃ a len cap, v0 = .slice a len cap) (h0 : DataW.Trod enc Try.prog W 0 (fun _ => true) true 22 v0 d0 p0)
    (hs : ∀ m ∈ d0.weights Try.prog 22, m ≤ reachBytes) : ∃ xs, Reads .u8 W v0 xs ∧ (∀ x ∈ xs, 0 ≤ x ∧ x ≤ 255) ∧ xs.length ≤ 140737488351232 := by
  have cells5 : Try.prog.cellsOf 5 = 1 := by kernel_rfl
  have bytes5 : Try.prog.bytesOf 5 = 1 := by kernel_rfl
  obtain ⟨a, len, cap, rfl⟩ := hv
  obtain ⟨fuel, hf⟩ := h0
  rcases open_ints Try.underlying22 Try.underlying5 cells5 hf with ⟨e1, _⟩ | ⟨x, l, c, zs, e1, _, hle, hm, hz, hx, hcell, hwf⟩
  · simp [Value.cells] at e1
    obtain ⟨rfl, rfl, rfl⟩ := e1
    exact ⟨[], ⟨none, 0, rfl, by simp, by simp [maxLen], fun _ => rfl, fun x hx => by cases hx⟩, by simp, by simp⟩
  · simp [Value.cells] at e1
    obtain ⟨rfl, rfl, rfl⟩ := e1
    have hz2 : zs.length = cap := by simpa using hz
    have el : (zs.take len).length = len := List.length_take_of_le (by omega)
    simp only [Prod.mk.injEq] at hx
    have hw : ((zs.take len).length + (zs.drop len).length) * Try.prog.bytesOf 5 ≤ reachBytes := by
      refine hs _ ?_
      rw [hx.1]
      simp [DataW.weights, Try.underlying22, lits]
    rw [bytes5] at hw
    simp only [List.length_take, List.length_drop, reachBytes] at hw
    refine ⟨zs.take len, ⟨some x, cap, by rw [el], by rw [el]; omega, hm, fun e => (by cases e), fun y hy j hj => ?_⟩, bytes_wf (fun n hn => hwf n (List.mem_of_mem_take hn)), by rw [el]; omega⟩
    injection hy with hy
    subst hy
    rw [el] at hj
    rw [hcell j (by omega), List.getD_eq_getElem?_getD, List.getD_eq_getElem?_getD, List.getElem?_take_of_lt hj]
end Go.Proofs.Ythakibcfmbkpkaa
