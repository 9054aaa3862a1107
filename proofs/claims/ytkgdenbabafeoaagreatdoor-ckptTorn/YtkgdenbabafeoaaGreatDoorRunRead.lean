/-
  Contracts of queue.inOrder and queue.unpack: the mail of a run, or ErrForm.
-/
import Derived.Test.YtkgdenbabafeoaaGreatDoorMayBar
import Derived.Test.YtkgdenbabafeoaaGreatDoorLeastFace
import Derived.Test.YtkgdenbabafeoaaGreatDoorOwnSlice
import Derived.Test.YtkgdenbabafeoaaGreatDoorCutBytes
import Derived.Test.YtkgdenbabafeoaaGreatDoorUngapWalk
import Derived.Laws.OwnMore
namespace Go.Proofs.YtkgdenbabafeoaaGreatDoor
set_option maxRecDepth 100000
open Go.ChangeShapes Go.WideShapes Go.ChangeAt Go.RowKit

set_option maxHeartbeats 400000 in
theorem inOrderQ_any (v : Value) (l : List Ml) (w : World) (h : MlR w v l) (hl : l.length ≤ 5000) : Calls Tryz.prog 109 #[v] w fun e w' => e = .returned (.bool (srtMb l)) ∧ Below w.heap.size w w' := by
  have hcon := least_any v l w h
  obtain ⟨a, cap, rfl⟩ := h.shape
  have hel : errL l = if srtMb l then 0 else 3 := if_neg (by omega)
  rw [hel] at hcon
  generalize lowM l = lm at hcon
  cases hs : srtMb l
  · rw [hs, if_neg (by decide)] at hcon
    clear h hs hel
    go_enter Tryz.func109, Tryz.ntmps109
    go_wp2_with fail
    refine hcon.mono ?_
    rintro e w1 ⟨v1, rfl, _, hb⟩
    have HB : Hid (Below w.heap.size w w1) := hb
    clear hb
    go_wp2_with fail
    go_ret
    exact ⟨rfl, HB.out⟩
  · rw [hs, if_pos rfl] at hcon
    clear h hs hel
    go_enter Tryz.func109, Tryz.ntmps109
    go_wp2_with fail
    refine hcon.mono ?_
    rintro e w1 ⟨v1, rfl, _, hb⟩
    have HB : Hid (Below w.heap.size w w1) := hb
    clear hb
    go_wp2_with fail
    go_ret
    exact ⟨rfl, HB.out⟩

theorem madeM_zero (m : Nat) : (madeCells (Value.agg #[.int .i64 0, .int .i64 0]).cells (m * 2)).toList = (List.replicate m ((0, 0) : Ml)).flatMap encM := by
  refine List.ext_getElem? fun v => ?_
  rcases Nat.lt_or_ge v (m * 2) with hv | hv
  · have h2 : ((List.replicate m ((0, 0) : Ml)).flatMap encM)[v]? = some (.int .i64 0) := by
      have hd : v = v / 2 * 2 + v % 2 := by omega
      rw [hd]
      refine flat_at encM_len (x := (0, 0)) (by rw [List.getElem?_replicate, if_pos (by omega)]) ?_
      rcases (by omega : v % 2 = 0 ∨ v % 2 = 1) with h | h <;> rw [h] <;> rfl
    rw [h2]
    simp [madeCells, Value.cells, hv]
    rcases (by omega : v % 2 = 0 ∨ v % 2 = 1) with h | h <;> simp [h]
  · rw [List.getElem?_eq_none (by simpa [madeCells] using hv), List.getElem?_eq_none (by rw [flat_len encM_len]; simpa using hv)]
/-- make([]api.Mail, m). -/
theorem make_mails (w : World) (m : Nat) (hm : m ≤ 1000000) :
    ∃ w', (Instr.makeSlice 26 (.int .i64 (m : Int)) (.int .i64 (m : Int))).run Tryz.prog w = .ok (.slice (some ⟨w.heap.size, 0, none⟩) m m) w' ∧
      w'.ownsRow w.heap.size 62 2 (.slice (some ⟨w.heap.size, 0, none⟩) m m) m ((List.replicate m ((0, 0) : Ml)).flatMap encM) ∧ Below w.heap.size w w' := by
  obtain ⟨i0, hi, hz0, hz1, hz2⟩ := info_parts Tryz.infoM
  obtain ⟨w', h1, h2, h3⟩ := run_makeSlice_full (P := Tryz.prog) w w.heap.size 26 62 i0 _ 2 Tryz.underlying26 hi hz0 hz1 .i64 .i64 m (by omega) (by rw [hz2]; omega) (by unfold maxLen; omega) (Nat.le_refl _)
  rw [madeM_zero] at h2
  exact ⟨w', h1, h2, (Below.refl _ _).grown h3 (Nat.le_refl _) (fun k hk => by cases hk)⟩

/-- The error of a run. -/
def errR {α : Type} : Option α → Int
  | none => 3
  | some _ => 0
/-- So far: the mail l is read, the bytes r are left. -/
def RunTo (ts r0 : List Int) (k : Nat) (l : List Ml) (r : List Int) : Prop := l.length = k ∧ (∀ y ∈ r, 0 ≤ y ∧ y ≤ 255) ∧ valsC ts r0 = (valsC (ts.drop k) r).map fun p => (l ++ p.1, p.2)
theorem RunTo.zero {ts r0 : List Int} (h : ∀ y ∈ r0, 0 ≤ y ∧ y ≤ 255) : RunTo ts r0 0 [] r0 := ⟨rfl, h, by
  rw [List.drop_zero]
  cases valsC ts r0 with
  | none => rfl
  | some p => rfl⟩
theorem RunTo.bad {ts r0 r : List Int} {k : Nat} {l : List Ml} {t e : Int} (h : RunTo ts r0 k l r) (ht : ts[k]? = some t) (hg : get r = (0, 0, e)) (he : e ≠ 0) : valsC ts r0 = none := by
  obtain ⟨hk, rfl⟩ := List.getElem?_eq_some_iff.1 ht
  rw [h.2.2, List.drop_eq_getElem_cons hk, valsC_no hg he]
  rfl
theorem RunTo.step {ts r0 r : List Int} {k u : Nat} {l : List Ml} {t n : Int} (h : RunTo ts r0 k l r) (ht : ts[k]? = some t) (hg : get r = (n, u, 0)) : RunTo ts r0 (k + 1) (l ++ [(t, IntKind.i64.wrap n)]) (r.drop u) := by
  obtain ⟨hk, rfl⟩ := List.getElem?_eq_some_iff.1 ht
  refine ⟨by simp [h.1], fun y hy => h.2.1 y (List.mem_of_mem_drop hy), ?_⟩
  rw [h.2.2, List.drop_eq_getElem_cons hk, valsC_yes hg]
  cases valsC (ts.drop (k + 1)) (r.drop u) with
  | none => rfl
  | some p => simp
theorem RunTo.done {ts r0 r : List Int} {k : Nat} {l : List Ml} (h : RunTo ts r0 k l r) (hk : ts.length ≤ k) : valsC ts r0 = some (l, r) := by
  rw [h.2.2, List.drop_eq_nil_of_le hk]
  simp [valsC]
theorem runF_err {b : List Int} {e : Int} (h : ungap b = ([], 0, e)) : runF b = none := by
  unfold runF
  rw [h]
  exact if_neg fun h => by have := h.2.1; simp at this
theorem runF_len {b ts : List Int} {u : Nat} (h : ungap b = (ts, u, 0)) (hl : ¬ (1 ≤ ts.length ∧ ts.length ≤ 1000)) : runF b = none := by
  unfold runF
  rw [h]
  exact if_neg fun h => hl h.2
theorem runF_ok {b ts : List Int} {u : Nat} (h : ungap b = (ts, u, 0)) (hl : 1 ≤ ts.length ∧ ts.length ≤ 1000) : runF b = endC (valsC ts (b.drop u)) := by
  unfold runF
  rw [h]
  exact if_pos ⟨rfl, hl⟩

set_option maxHeartbeats 2000000 in
set_option maxRecDepth 100000 in
theorem unpack_any (v : Value) (b : List Int) (w : World) (h : Reads .u8 w v b) (hb : ∀ x ∈ b, 0 ≤ x ∧ x ≤ 255) : Calls Tryz.prog 97 #[v] w (RefP w (errR (runF b)) ((runF b).getD [])) := by
  have HU : Hid (∀ X, Reads .u8 X v b → Calls Tryz.prog 108 #[v] X fun e w' => ∃ v', e = .returned (.tuple #[v', .int .i64 (ungap b).2.1, .int .i64 (ungap b).2.2]) ∧ w'.ownsRow X.heap.size 3 1 v' (ungap b).1.length ((ungap b).1.map (Value.int .i64)) ∧ Below X.heap.size X w') := fun X hX => ungap_any v b X hX hb
  have HNo : Hid (runF b = none → ∀ w', Below w.heap.size w w' → RefP w (errR (runF b)) ((runF b).getD []) (.returned (.tuple #[.slice none 0 0, .int .i64 3])) w') := fun e w' hw => by rw [e]; exact RefP.no (by decide) hw
  have HYes : Hid (∀ l, runF b = some l → ∀ v w', w'.ownsRow w.heap.size 62 2 v l.length (l.flatMap encM) → Below w.heap.size w w' → RefP w (errR (runF b)) ((runF b).getD []) (.returned (.tuple #[v, .int .i64 0])) w') := fun l e v w' ho hw => by rw [e]; exact RefP.yes ho hw
  have HR : Hid (Reads .u8 w v b) := h
  obtain ⟨a, cap, rfl, _⟩ := id h
  rcases ungap_inv hb with ⟨e, he, hne⟩ | ⟨ts, u, he, _, hu, _⟩
  · have HX : Hid _ := HNo.out (runF_err he)
    generalize RefP w (errR (runF b)) ((runF b).getD []) = P at *
    rw [he] at HU
    have hne' : (e != 0) = true := by simpa using hne
    clear he hne HNo HYes h hb
    go_enter Tryz.func97, Tryz.ntmps97
    go_wp2_with fail
    refine (HU.out _ HR.out).mono ?_
    rintro e1 w1 ⟨v1, rfl, _, hb1⟩
    have HE : Hid (P (.returned (.tuple #[.slice none 0 0, .int .i64 3])) w1) := HX.out _ hb1
    clear hb1 HX
    go_wp2_with fail
    exact HE.out
  · by_cases hlen : 1 ≤ ts.length ∧ ts.length ≤ 1000
    · have HV : Hid (runF b = endC (valsC ts (b.drop u))) := runF_ok he hlen
      have HNo2 : Hid (∀ w', endC (valsC ts (b.drop u)) = none → Below w.heap.size w w' → RefP w (errR (runF b)) ((runF b).getD []) (.returned (.tuple #[.slice none 0 0, .int .i64 3])) w') := fun w' hn hw => HNo.out (HV.out.trans hn) w' hw
      have HYes2 : Hid (∀ l v w', endC (valsC ts (b.drop u)) = some l → w'.ownsRow w.heap.size 62 2 v l.length (l.flatMap encM) → Below w.heap.size w w' → RefP w (errR (runF b)) ((runF b).getD []) (.returned (.tuple #[v, .int .i64 0])) w') := fun l v w' hn ho hw => HYes.out l (HV.out.trans hn) v w' ho hw
      have hcut := run_cutV a b.length cap u hu
      have HR0 : Hid (Reads .u8 w (cutV a b.length cap u) (b.drop u)) := reads_cutV h hu
      have HZ : Hid (∀ y ∈ b.drop u, 0 ≤ y ∧ y ≤ 255) := fun y hy => hb y (List.mem_of_mem_drop hy)
      obtain ⟨hl1, hl2⟩ := hlen
      generalize RefP w (errR (runF b)) ((runF b).getD []) = P at *
      rw [he] at HU
      clear he HNo HYes h hb HV hu
      generalize b.drop u = r0 at *
      generalize cutV a b.length cap u = v0 at *
      have i1 : ¬ (ts.length : Int) < 1 := by omega
      have i2 : ¬ (1000 : Int) < (ts.length : Int) := by omega
      go_enter Tryz.func97, Tryz.ntmps97
      go_wp2_with fail
      refine (HU.out _ HR.out).mono ?_
      rintro e1 w1 ⟨v1, rfl, ho1, hb1⟩
      have OT : Hid (Reads .i64 w1 v1 ts) := reads_own ho1
      obtain ⟨a1, c1, rfl⟩ := own_slice ho1
      have hs1 := hb1.size
      have HB1 : Hid (Below w.heap.size w w1) := hb1
      have HR1 : Hid (Reads .u8 w1 v0 r0) := HR0.out.below hb1 (Nat.le_refl _)
      obtain ⟨w2, hmk, hown, hb2⟩ := make_mails w1 ts.length (by omega)
      have O2 : Hid (w2.ownsRow w1.heap.size 62 2 (.slice (some ⟨w1.heap.size, 0, none⟩) ts.length ts.length) ts.length ((List.replicate ts.length ((0, 0) : Ml)).flatMap encM)) := hown
      have HB2 : Hid (Below w1.heap.size w1 w2) := hb2
      clear hb1 ho1 HR HR0 HU hown hb2
      go_wp2_with fail
      go_loopw [7, 40] (fun x i wr => ∃ (k : Nat) (l : List Ml) (r : List Int), k ≤ ts.length ∧ i = .int .i64 k ∧ RunTo ts r0 k l r ∧ Reads .u8 w1 x r ∧ wr.ownsRow w1.heap.size 62 2 (.slice (some ⟨w1.heap.size, 0, none⟩) ts.length ts.length) ts.length ((l ++ List.replicate (ts.length - k) ((0, 0) : Ml)).flatMap encM) ∧ Below w1.heap.size w1 wr) (fun _ i _ => ts.length - (intOf i).toNat)
      case atStart => exact ⟨0, [], r0, by omega, rfl, RunTo.zero HZ.out, HR1.out, by simpa using O2.out, HB2.out⟩
      case round =>
        obtain ⟨k, l, r, hk, rfl, hto, hrx, hown, hbel⟩ := hrel
        have TO : Hid (RunTo ts r0 k l r) := hto
        have RX : Hid (Reads .u8 wr u7 r) := hrx.below hbel (Nat.le_refl _)
        have RX1 : Hid (Reads .u8 w1 u7 r) := hrx
        have OW : Hid (wr.ownsRow w1.heap.size 62 2 (.slice (some ⟨w1.heap.size, 0, none⟩) ts.length ts.length) ts.length ((l ++ List.replicate (ts.length - k) ((0, 0) : Ml)).flatMap encM)) := hown
        have HB : Hid (Below w1.heap.size w1 wr) := hbel
        have hsr := hbel.size
        have hll := hto.1
        clear hto hrx hown hbel O2 HB2 hmk HR1
        obtain ⟨xa, xc, rfl, _⟩ := id RX.out
        by_cases hlt : k < ts.length
        · obtain ⟨tb, tq, tc, e1, _, _, tlt, hv⟩ := (OT.out.below HB.out (Nat.le_refl _)).plain (by omega)
          injection e1 with e1 e2 e3
          subst e1 e3
          clear e2
          have hck := hv k hlt
          have HT : Hid (ts[k]? = some (ts.getD k 0)) := by show _ = _; rw [List.getD_eq_getElem?_getD, List.getElem?_eq_getElem hlt]; rfl
          generalize ts.getD k 0 = t at *
          have p0 : (0 : Int) ≤ (k : Int) := by omega
          have p1 : (k : Int) < (ts.length : Int) := by omega
          have hfz := frozenK OW.out
          have HG : Hid (∀ X, Reads .u8 X (.slice xa r.length xc) r → Calls Tryz.prog 69 #[.slice xa r.length xc] X fun e w' => e = .returned (.tuple #[.int .u64 (get r).1, .int .i64 (get r).2.1, .int .i64 (get r).2.2]) ∧ w' = X) := fun X hX => get_any _ _ X hX TO.out.2.1
          clear hv
          rcases get_inv TO.out.2.1 with ⟨e, he, hne⟩ | ⟨n, rr, he, hl, h0, h1⟩
          · have HE : Hid (P (.returned (.tuple #[.slice none 0 0, .int .i64 3])) wr) := HNo2.out wr (by rw [TO.out.bad HT.out he hne]; rfl) (HB1.out.trans (HB.out.mono hs1))
            have hne' : (e != 0) = true := by simpa using hne
            rw [he] at HG
            clear he hne
            go_wp2_with fail
            refine (HG.out _ RX.out).mono ?_
            rintro e w' ⟨rfl, rfl⟩
            go_wp2_with fail
            exact HE.out
          · have hp := put_len n
            have hpl : (put n).length ≤ r.length := by rw [hl]; simp
            have TO2 : Hid (RunTo ts r0 (k + 1) (l ++ [(t, IntKind.i64.wrap n)]) (r.drop (put n).length)) := TO.out.step HT.out he
            have hcut := run_cutV xa r.length xc _ hpl
            have RX2 : Hid (Reads .u8 w1 (cutV xa r.length xc (put n).length) (r.drop (put n).length)) := reads_cutV RX1.out hpl
            have O2 : Hid ((putM wr w1.heap.size (k * 2) (t, IntKind.i64.wrap n)).ownsRow w1.heap.size 62 2 (.slice (some ⟨w1.heap.size, 0, none⟩) ts.length ts.length) ts.length (((l ++ [(t, IntKind.i64.wrap n)]) ++ List.replicate (ts.length - (k + 1)) ((0, 0) : Ml)).flatMap encM) ∧ Below w1.heap.size w1 (putM wr w1.heap.size (k * 2) (t, IntKind.i64.wrap n))) := by
              refine ⟨?_, below_putM HB.out (Nat.le_refl _) _⟩
              have hh := ownM_put OW.out (p := k) (by simp; omega) (t, IntKind.i64.wrap n)
              have e1 : (l ++ List.replicate (ts.length - k) ((0, 0) : Ml)).set k (t, IntKind.i64.wrap n) = (l ++ [(t, IntKind.i64.wrap n)]) ++ List.replicate (ts.length - (k + 1)) ((0, 0) : Ml) := by
                rw [show ts.length - k = (ts.length - (k + 1)) + 1 by omega, List.replicate_succ, ← hll, setM_mid, List.append_assoc]
                rfl
              rw [e1] at hh
              exact hh
            obtain ⟨d1, d2⟩ := ownM_at OW.out (i := k) (x := (0, 0)) (by rw [List.getElem?_append_right (by omega), hll, Nat.sub_self, List.getElem?_replicate, if_pos (by omega)])
            have d3 : (wr.setCell ⟨w1.heap.size, k * 2, none⟩ (.int .i64 t)).cell? ⟨w1.heap.size, k * 2 + 1, none⟩ = some (.int .i64 0) := (cellM_far (by omega)).trans d2
            unfold putM at O2
            simp only at O2
            rw [he] at HG
            clear he hl hll OW TO
            generalize (put n).length = pu at *
            generalize hz : IntKind.i64.wrap n = z at *
            go_wp2_with fail
            refine (HG.out _ RX.out).mono ?_
            rintro e w' ⟨rfl, rfl⟩
            generalize cutV xa r.length xc pu = v2 at *
            go_wp2_with fail
            go_roundw
            case rel => exact ⟨k + 1, _, _, by omega, by go_num, TO2.out, RX2.out, O2.out.1, O2.out.2⟩
            case measure => simp [intOf]; omega
        · have ek : k = ts.length := by omega
          have HD : Hid (valsC ts r0 = some (l, r)) := TO.out.done (by omega)
          have O2 : Hid (wr.ownsRow w.heap.size 62 2 (.slice (some ⟨w1.heap.size, 0, none⟩) ts.length ts.length) l.length (l.flatMap encM)) := by
            have h := own_lower OW.out hs1
            rw [ek, Nat.sub_self, List.replicate_zero, List.append_nil] at h
            show World.ownsRow _ _ _ _ _ _ _
            rw [show l.length = ts.length by omega]
            exact h
          have ML : Hid (MlR wr (.slice (some ⟨w1.heap.size, 0, none⟩) ts.length ts.length) l) := MlR.ownd O2.out
          have hl5 : l.length ≤ 5000 := by omega
          have HBW : Hid (Below w.heap.size w wr) := HB1.out.trans (HB.out.mono hs1)
          have hsw := HBW.out.size
          clear ek hll OW TO OT RX1 HB
          by_cases hr : r = []
          · subst hr
            have HA : Hid (∀ X, MlR X (.slice (some ⟨w1.heap.size, 0, none⟩) ts.length ts.length) l → Calls Tryz.prog 107 #[.slice (some ⟨w1.heap.size, 0, none⟩) ts.length ts.length] X fun e w' => e = .returned (.bool (!mayA l)) ∧ Below X.heap.size X w') := fun X hX => anyBarred_any _ l X hX
            cases hma : mayA l
            · have HN : Hid (∀ w', Below w.heap.size w w' → P (.returned (.tuple #[.slice none 0 0, .int .i64 3])) w') := fun w' hw => HNo2.out w' (by rw [HD.out]; exact endC_may hma) hw
              rw [hma] at HA
              clear hma HD
              go_wp2_with fail
              refine (HA.out _ ML.out).mono ?_
              rintro e w3 ⟨rfl, hb3⟩
              have HE : Hid (P (.returned (.tuple #[.slice none 0 0, .int .i64 3])) w3) := HN.out w3 (HBW.out.trans (hb3.mono hsw))
              clear hb3
              go_wp2_with fail
              exact HE.out
            · have HI : Hid (∀ X, MlR X (.slice (some ⟨w1.heap.size, 0, none⟩) ts.length ts.length) l → Calls Tryz.prog 109 #[.slice (some ⟨w1.heap.size, 0, none⟩) ts.length ts.length] X fun e w' => e = .returned (.bool (srtMb l)) ∧ Below X.heap.size X w') := fun X hX => inOrderQ_any _ l X hX hl5
              rw [hma] at HA
              cases hso : srtMb l
              · have HN : Hid (∀ w', Below w.heap.size w w' → P (.returned (.tuple #[.slice none 0 0, .int .i64 3])) w') := fun w' hw => HNo2.out w' (by rw [HD.out]; exact endC_srt hso) hw
                rw [hso] at HI
                clear hma hso HD
                go_wp2_with fail
                refine (HA.out _ ML.out).mono ?_
                rintro e w3 ⟨rfl, hb3⟩
                have B3 : Hid (Below w.heap.size w w3) := HBW.out.trans (hb3.mono hsw)
                have M3 : Hid (MlR w3 (.slice (some ⟨w1.heap.size, 0, none⟩) ts.length ts.length) l) := ML.out.below hb3 (Nat.le_refl _)
                clear hb3
                go_wp2_with fail
                refine (HI.out _ M3.out).mono ?_
                rintro e w4 ⟨rfl, hb4⟩
                have HE : Hid (P (.returned (.tuple #[.slice none 0 0, .int .i64 3])) w4) := HN.out w4 (B3.out.trans (hb4.mono B3.out.size))
                clear hb4
                go_wp2_with fail
                exact HE.out
              · have HN : Hid (∀ w', w'.ownsRow w.heap.size 62 2 (.slice (some ⟨w1.heap.size, 0, none⟩) ts.length ts.length) l.length (l.flatMap encM) → Below w.heap.size w w' → P (.returned (.tuple #[.slice (some ⟨w1.heap.size, 0, none⟩) ts.length ts.length, .int .i64 0])) w') := fun w' ho hw => HYes2.out l _ w' (by rw [HD.out]; exact endC_yes hma hso) ho hw
                rw [hso] at HI
                clear hma hso HD
                go_wp2_with fail
                refine (HA.out _ ML.out).mono ?_
                rintro e w3 ⟨rfl, hb3⟩
                have B3 : Hid (Below w.heap.size w w3) := HBW.out.trans (hb3.mono hsw)
                have M3 : Hid (MlR w3 (.slice (some ⟨w1.heap.size, 0, none⟩) ts.length ts.length) l) := ML.out.below hb3 (Nat.le_refl _)
                have O3 : Hid (w3.ownsRow w.heap.size 62 2 (.slice (some ⟨w1.heap.size, 0, none⟩) ts.length ts.length) l.length (l.flatMap encM)) := own_below O2.out hb3 (Nat.le_refl _)
                clear hb3
                go_wp2_with fail
                refine (HI.out _ M3.out).mono ?_
                rintro e w4 ⟨rfl, hb4⟩
                have HE : Hid (P (.returned (.tuple #[.slice (some ⟨w1.heap.size, 0, none⟩) ts.length ts.length, .int .i64 0])) w4) := HN.out w4 (own_below O3.out hb4 (Nat.le_refl _)) (B3.out.trans (hb4.mono B3.out.size))
                clear hb4
                go_wp2_with fail
                exact HE.out
          · have HE : Hid (P (.returned (.tuple #[.slice none 0 0, .int .i64 3])) wr) := HNo2.out wr (by rw [HD.out]; exact endC_more hr) HBW.out
            have hrl : (0 : Int) < (r.length : Int) := by
              cases r with
              | nil => exact absurd rfl hr
              | cons x r => simp
            clear hr HD RX
            generalize r.length = rl at *
            go_wp2_with fail
            exact HE.out
    · have HX : Hid _ := HNo.out (runF_len he hlen)
      generalize RefP w (errR (runF b)) ((runF b).getD []) = P at *
      rw [he] at HU
      clear he HNo HYes h hb
      go_enter Tryz.func97, Tryz.ntmps97
      go_wp2_with fail
      refine (HU.out _ HR.out).mono ?_
      rintro e1 w1 ⟨v1, rfl, ho1, hb1⟩
      obtain ⟨a1, c1, rfl⟩ := own_slice ho1
      have HE : Hid (P (.returned (.tuple #[.slice none 0 0, .int .i64 3])) w1) := HX.out _ hb1
      clear hb1 HX ho1
      by_cases h1 : (ts.length : Int) < 1
      · go_wp2_with fail
        exact HE.out
      · have h2 : (1000 : Int) < ts.length := by omega
        go_wp2_with fail
        exact HE.out
end Go.Proofs.YtkgdenbabafeoaaGreatDoor
