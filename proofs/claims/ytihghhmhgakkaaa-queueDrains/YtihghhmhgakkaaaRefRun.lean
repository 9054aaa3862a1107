/-
  Contract of the document's own RunOf.
-/
import Derived.Test.YtihghhmhgakkaaaRunRead
import Derived.Test.YtihghhmhgakkaaaMailAhead
namespace Go.Proofs.Ytihghhmhgakkaaa
set_option maxRecDepth 100000
open Go.ChangeShapes Go.WideShapes Go.ChangeAt Go.RowKit

/-- So far: the mail l is read, the bytes behind the place at are left. -/
def RunQt (b ts r0 : List Int) (k : Nat) (l : List Ml) (i : Nat) : Prop := l.length = k ∧ i ≤ b.length ∧ valsQ ts r0 = (valsQ (ts.drop k) (b.drop i)).map fun p => (l ++ p.1, p.2)
theorem RunQt.zero {b ts : List Int} {u : Nat} (h : u ≤ b.length) : RunQt b ts (b.drop u) 0 [] u := ⟨rfl, h, by
  rw [List.drop_zero]
  cases valsQ ts (b.drop u) with
  | none => rfl
  | some p => rfl⟩
theorem RunQt.bad {b ts r0 : List Int} {k i : Nat} {l : List Ml} {t : Int} (h : RunQt b ts r0 k l i) (ht : ts[k]? = some t) (hg : numF 4398046511104 (b.drop i) = none) : valsQ ts r0 = none := by
  obtain ⟨hk, rfl⟩ := List.getElem?_eq_some_iff.1 ht
  rw [h.2.2, List.drop_eq_getElem_cons hk, valsQ_no hg]
  rfl
theorem RunQt.far {b ts r0 : List Int} {k i : Nat} {l : List Ml} {t : Int} (h : RunQt b ts r0 k l i) (ht : ts[k]? = some t) (hg : ¬ t < 200) : valsQ ts r0 = none := by
  obtain ⟨hk, rfl⟩ := List.getElem?_eq_some_iff.1 ht
  rw [h.2.2, List.drop_eq_getElem_cons hk, valsQ_far hg]
  rfl
theorem RunQt.step {b ts r0 : List Int} {k i j : Nat} {l : List Ml} {t x : Int} (h : RunQt b ts r0 k l i) (ht : ts[k]? = some t) (hg : numF 4398046511104 (b.drop i) = some (x, b.drop j)) (hj : j ≤ b.length) (hl : t < 200) : RunQt b ts r0 (k + 1) (l ++ [(t, x)]) j := by
  obtain ⟨hk, rfl⟩ := List.getElem?_eq_some_iff.1 ht
  refine ⟨by simp [h.1], hj, ?_⟩
  rw [h.2.2, List.drop_eq_getElem_cons hk, valsQ_yes hg hl]
  cases valsQ (ts.drop (k + 1)) (b.drop j) with
  | none => rfl
  | some p => simp
theorem RunQt.done {b ts r0 : List Int} {k i : Nat} {l : List Ml} (h : RunQt b ts r0 k l i) (hk : ts.length ≤ k) : valsQ ts r0 = some (l, b.drop i) := by
  rw [h.2.2, List.drop_eq_nil_of_le hk]
  simp [valsQ]
theorem runQ_err {b : List Int} {e : Int} (h : ungap b = ([], 0, e)) (he : e ≠ 0) : runQ b = [] := by
  unfold runQ
  rw [h]
  exact if_neg fun h => he h.1
theorem runQ_len {b ts : List Int} {u : Nat} (h : ungap b = (ts, u, 0)) (hl : ¬ ts.length ≤ 1000) : runQ b = [] := by
  unfold runQ
  rw [h]
  exact if_neg fun h => hl h.2
theorem runQ_ok {b ts : List Int} {u : Nat} (h : ungap b = (ts, u, 0)) (hl : ts.length ≤ 1000) : runQ b = endQ (valsQ ts (b.drop u)) := by
  unfold runQ
  rw [h]
  exact if_pos ⟨rfl, hl⟩
/-- What RunOf answers. -/
def RunP (w : World) (l : List Ml) (e : Ending) (w' : World) : Prop := ∃ v', e = .returned v' ∧ w'.ownsRow w.heap.size 27 2 v' l.length (l.flatMap encM) ∧ Below w.heap.size w w'
theorem RunP.nil {w w' : World} (h : Below w.heap.size w w') : RunP w [] (.returned (.slice none 0 0)) w' := ⟨_, rfl, World.ownsRow_nil _ _ _ _, h⟩

set_option maxHeartbeats 2000000 in
set_option maxRecDepth 100000 in
theorem runOf_any (v : Value) (b : List Int) (w : World) (h : Reads .u8 w v b) (hb : ∀ x ∈ b, 0 ≤ x ∧ x ≤ 255) (hL : b.length ≤ 140737488351232) : Calls Try.prog 45 #[v] w (RunP w ((runF b).getD [])) := by
  rw [← run_eq hb]
  have HU : Hid (∀ X, Reads .u8 X v b → Calls Try.prog 61 #[v] X fun e w' => ∃ v', e = .returned (.tuple #[v', .int .i64 (ungap b).2.1, .int .i64 (ungap b).2.2]) ∧ w'.ownsRow X.heap.size 3 1 v' (ungap b).1.length ((ungap b).1.map (Value.int .i64)) ∧ Below X.heap.size X w') := fun X hX => ungapped_any v b X hX hb
  have HNo : Hid (runQ b = [] → ∀ w', Below w.heap.size w w' → RunP w (runQ b) (.returned (.slice none 0 0)) w') := fun e w' hw => by rw [e]; exact RunP.nil hw
  have HYes : Hid (∀ l, runQ b = l → ∀ v w', w'.ownsRow w.heap.size 27 2 v l.length (l.flatMap encM) → Below w.heap.size w w' → RunP w (runQ b) (.returned v) w') := fun l e v w' ho hw => by rw [e]; exact ⟨_, rfl, ho, hw⟩
  have HR : Hid (Reads .u8 w v b) := h
  have HBY : Hid (∀ x ∈ b, 0 ≤ x ∧ x ≤ 255) := hb
  obtain ⟨a, cap, rfl, _⟩ := id h
  rcases ungap_inv hb with ⟨e, he, hne⟩ | ⟨ts, u, he, _, hu, _⟩
  · have HX : Hid _ := HNo.out (runQ_err he hne)
    generalize RunP w (runQ b) = P at *
    rw [he] at HU
    have hne' : (e != 0) = true := by simpa using hne
    clear he hne HNo HYes h hb
    go_enter Try.func45, Try.ntmps45
    go_wp2_with fail
    refine (HU.out _ HR.out).mono ?_
    rintro e1 w1 ⟨v1, rfl, _, hb1⟩
    have HE : Hid (P (.returned (.slice none 0 0)) w1) := HX.out _ hb1
    clear hb1 HX
    go_wp2_with fail
    exact HE.out
  · by_cases hlen : ts.length ≤ 1000
    · have HV : Hid (runQ b = endQ (valsQ ts (b.drop u))) := runQ_ok he hlen
      have HNo2 : Hid (∀ w', endQ (valsQ ts (b.drop u)) = [] → Below w.heap.size w w' → RunP w (runQ b) (.returned (.slice none 0 0)) w') := fun w' hn hw => HNo.out (HV.out.trans hn) w' hw
      have HYes2 : Hid (∀ l v w', endQ (valsQ ts (b.drop u)) = l → w'.ownsRow w.heap.size 27 2 v l.length (l.flatMap encM) → Below w.heap.size w w' → RunP w (runQ b) (.returned v) w') := fun l v w' hn ho hw => HYes.out l (HV.out.trans hn) v w' ho hw
      have HZ : Hid (RunQt b ts (b.drop u) 0 [] u) := RunQt.zero hu
      generalize RunP w (runQ b) = P at *
      rw [he] at HU
      clear he HNo HYes h hb HV
      generalize b.drop u = r0 at *
      have i2 : ¬ (1000 : Int) < (ts.length : Int) := by omega
      go_enter Try.func45, Try.ntmps45
      go_wp2_with fail
      refine (HU.out _ HR.out).mono ?_
      rintro e1 w1 ⟨v1, rfl, ho1, hb1⟩
      have OT : Hid (Reads .i64 w1 v1 ts) := reads_own ho1
      obtain ⟨a1, c1, rfl⟩ := own_slice ho1
      have hs1 := hb1.size
      have HB1 : Hid (Below w.heap.size w w1) := hb1
      have HR1 : Hid (Reads .u8 w1 (.slice a b.length cap) b) := HR.out.below hb1 (Nat.le_refl _)
      clear hb1 ho1 HR HU
      go_wp2_with fail
      go_loopw [4, 6, 7] (fun p y i wr => ∃ (k q : Nat) (l : List Ml), k ≤ ts.length ∧ i = .int .i64 k ∧ p = .int .i64 q ∧ RunQt b ts r0 k l q ∧ wr.ownsRow w1.heap.size 27 2 y l.length (l.flatMap encM) ∧ Below w1.heap.size w1 wr) (fun _ _ i _ => ts.length - (intOf i).toNat)
      case atStart => exact ⟨0, u, [], by omega, rfl, rfl, HZ.out, World.ownsRow_nil _ _ _ _, Below.refl _ _⟩
      case round =>
        obtain ⟨k, q, l, hk, rfl, rfl, hto, hown, hbel⟩ := hrel
        have TO : Hid (RunQt b ts r0 k l q) := hto
        have OW : Hid (wr.ownsRow w1.heap.size 27 2 u6 l.length (l.flatMap encM)) := hown
        have HB : Hid (Below w1.heap.size w1 wr) := hbel
        have HRr : Hid (Reads .u8 wr (.slice a b.length cap) b) := HR1.out.below hbel (Nat.le_refl _)
        have hsr := hbel.size
        have hll := hto.1
        have hqb := hto.2.1
        clear hto hown hbel
        obtain ⟨ua, uc, rfl⟩ := (MlR.ownd OW.out).shape
        by_cases hlt : k < ts.length
        · obtain ⟨tb, to, tc, e1, _, _, tlt, hv⟩ := (OT.out.below HB.out (Nat.le_refl _)).plain (by omega)
          injection e1 with e1 e2 e3
          subst e1 e3
          clear e2
          have hck := hv k hlt
          have HT : Hid (ts[k]? = some (ts.getD k 0)) := by show _ = _; rw [List.getD_eq_getElem?_getD, List.getElem?_eq_getElem hlt]; rfl
          generalize ts.getD k 0 = t at *
          have p0 : (0 : Int) ≤ (k : Int) := by omega
          have p1 : (k : Int) < (ts.length : Int) := by omega
          have hl1 : l.length ≤ 1000 := by omega
          have HG : Hid (∀ X, Reads .u8 X (.slice a b.length cap) b → Calls Try.prog 62 #[.slice a b.length cap, .int .i64 q, .int .i64 4398046511104] X fun e w' => SmlP 4398046511104 b q e ∧ w' = X) := fun X hX => small_any _ b q _ X hX HBY.out hqb (by omega) (by omega)
          clear hv hll
          go_wp2_with fail
          refine (HG.out _ HRr.out).mono ?_
          rintro e w' ⟨hs, rfl⟩
          rcases hs with ⟨hn, rfl⟩ | ⟨x, q2, hn, h1, h2, rfl⟩
          · have HE : Hid (P (.returned (.slice none 0 0)) w') := HNo2.out w' (by rw [TO.out.bad HT.out hn]; rfl) (HB1.out.trans (HB.out.mono hs1))
            clear hn
            go_wp2_with fail
            exact HE.out
          · have hq2 : ¬ (q2 : Int) < 0 := by omega
            by_cases ht : t < 200
            · have TO2 : Hid (RunQt b ts r0 (k + 1) (l ++ [(t, x)]) q2) := TO.out.step HT.out hn h2 ht
              have ht2 : ¬ 200 ≤ t := by omega
              clear hn h1 h2
              go_wp2_with (at_builtin; refine wpList_append_newK kM rfl _ _ rfl w1.heap.size _ l rfl (OW.out.alloc _) w'.heap.size (t, x) rfl #[.int .i64 t, .int .i64 x] rfl (0, 0) (heap_alloc_new _ _) (by simp [kM]; omega) (by unfold maxLen; omega) (by simp; omega) ?_)
              intro g c w2 hown2 hb2 _
              have O2 : Hid (w2.ownsRow w1.heap.size 27 2 (.slice (some ⟨g, 0, none⟩) (l.length + 1) c) (l ++ [(t, x)]).length ((l ++ [(t, x)]).flatMap encM)) := by show World.ownsRow _ _ _ _ _ _ _; simpa [kM] using hown2
              have HB2 : Hid (Below w1.heap.size w1 w2) := (HB.out.alloc hsr _).trans hb2
              clear hown2 hb2
              go_wp2_with fail
              go_roundw
              case rel => exact ⟨k + 1, q2, _, by omega, by go_num, rfl, TO2.out, O2.out, HB2.out⟩
              case measure => simp [intOf]; omega
            · have HE : Hid (P (.returned (.slice none 0 0)) w') := HNo2.out w' (by rw [TO.out.far HT.out ht]; rfl) (HB1.out.trans (HB.out.mono hs1))
              have ht2 : 200 ≤ t := by omega
              clear hn ht h1 h2
              go_wp2_with fail
              exact HE.out
        · have HD : Hid (valsQ ts r0 = some (l, b.drop q)) := TO.out.done (by omega)
          have O2 : Hid (wr.ownsRow w.heap.size 27 2 (.slice ua l.length uc) l.length (l.flatMap encM)) := own_lower OW.out hs1
          have ML : Hid (MlR wr (.slice ua l.length uc) l) := MlR.ownd O2.out
          have HBW : Hid (Below w.heap.size w wr) := HB1.out.trans (HB.out.mono hs1)
          have hsw := HBW.out.size
          clear hll OW TO OT HB HR1 HRr
          by_cases hq : q = b.length
          · have HI : Hid (∀ X, MlR X (.slice ua l.length uc) l → Calls Try.prog 63 #[.slice ua l.length uc] X fun e w' => e = .returned (.bool (srtMb l)) ∧ Below X.heap.size X w') := fun X hX => isOrdered_any _ l X hX
            have hq2 : ((q : Int) != (b.length : Int)) = false := by simp [hq]
            have HD2 : Hid (valsQ ts r0 = some (l, [])) := by show _ = _; rw [HD.out, List.drop_eq_nil_of_le (by omega)]
            cases hso : srtMb l
            · have HN : Hid (∀ w', Below w.heap.size w w' → P (.returned (.slice none 0 0)) w') := fun w' hw => HNo2.out w' (by rw [HD2.out]; exact endQ_srt hso) hw
              rw [hso] at HI
              clear hso HD HD2 hq hqb
              go_wp2_with fail
              refine (HI.out _ ML.out).mono ?_
              rintro e w3 ⟨rfl, hb3⟩
              have HE : Hid (P (.returned (.slice none 0 0)) w3) := HN.out w3 (HBW.out.trans (hb3.mono hsw))
              clear hb3
              go_wp2_with fail
              exact HE.out
            · have HN : Hid (∀ w', w'.ownsRow w.heap.size 27 2 (.slice ua l.length uc) l.length (l.flatMap encM) → Below w.heap.size w w' → P (.returned (.slice ua l.length uc)) w') := fun w' ho hw => HYes2.out l _ w' (by rw [HD2.out]; exact endQ_yes hso) ho hw
              rw [hso] at HI
              clear hso HD HD2 hq hqb
              go_wp2_with fail
              refine (HI.out _ ML.out).mono ?_
              rintro e w3 ⟨rfl, hb3⟩
              have HE : Hid (P (.returned (.slice ua l.length uc)) w3) := HN.out w3 (own_below O2.out hb3 (Nat.le_refl _)) (HBW.out.trans (hb3.mono hsw))
              clear hb3
              go_wp2_with fail
              exact HE.out
          · have hq2 : ((q : Int) != (b.length : Int)) = true := by
              simp only [bne_iff_ne, ne_eq]
              omega
            have HE : Hid (P (.returned (.slice none 0 0)) wr) := HNo2.out wr (by rw [HD.out]; exact endQ_more (fun e => by rw [List.drop_eq_nil_iff] at e; omega)) HBW.out
            clear hq HD
            go_wp2_with fail
            exact HE.out
    · have HX : Hid _ := HNo.out (runQ_len he hlen)
      generalize RunP w (runQ b) = P at *
      rw [he] at HU
      clear he HNo HYes h hb
      go_enter Try.func45, Try.ntmps45
      go_wp2_with fail
      refine (HU.out _ HR.out).mono ?_
      rintro e1 w1 ⟨v1, rfl, ho1, hb1⟩
      obtain ⟨a1, c1, rfl⟩ := own_slice ho1
      have HE : Hid (P (.returned (.slice none 0 0)) w1) := HX.out _ hb1
      clear hb1 HX ho1
      have h2 : (1000 : Int) < ts.length := by omega
      go_wp2_with fail
      exact HE.out
end Go.Proofs.Ytihghhmhgakkaaa
