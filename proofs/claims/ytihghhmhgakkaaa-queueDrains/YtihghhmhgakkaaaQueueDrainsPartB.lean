/-
  Contract of the document's own RunOf.
  append of one new element, and where the row then lies.
  Contract of the document's own Mails: mail, one by one put where it belongs.
  Contracts of the document's own queued, QueueCount and Drained.
  Contract of queue.Count.
  Contracts of the document's own QueueCount and Drained.
  Contracts of the law's own mails, sameMails: copies, and what reads alike.
  Contract of octets: a copy of the bytes in memory of its own; nothing else is written.
  A region that draws its order, whose last operation waits for all others: the others in whatever order, then that one. (So the last one may store into what the others have read.)
  Calls in a region that draws its order: one whose result is told by a relation, one that gives up by a panic.
-/
import Derived.Test.YtihghhmhgakkaaaQueueDrainsPartA
import Derived.Test.YtihghhmhgakkaaaRowNew
import Derived.Test.YtihghhmhgakkaaaKeptMem
import Derived.Deep.RegionHeld3
import Derived.Deep.CutRange
import Derived.Deep.QuietTactic
import Derived.BigQuiet
import Derived.Lib.QuietBelow
import Derived.Test.YtihghhmhgakkaaaMailLists
import Derived.Test.YtihghhmhgakkaaaSame
import Derived.Laws.AppendOwnNone
import Derived.Test.YtihghhmhgakkaaaRowBase

namespace Go.Proofs.Ytihghhmhgakkaaa
set_option maxRecDepth 100000
open Go.ChangeShapes Go.WideShapes Go.ChangeAt Go.RowKit

/-- So far: the mail l is read, the bytes behind the place at are left. -/
def RunQt (b ts r0 : List Int) (k : Nat) (l : List Ml) (i : Nat) : Prop := l.length = k ∧ i ≤ b.length ∧ valsQ ts r0 = (valsQ (ts.drop k) (b.drop i)).map fun p => (l ++ p.1, p.2)
theorem RunQt.zero {b ts : List Int} {u : Nat} (h : u ≤ b.length) : RunQt b ts (b.drop u) 0 [] u := ⟨rfl, h, by
  rw [List.drop_zero]
  cases valsQ ts (b.drop u) with
  | none => rfl
  | some p => rfl⟩
theorem RunQt.bad {b ts r0 : List Int} {k i : Nat} {l : List Ml} {t : Int} (h : RunQt b ts r0 k l i) (ht : ts[k]? = some t) (hg : numF 4398046511104 (b.drop i) = none) : valsQ ts r0 = none := by
  obtain ⟨hk, rfl⟩ := List.getElem?_eq_some_iff.1 ht
  rw [h.2.2, List.drop_eq_getElem_cons hk, valsQ_no hg]
  rfl
theorem RunQt.far {b ts r0 : List Int} {k i : Nat} {l : List Ml} {t : Int} (h : RunQt b ts r0 k l i) (ht : ts[k]? = some t) (hg : ¬ t < 200) : valsQ ts r0 = none := by
  obtain ⟨hk, rfl⟩ := List.getElem?_eq_some_iff.1 ht
  rw [h.2.2, List.drop_eq_getElem_cons hk, valsQ_far hg]
  rfl
theorem RunQt.step {b ts r0 : List Int} {k i j : Nat} {l : List Ml} {t x : Int} (h : RunQt b ts r0 k l i) (ht : ts[k]? = some t) (hg : numF 4398046511104 (b.drop i) = some (x, b.drop j)) (hj : j ≤ b.length) (hl : t < 200) : RunQt b ts r0 (k + 1) (l ++ [(t, x)]) j := by
  obtain ⟨hk, rfl⟩ := List.getElem?_eq_some_iff.1 ht
  refine ⟨by simp [h.1], hj, ?_⟩
  rw [h.2.2, List.drop_eq_getElem_cons hk, valsQ_yes hg hl]
  cases valsQ (ts.drop (k + 1)) (b.drop j) with
  | none => rfl
  | some p => simp
theorem RunQt.done {b ts r0 : List Int} {k i : Nat} {l : List Ml} (h : RunQt b ts r0 k l i) (hk : ts.length ≤ k) : valsQ ts r0 = some (l, b.drop i) := by
  rw [h.2.2, List.drop_eq_nil_of_le hk]
  simp [valsQ]
theorem runQ_err {b : List Int} {e : Int} (h : ungap b = ([], 0, e)) (he : e ≠ 0) : runQ b = [] := by
  unfold runQ
  rw [h]
  exact if_neg fun h => he h.1
theorem runQ_len {b ts : List Int} {u : Nat} (h : ungap b = (ts, u, 0)) (hl : ¬ ts.length ≤ 1000) : runQ b = [] := by
  unfold runQ
  rw [h]
  exact if_neg fun h => hl h.2
theorem runQ_ok {b ts : List Int} {u : Nat} (h : ungap b = (ts, u, 0)) (hl : ts.length ≤ 1000) : runQ b = endQ (valsQ ts (b.drop u)) := by
  unfold runQ
  rw [h]
  exact if_pos ⟨rfl, hl⟩
/-- What RunOf answers. -/
def RunP (w : World) (l : List Ml) (e : Ending) (w' : World) : Prop := ∃ v', e = .returned v' ∧ w'.ownsRow w.heap.size 27 2 v' l.length (l.flatMap encM) ∧ Below w.heap.size w w'
theorem RunP.nil {w w' : World} (h : Below w.heap.size w w') : RunP w [] (.returned (.slice none 0 0)) w' := ⟨_, rfl, World.ownsRow_nil _ _ _ _, h⟩

set_option maxHeartbeats 2000000 in
set_option maxRecDepth 100000 in
theorem runOf_any (v : Value) (b : List Int) (w : World) (h : Reads .u8 w v b) (hb : ∀ x ∈ b, 0 ≤ x ∧ x ≤ 255) (hL : b.length ≤ 140737488351232) : Calls Try.prog 45 #[v] w (RunP w ((runF b).getD [])) := by
  rw [← run_eq hb]
  have HU : Hid (∀ X, Reads .u8 X v b → Calls Try.prog 61 #[v] X fun e w' => ∃ v', e = .returned (.tuple #[v', .int .i64 (ungap b).2.1, .int .i64 (ungap b).2.2]) ∧ w'.ownsRow X.heap.size 3 1 v' (ungap b).1.length ((ungap b).1.map (Value.int .i64)) ∧ Below X.heap.size X w') := fun X hX => ungapped_any v b X hX hb
  have HNo : Hid (runQ b = [] → ∀ w', Below w.heap.size w w' → RunP w (runQ b) (.returned (.slice none 0 0)) w') := fun e w' hw => by rw [e]; exact RunP.nil hw
  have HYes : Hid (∀ l, runQ b = l → ∀ v w', w'.ownsRow w.heap.size 27 2 v l.length (l.flatMap encM) → Below w.heap.size w w' → RunP w (runQ b) (.returned v) w') := fun l e v w' ho hw => by rw [e]; exact ⟨_, rfl, ho, hw⟩
  have HR : Hid (Reads .u8 w v b) := h
  have HBY : Hid (∀ x ∈ b, 0 ≤ x ∧ x ≤ 255) := hb
  obtain ⟨a, cap, rfl, _⟩ := id h
  rcases ungap_inv hb with ⟨e, he, hne⟩ | ⟨ts, u, he, _, hu, _⟩
  · have HX : Hid _ := HNo.out (runQ_err he hne)
    generalize RunP w (runQ b) = P at *
    rw [he] at HU
    have hne' : (e != 0) = true := by simpa using hne
    clear he hne HNo HYes h hb
    go_enter Try.func45, Try.ntmps45
    go_wp2_with fail
    refine (HU.out _ HR.out).mono ?_
    rintro e1 w1 ⟨v1, rfl, _, hb1⟩
    have HE : Hid (P (.returned (.slice none 0 0)) w1) := HX.out _ hb1
    clear hb1 HX
    go_wp2_with fail
    exact HE.out
  · by_cases hlen : ts.length ≤ 1000
    · have HV : Hid (runQ b = endQ (valsQ ts (b.drop u))) := runQ_ok he hlen
      have HNo2 : Hid (∀ w', endQ (valsQ ts (b.drop u)) = [] → Below w.heap.size w w' → RunP w (runQ b) (.returned (.slice none 0 0)) w') := fun w' hn hw => HNo.out (HV.out.trans hn) w' hw
      have HYes2 : Hid (∀ l v w', endQ (valsQ ts (b.drop u)) = l → w'.ownsRow w.heap.size 27 2 v l.length (l.flatMap encM) → Below w.heap.size w w' → RunP w (runQ b) (.returned v) w') := fun l v w' hn ho hw => HYes.out l (HV.out.trans hn) v w' ho hw
      have HZ : Hid (RunQt b ts (b.drop u) 0 [] u) := RunQt.zero hu
      generalize RunP w (runQ b) = P at *
      rw [he] at HU
      clear he HNo HYes h hb HV
      generalize b.drop u = r0 at *
      have i2 : ¬ (1000 : Int) < (ts.length : Int) := by omega
      go_enter Try.func45, Try.ntmps45
      go_wp2_with fail
      refine (HU.out _ HR.out).mono ?_
      rintro e1 w1 ⟨v1, rfl, ho1, hb1⟩
      have OT : Hid (Reads .i64 w1 v1 ts) := reads_own ho1
      obtain ⟨a1, c1, rfl⟩ := own_slice ho1
      have hs1 := hb1.size
      have HB1 : Hid (Below w.heap.size w w1) := hb1
      have HR1 : Hid (Reads .u8 w1 (.slice a b.length cap) b) := HR.out.below hb1 (Nat.le_refl _)
      clear hb1 ho1 HR HU
      go_wp2_with fail
      go_loopw [4, 6, 7] (fun p y i wr => ∃ (k q : Nat) (l : List Ml), k ≤ ts.length ∧ i = .int .i64 k ∧ p = .int .i64 q ∧ RunQt b ts r0 k l q ∧ wr.ownsRow w1.heap.size 27 2 y l.length (l.flatMap encM) ∧ Below w1.heap.size w1 wr) (fun _ _ i _ => ts.length - (intOf i).toNat)
      case atStart => exact ⟨0, u, [], by omega, rfl, rfl, HZ.out, World.ownsRow_nil _ _ _ _, Below.refl _ _⟩
      case round =>
        obtain ⟨k, q, l, hk, rfl, rfl, hto, hown, hbel⟩ := hrel
        have TO : Hid (RunQt b ts r0 k l q) := hto
        have OW : Hid (wr.ownsRow w1.heap.size 27 2 u6 l.length (l.flatMap encM)) := hown
        have HB : Hid (Below w1.heap.size w1 wr) := hbel
        have HRr : Hid (Reads .u8 wr (.slice a b.length cap) b) := HR1.out.below hbel (Nat.le_refl _)
        have hsr := hbel.size
        have hll := hto.1
        have hqb := hto.2.1
        clear hto hown hbel
        obtain ⟨ua, uc, rfl⟩ := (MlR.ownd OW.out).shape
        by_cases hlt : k < ts.length
        · obtain ⟨tb, tq, tc, e1, _, _, tlt, hv⟩ := (OT.out.below HB.out (Nat.le_refl _)).plain (by omega)
          injection e1 with e1 e2 e3
          subst e1 e3
          clear e2
          have hck := hv k hlt
          have HT : Hid (ts[k]? = some (ts.getD k 0)) := by show _ = _; rw [List.getD_eq_getElem?_getD, List.getElem?_eq_getElem hlt]; rfl
          generalize ts.getD k 0 = t at *
          have p0 : (0 : Int) ≤ (k : Int) := by omega
          have p1 : (k : Int) < (ts.length : Int) := by omega
          have hl1 : l.length ≤ 1000 := by omega
          have HG : Hid (∀ X, Reads .u8 X (.slice a b.length cap) b → Calls Try.prog 62 #[.slice a b.length cap, .int .i64 q, .int .i64 4398046511104] X fun e w' => SmlP 4398046511104 b q e ∧ w' = X) := fun X hX => small_any _ b q _ X hX HBY.out hqb (by omega) (by omega)
          clear hv hll
          go_wp2_with fail
          refine (HG.out _ HRr.out).mono ?_
          rintro e w' ⟨hs, rfl⟩
          rcases hs with ⟨hn, rfl⟩ | ⟨x, q2, hn, h1, h2, rfl⟩
          · have HE : Hid (P (.returned (.slice none 0 0)) w') := HNo2.out w' (by rw [TO.out.bad HT.out hn]; rfl) (HB1.out.trans (HB.out.mono hs1))
            clear hn
            go_wp2_with fail
            exact HE.out
          · have hq2 : ¬ (q2 : Int) < 0 := by omega
            by_cases ht : t < 200
            · have TO2 : Hid (RunQt b ts r0 (k + 1) (l ++ [(t, x)]) q2) := TO.out.step HT.out hn h2 ht
              have ht2 : ¬ 200 ≤ t := by omega
              clear hn h1 h2
              go_wp2_with (at_builtin; refine wpList_append_newK kM rfl _ _ rfl w1.heap.size _ l rfl (OW.out.alloc _) w'.heap.size (t, x) rfl #[.int .i64 t, .int .i64 x] rfl (0, 0) (heap_alloc_new _ _) (by simp [kM]; omega) (by unfold maxLen; omega) (by simp; omega) ?_)
              intro g c w2 hown2 hb2 _
              have O2 : Hid (w2.ownsRow w1.heap.size 27 2 (.slice (some ⟨g, 0, none⟩) (l.length + 1) c) (l ++ [(t, x)]).length ((l ++ [(t, x)]).flatMap encM)) := by show World.ownsRow _ _ _ _ _ _ _; simpa [kM] using hown2
              have HB2 : Hid (Below w1.heap.size w1 w2) := (HB.out.alloc hsr _).trans hb2
              clear hown2 hb2
              go_wp2_with fail
              go_roundw
              case rel => exact ⟨k + 1, q2, _, by omega, by go_num, rfl, TO2.out, O2.out, HB2.out⟩
              case measure => simp [intOf]; omega
            · have HE : Hid (P (.returned (.slice none 0 0)) w') := HNo2.out w' (by rw [TO.out.far HT.out ht]; rfl) (HB1.out.trans (HB.out.mono hs1))
              have ht2 : 200 ≤ t := by omega
              clear hn ht h1 h2
              go_wp2_with fail
              exact HE.out
        · have HD : Hid (valsQ ts r0 = some (l, b.drop q)) := TO.out.done (by omega)
          have O2 : Hid (wr.ownsRow w.heap.size 27 2 (.slice ua l.length uc) l.length (l.flatMap encM)) := own_lower OW.out hs1
          have ML : Hid (MlR wr (.slice ua l.length uc) l) := MlR.ownd O2.out
          have HBW : Hid (Below w.heap.size w wr) := HB1.out.trans (HB.out.mono hs1)
          have hsw := HBW.out.size
          clear hll OW TO OT HB HR1 HRr
          by_cases hq : q = b.length
          · have HI : Hid (∀ X, MlR X (.slice ua l.length uc) l → Calls Try.prog 63 #[.slice ua l.length uc] X fun e w' => e = .returned (.bool (srtMb l)) ∧ Below X.heap.size X w') := fun X hX => isOrdered_any _ l X hX
            have hq2 : ((q : Int) != (b.length : Int)) = false := by simp [hq]
            have HD2 : Hid (valsQ ts r0 = some (l, [])) := by show _ = _; rw [HD.out, List.drop_eq_nil_of_le (by omega)]
            cases hso : srtMb l
            · have HN : Hid (∀ w', Below w.heap.size w w' → P (.returned (.slice none 0 0)) w') := fun w' hw => HNo2.out w' (by rw [HD2.out]; exact endQ_srt hso) hw
              rw [hso] at HI
              clear hso HD HD2 hq hqb
              go_wp2_with fail
              refine (HI.out _ ML.out).mono ?_
              rintro e w3 ⟨rfl, hb3⟩
              have HE : Hid (P (.returned (.slice none 0 0)) w3) := HN.out w3 (HBW.out.trans (hb3.mono hsw))
              clear hb3
              go_wp2_with fail
              exact HE.out
            · have HN : Hid (∀ w', w'.ownsRow w.heap.size 27 2 (.slice ua l.length uc) l.length (l.flatMap encM) → Below w.heap.size w w' → P (.returned (.slice ua l.length uc)) w') := fun w' ho hw => HYes2.out l _ w' (by rw [HD2.out]; exact endQ_yes hso) ho hw
              rw [hso] at HI
              clear hso HD HD2 hq hqb
              go_wp2_with fail
              refine (HI.out _ ML.out).mono ?_
              rintro e w3 ⟨rfl, hb3⟩
              have HE : Hid (P (.returned (.slice ua l.length uc)) w3) := HN.out w3 (own_below O2.out hb3 (Nat.le_refl _)) (HBW.out.trans (hb3.mono hsw))
              clear hb3
              go_wp2_with fail
              exact HE.out
          · have hq2 : ((q : Int) != (b.length : Int)) = true := by
              simp only [bne_iff_ne, ne_eq]
              omega
            have HE : Hid (P (.returned (.slice none 0 0)) wr) := HNo2.out wr (by rw [HD.out]; exact endQ_more (fun e => by rw [List.drop_eq_nil_iff] at e; omega)) HBW.out
            clear hq HD
            go_wp2_with fail
            exact HE.out
    · have HX : Hid _ := HNo.out (runQ_len he hlen)
      generalize RunP w (runQ b) = P at *
      rw [he] at HU
      clear he HNo HYes h hb
      go_enter Try.func45, Try.ntmps45
      go_wp2_with fail
      refine (HU.out _ HR.out).mono ?_
      rintro e1 w1 ⟨v1, rfl, ho1, hb1⟩
      obtain ⟨a1, c1, rfl⟩ := own_slice ho1
      have HE : Hid (P (.returned (.slice none 0 0)) w1) := HX.out _ hb1
      clear hb1 HX ho1
      have h2 : (1000 : Int) < ts.length := by omega
      go_wp2_with fail
      exact HE.out
end Go.Proofs.Ytihghhmhgakkaaa

namespace Go.Proofs.Ytihghhmhgakkaaa
set_option maxRecDepth 100000
open Go.ChangeShapes Go.WideShapes Go.ChangeAt Go.RowKit

theorem wpList_append_atK {α : Type} (K : ElK α) {w : World} {ops : Array Oper} {rest : List Oper} {o : Oper} {a : Act} {Q : Exit → Act → World → Prop} (hgd : o.guard = none) (s y : Operand)
    (ho : o.op = .call { callee := .builtin .append, args := #[s, y], argTypes := #[K.t, K.t] })
    (base : Nat) (v : Value) (xs : List α) (hs : a.eval s = v) (hown : w.ownsRow base K.e K.k v xs.length (xs.flatMap K.enc))
    (B : Nat) (x : α) (hy : a.eval y = .slice (some ⟨B, 0, none⟩) 1 1) (cs : Array Value) (hcs : cs.toList = K.enc x) (fr : Nat × Nat) (hblk : w.heap[B]? = some (.cells cs K.e fr)) (hlen : (xs.length + 1) * K.bytes ≤ 140737488355328) (hmax : xs.length + 1 ≤ maxLen) (hbase : base ≤ w.heap.size)
    (h : ∀ g c w', w'.ownsRow base K.e K.k (.slice (some ⟨g, 0, none⟩) (xs.length + 1) c) (xs ++ [x]).length ((xs ++ [x]).flatMap K.enc) → Below base w w' → w.grownBy w' v.ownBlock → (v.ownBlock = some g ∨ g = w.heap.size) → wpList Try.prog ops Q rest (a.put o.dst (.slice (some ⟨g, 0, none⟩) (xs.length + 1) c)) w') :
    wpList Try.prog ops Q (o :: rest) a w := by
  obtain ⟨i0, hi, hz0, hz1, hz2⟩ := info_parts K.hi
  obtain ⟨g, c, w', hrun, hown2, hgrow, hloc, _⟩ := run_append_lies (P := Try.prog) w K.t o.type base K.e i0 K.z K.k K.bytes K.ht hi hz0 hz1 hz2 K.hz K.hk0 v _ _ hown
    ⟨B, 0, none⟩ 1 1 (K.enc x) (by rw [K.hk, Nat.one_mul]) (by rw [← hcs]; exact World.news_of_block hblk) (K.h1 x) (by omega) hmax hlen hbase _ rfl
  have h1 : w'.ownsRow base K.e K.k (.slice (some ⟨g, 0, none⟩) (xs.length + 1) c) (xs ++ [x]).length ((xs ++ [x]).flatMap K.enc) := by
    rw [flat_snoc, List.length_append]
    exact hown2
  refine wpList_plain hgd fun K' hK => ?_
  unfold Oper.wp
  simp [execOp, ho, resolve, invoke, builtin, hs, hy, hrun, Result.andThen]
  exact hK _ _ (h g c w' h1 ((Below.refl base w).grown hgrow hbase (fun j hj => (hown.lt j hj).1)) hgrow hloc)
end Go.Proofs.Ytihghhmhgakkaaa

namespace Go.Proofs.Ytihghhmhgakkaaa
set_option maxRecDepth 100000
open Go.ChangeShapes Go.WideShapes Go.ChangeAt Go.RowKit

set_option maxHeartbeats 2000000 in
set_option maxRecDepth 100000 in
theorem refMails_any (v : Value) (es : List Ml) (w : World) (h : MlR w v es) (hl : es.length ≤ 5000) :
    Calls Try.prog 34 #[v] w fun e w' => ∃ v', e = .returned v' ∧ w'.ownsRow w.heap.size 27 2 v' (sortM es).length ((sortM es).flatMap encM) ∧ Below w.heap.size w w' := by
  have HR : Hid (MlR w v es) := h
  obtain ⟨a, cap, rfl, hc, hm, _, _⟩ := h
  unfold maxLen at hm
  go_enter Try.func34, Try.ntmps34
  go_wp2_with fail
  go_loopw [3, 4] (fun u i wr => ∃ (k : Nat) (s : List Ml), k ≤ es.length ∧ i = .int .i64 k ∧ wr.ownsRow w.heap.size 27 2 u s.length (s.flatMap encM) ∧ s.Perm (es.take k) ∧ InM s ∧ Below w.heap.size w wr) (fun _ i _ => es.length - (intOf i).toNat)
  case atStart => exact ⟨0, [], by omega, rfl, World.ownsRow_nil _ _ _ _, List.Perm.refl _, List.Pairwise.nil, Below.refl _ _⟩
  case round =>
    obtain ⟨k, s, hk, rfl, hown, hp, hso, hbel⟩ := hrel
    have OW : Hid (wr.ownsRow w.heap.size 27 2 u3 s.length (s.flatMap encM)) := hown
    have HB : Hid (Below w.heap.size w wr) := hbel
    have HP : Hid (s.Perm (es.take k)) := hp
    have HSO : Hid (InM s) := hso
    have hsr := hbel.size
    have hsl : s.length = k := by have := hp.length_eq; simp at this; omega
    clear hown hbel hp hso
    by_cases hlt : k < es.length
    · obtain ⟨b, off, cap', e1, _, _, lt, hv⟩ := MlR.at (HR.out.below HB.out (Nat.le_refl _)) (by omega)
      injection e1 with e1 _ e3
      subst e1 e3
      obtain ⟨x, hx⟩ := getX hlt
      obtain ⟨c1, c2⟩ := hv k x hx
      have HX : Hid (es.take (k + 1) = es.take k ++ [x]) := take_snoc hx
      clear hv hx
      go_wp2_with (at_builtin; refine wpList_append_newK kM rfl _ _ rfl w.heap.size _ s rfl (OW.out.alloc _) wr.heap.size x rfl #[.int .i64 x.1, .int .i64 x.2] rfl (0, 0) (heap_alloc_new _ _) (by simp [kM]; omega) (by unfold maxLen; omega) (by simp; omega) ?_)
      intro g c w3 hown3 hb3 _
      have O3 : Hid (w3.ownsRow w.heap.size 27 2 (.slice (some ⟨g, 0, none⟩) (k + 1) c) (k + 1) ((s ++ [x]).flatMap encM)) := by
        show World.ownsRow _ _ _ _ _ _ _
        rw [flat_snoc]; exact hown3
      have HB3 : Hid (Below w.heap.size w w3) := (HB.out.alloc hsr _).trans hb3
      clear hown3 hb3 c1 c2
      have hgw : w.heap.size ≤ g := (O3.out.lt g rfl).1
      go_wp2_with fail
      go_loopw [5] (fun j wq => ∃ (A B : List Ml) (m : Nat), A ++ B = s ∧ j = .int .i64 m ∧ A.length = m ∧ (∀ y ∈ B, ltM x y) ∧ wq.ownsRow w.heap.size 27 2 (.slice (some ⟨g, 0, none⟩) (k + 1) c) (k + 1) ((A ++ x :: B).flatMap encM) ∧ Below w.heap.size w wq) (fun j _ => (intOf j).toNat)
      case atStart => exact ⟨s, [], k, by simp, rfl, hsl, by simp, O3.out, HB3.out⟩
      case round =>
        obtain ⟨A, B, m, hAB, rfl, hAm, hBx, hown, hbq⟩ := hrel
        have OQ : Hid (wr.ownsRow w.heap.size 27 2 (.slice (some ⟨g, 0, none⟩) (k + 1) c) (k + 1) ((A ++ x :: B).flatMap encM)) := hown
        have HBQ : Hid (Below w.heap.size w wr) := hbq
        have HAB : Hid (A ++ B = s) := hAB
        have HBX : Hid (∀ y ∈ B, ltM x y) := hBx
        have hcap : k + 1 ≤ c ∧ c ≤ maxLen := by
          rcases own_shapeK hown with ⟨e, _⟩ | ⟨_, _, e, _, _, q1, q2, _⟩
          · cases e
          · injection e with _ _ e3; rw [e3]; exact ⟨q1, q2⟩
        have hAl : A.length ≤ k := by have := congrArg List.length hAB; simp at this; omega
        have hsq := hbq.size
        clear hown hbq hAB hBx O3 HB3 OW HB
        unfold maxLen at hcap
        rcases List.eq_nil_or_concat A with rfl | ⟨A', z, rfl⟩
        · have HIN : Hid (InM (x :: B)) := putM_sorted (A := []) (by rw [HAB.out]; exact HSO.out) HBX.out (by simp)
          have HPE : Hid ((x :: B).Perm (es.take (k + 1))) := by
            show List.Perm _ _
            rw [HX.out]; exact putM_perm (A := []) HAB.out HP.out
          have HL : Hid ((x :: B).length = k + 1) := by
            show _ = _
            have := congrArg List.length HAB.out; simp at this; simp; omega
          obtain rfl : m = 0 := by simpa using hAm.symm
          have hgt : ¬ ((0 : Nat) : Int) > 0 := by simp
          clear hAm hAl
          go_wp2_with fail
          go_quiet (fail)
          go_wp2_with fail
          go_roundw
          case rel => exact ⟨k + 1, x :: B, by omega, by go_num, by rw [HL.out]; exact OQ.out, HPE.out, HIN.out, below_drewN HBQ.out _⟩
          case measure => simp [intOf]; omega
        · simp only [List.concat_eq_append] at *
          obtain ⟨m', rfl⟩ : ∃ m', m = m' + 1 := ⟨A'.length, by simpa using hAm.symm⟩
          have hA' : A'.length = m' := by simpa using hAm
          have OQ2 : Hid (wr.ownsRow w.heap.size 27 2 (.slice (some ⟨g, 0, none⟩) (k + 1) c) (k + 1) ((A' ++ z :: x :: B).flatMap encM)) := by
            show World.ownsRow _ _ _ _ _ _ _
            simpa using OQ.out
          obtain ⟨z1, z2⟩ := ownM_at OQ2.out (i := m') (x := z) (by rw [← hA']; exact getM_mid)
          obtain ⟨x1, x2⟩ := ownM_at OQ2.out (i := m' + 1) (x := x) (by
            rw [← hA']; simp)
          have hm1 : m' + 1 < k + 1 := by simp at hAl; omega
          have HA' : Hid (A'.length = m') := hA'
          clear OQ hA' hAm hAl
          have q0 : (0 : Int) ≤ (m' : Int) + 1 := by omega
          have q1 : (m' : Int) + 1 < (k : Int) + 1 := by omega
          have q2 : (0 : Int) ≤ (m' : Int) := by omega
          have q3 : (m' : Int) < (k : Int) + 1 := by omega
          have q4 : (m' : Int) + 1 > 0 := by omega
          have q5 : IntKind.i64.wrap (m' : Int) = m' := wrap_id64 (by omega) (by omega)
          have q6 : IntKind.i64.wrap ((m' : Int) + 1 - 1) = m' := by rw [Int.add_sub_cancel]; exact q5
          have hgl : g < wr.heap.size := World.block_lt_of_cell? wr _ z1
          have KEEP : Hid (∀ V, Below wr.heap.size wr V → V.cell? ⟨g, m' * 2, none⟩ = some (.int .i64 z.1) ∧ V.cell? ⟨g, m' * 2 + 1, none⟩ = some (.int .i64 z.2) ∧ V.cell? ⟨g, (m' + 1) * 2, none⟩ = some (.int .i64 x.1) ∧ V.cell? ⟨g, (m' + 1) * 2 + 1, none⟩ = some (.int .i64 x.2)) := fun V hV => ⟨(hV.cell (p := ⟨g, m' * 2, none⟩) hgl).trans z1, (hV.cell (p := ⟨g, m' * 2 + 1, none⟩) hgl).trans z2, (hV.cell (p := ⟨g, (m' + 1) * 2, none⟩) hgl).trans x1, (hV.cell (p := ⟨g, (m' + 1) * 2 + 1, none⟩) hgl).trans x2⟩
          clear z1 z2 x1 x2
          go_wp2_with fail
          go_region_held3 (fun V => V.cell? ⟨g, m' * 2, none⟩ = some (.int .i64 z.1) ∧ V.cell? ⟨g, m' * 2 + 1, none⟩ = some (.int .i64 z.2) ∧ V.cell? ⟨g, (m' + 1) * 2, none⟩ = some (.int .i64 x.1) ∧ V.cell? ⟨g, (m' + 1) * 2 + 1, none⟩ = some (.int .i64 x.2)) (first | exact KEEP.out _ ((Below.refl _ _).drew) | (refine KEEP.out _ (below_undrew ?_); assumption)) (first | (go_at_call 48; refine (aheadM_any x z _).mono ?_; rintro e w1 ⟨rfl, hb1⟩))
          rename_i hh
          have B1 : Hid (Below wr.heap.size wr w1) := below_undrew hb1
          clear hh hb1
          have O1 : Hid (w1.ownsRow w.heap.size 27 2 (.slice (some ⟨g, 0, none⟩) (k + 1) c) (k + 1) ((A' ++ z :: x :: B).flatMap encM)) := own_below OQ2.out B1.out (Nat.le_refl _)
          have hs1 := B1.out.size
          by_cases hlt2 : ltM x z
          · have hd : ltMb x z = true := ltMb_true.2 hlt2
            rw [hd]
            obtain ⟨e1, e2, e3, e4⟩ := KEEP.out w1 B1.out
            have hg1 : g < w1.heap.size := by omega
            clear KEEP hd
            go_upto_region 10 with fail
            have W2F : Hid (∃ bx, bx ≠ g ∧ bx = w1.heap.size ∧ ∀ (o : Obj), o = .cells #[.int .i64 x.1, .int .i64 x.2] 27 → (w1.alloc o).ownsRow w.heap.size 27 2 (.slice (some ⟨g, 0, none⟩) (k + 1) c) (k + 1) ((A' ++ z :: x :: B).flatMap encM) ∧ Below w.heap.size w (w1.alloc o) ∧
              (w1.alloc o).cell? ⟨bx, 0, none⟩ = some (.int .i64 x.1) ∧ (w1.alloc o).cell? ⟨bx, 1, none⟩ = some (.int .i64 x.2)) :=
              ⟨w1.heap.size, by omega, rfl, fun o ho => by
                subst ho
                refine ⟨O1.out.alloc _, (HBQ.out.trans (B1.out.mono hsq)).alloc (by omega) _, ?_, ?_⟩
                · rw [cell_of_row _ _ _ _ _ _ (heap_alloc_new w1 _)]; rfl
                · rw [cell_of_row _ _ _ _ _ _ (heap_alloc_new w1 _)]; rfl⟩
            obtain ⟨bx, hbx, ebx, hW2⟩ := W2F.out
            obtain ⟨ow2, bw2, t0, t1⟩ := hW2 _ rfl
            rw [← ebx]
            generalize w1.alloc (.cells #[.int .i64 x.1, .int .i64 x.2] 27) = w2 at *
            have hz : (A' ++ z :: x :: B)[m']? = some z := by rw [← HA'.out]; exact getM_mid
            have hxx : (A' ++ z :: x :: B)[m' + 1]? = some x := by rw [← HA'.out]; simp
            have hlen3 : m' + 1 < (A' ++ z :: x :: B).length := by have := HA'.out; simp; omega
            obtain ⟨z1, z2⟩ := ownM_at ow2 hz
            obtain ⟨x1, x2⟩ := ownM_at ow2 hxx
            have fz : ∀ j, w2.frozen? ⟨g, j, none⟩ = false := fun j => frozenK ow2 j
            have s1 : (w2.setCell ⟨g, (m' + 1) * 2, none⟩ (.int .i64 z.1)).cell? ⟨g, (m' + 1) * 2 + 1, none⟩ = some (.int .i64 x.2) := (cellM_far (by omega)).trans x2
            have OW2 : Hid (w2.ownsRow w.heap.size 27 2 (.slice (some ⟨g, 0, none⟩) (k + 1) c) (k + 1) ((A' ++ z :: x :: B).flatMap encM)) := ow2
            have BW2 : Hid (Below w.heap.size w w2) := bw2
            have T0 : Hid (w2.cell? ⟨bx, 0, none⟩ = some (.int .i64 x.1) ∧ w2.cell? ⟨bx, 1, none⟩ = some (.int .i64 x.2)) := ⟨t0, t1⟩
            clear hz hxx ow2 bw2 hW2 W2F t0 t1 ebx O1 e1 e2 e3 e4
            go_upto_region 11 with fail
            have hE : ((w2.setCell ⟨g, (m' + 1) * 2, none⟩ (.int .i64 z.1)).setCell ⟨g, (m' + 1) * 2 + 1, none⟩ (.int .i64 z.2)) = putM w2 g ((m' + 1) * 2) z := rfl
            rw [hE]
            have O3 : Hid ((putM w2 g ((m' + 1) * 2) z).ownsRow w.heap.size 27 2 (.slice (some ⟨g, 0, none⟩) (k + 1) c) (k + 1) ((A' ++ z :: z :: B).flatMap encM)) := by
              have := ownM_put OW2.out hlen3 z
              rw [show (A' ++ z :: x :: B).set (m' + 1) z = A' ++ z :: z :: B by rw [← HA'.out]; simp] at this
              exact this
            have B3 : Hid (Below w.heap.size w (putM w2 g ((m' + 1) * 2) z)) := below_putM BW2.out hgw z
            have t0 : (putM w2 g ((m' + 1) * 2) z).cell? ⟨bx, 0, none⟩ = some (.int .i64 x.1) := (putM_cell hbx).trans T0.out.1
            have t1 : (putM w2 g ((m' + 1) * 2) z).cell? ⟨bx, 1, none⟩ = some (.int .i64 x.2) := (putM_cell hbx).trans T0.out.2
            clear hE s1 fz z1 z2 x1 x2 OW2 BW2 T0
            generalize putM w2 g ((m' + 1) * 2) z = w3 at *
            have hz : (A' ++ z :: z :: B)[m']? = some z := by rw [← HA'.out]; exact getM_mid
            have hlen4 : m' < (A' ++ z :: z :: B).length := by have := HA'.out; simp; omega
            obtain ⟨z1, z2⟩ := ownM_at O3.out hz
            have fz : ∀ j, w3.frozen? ⟨g, j, none⟩ = false := fun j => frozenK O3.out j
            have s1 : (w3.setCell ⟨g, m' * 2, none⟩ (.int .i64 x.1)).cell? ⟨g, m' * 2 + 1, none⟩ = some (.int .i64 z.2) := (cellM_far (by omega)).trans z2
            have O4 : Hid ((putM w3 g (m' * 2) x).ownsRow w.heap.size 27 2 (.slice (some ⟨g, 0, none⟩) (k + 1) c) (k + 1) ((A' ++ x :: z :: B).flatMap encM)) := by
              have := ownM_put O3.out hlen4 x
              rw [show (A' ++ z :: z :: B).set m' x = A' ++ x :: z :: B by rw [← HA'.out]; exact setM_mid] at this
              exact this
            have B4 : Hid (Below w.heap.size w (putM w3 g (m' * 2) x)) := below_putM B3.out hgw x
            have HB2 : Hid (∀ y ∈ z :: B, ltM x y) := fun y hy => by
              rcases List.mem_cons.1 hy with rfl | hy
              · exact hlt2
              · exact HBX.out y hy
            have HAB2 : Hid (A' ++ z :: B = s) := by
              show _ = _
              rw [← HAB.out]; simp
            clear hz hlen3 hlen4
            go_wp2_with fail
            go_roundw
            case rel => exact ⟨A', z :: B, m', HAB2.out, by go_num, HA'.out, HB2.out, O4.out, B4.out⟩
            case measure => simp [intOf]
          · have hd : ltMb x z = false := ltMb_false.2 hlt2
            have HIN : Hid (InM (A' ++ [z] ++ x :: B)) := putM_sorted (by rw [HAB.out]; exact HSO.out) HBX.out (by
              intro y hy
              simp at hy
              subst hy
              exact hlt2)
            have HPE : Hid ((A' ++ [z] ++ x :: B).Perm (es.take (k + 1))) := by
              show List.Perm _ _
              rw [HX.out]; exact putM_perm HAB.out HP.out
            have HL : Hid ((A' ++ [z] ++ x :: B).length = k + 1) := by
              show _ = _
              have := congrArg List.length HAB.out; simp at this; simp; omega
            have HR2 : Hid (A' ++ [z] ++ x :: B = A' ++ z :: x :: B) := by show _ = _; simp
            rw [hd]
            clear KEEP hd
            go_wp2_with fail
            go_roundw
            case rel => exact ⟨k + 1, A' ++ [z] ++ x :: B, by omega, by go_num, by rw [HL.out, HR2.out]; exact O1.out, HPE.out, HIN.out, HBQ.out.trans (B1.out.mono hsq)⟩
            case measure => simp [intOf]; omega
    · have ek : es.take k = es := List.take_of_length_le (by omega)
      have HE : Hid (s = sortM es) := sortedM_uniq (by have := HP.out; rwa [ek] at this) HSO.out
      have O2 : Hid (wr.ownsRow w.heap.size 27 2 u3 (sortM es).length ((sortM es).flatMap encM)) := by
        show World.ownsRow _ _ _ _ _ _ _
        rw [← HE.out]; exact OW.out
      clear ek hsl
      go_wp2_with fail
      go_ret
      exact ⟨_, rfl, O2.out, HB.out⟩
end Go.Proofs.Ytihghhmhgakkaaa

namespace Go.Proofs.Ytihghhmhgakkaaa
set_option maxRecDepth 100000
open Go.ChangeShapes Go.WideShapes Go.ChangeAt Go.RowKit

/-- All mail. -/
def allQ (lo : List Ml) : Option (List (List Ml)) → List Ml
  | none => []
  | some f => lo ++ f.flatten
/-- What queued answers. -/
def QdP (w : World) (lo : List Ml) (o : Option (List (List Ml))) (e : Ending) (w' : World) : Prop := ∃ v', e = .returned (.tuple #[v', .bool o.isSome]) ∧ w'.ownsRow w.heap.size 27 2 v' (allQ lo o).length ((allQ lo o).flatMap encM) ∧ Below w.heap.size w w'
theorem QdP.no {w w' : World} {lo : List Ml} (h : Below w.heap.size w w') : QdP w lo none (.returned (.tuple #[.slice none 0 0, .bool false])) w' := ⟨_, rfl, World.ownsRow_nil _ _ _ _, h⟩
theorem quF_budget {n : Int} {lo : List Ml} {rs : List (List Int)} (h : ¬ (1 ≤ n ∧ n ≤ 1000)) : quF n lo rs = none := quF_no (by rw [Bool.eq_false_iff]; intro e; exact h ⟨(okQ_iff.1 e).1.1, (okQ_iff.1 e).1.2.1⟩)
theorem quF_loose {n : Int} {lo : List Ml} {rs : List (List Int)} (h : ¬ (lo.length : Int) < n) : quF n lo rs = none := quF_no (by rw [Bool.eq_false_iff]; intro e; exact h (okQ_iff.1 e).1.2.2.1)
theorem quF_runs {n : Int} {lo : List Ml} {rs : List (List Int)} (h : ¬ rs.length ≤ 5000) : quF n lo rs = none := quF_no (by rw [Bool.eq_false_iff]; intro e; exact h (okQ_iff.1 e).1.2.2.2)
theorem quF_barred {n : Int} {lo : List Ml} {rs : List (List Int)} (h : mayA lo = false) : quF n lo rs = none := quF_no (by rw [Bool.eq_false_iff]; intro e; rw [(okQ_iff.1 e).2] at h; cases h)

set_option maxHeartbeats 4000000 in
set_option maxRecDepth 100000 in
theorem queued_any (n : Int) (vl vr : Value) (lo : List Ml) (rs : List (List Int)) (w : World) (h : QuR w vl vr lo rs) (hB : QuB lo rs) :
    Calls Try.prog 30 #[.agg #[.int .i64 n, vl, vr]] w (QdP w lo (quF n lo rs)) := by
  have HR : Hid (QuR w vl vr lo rs) := h
  have HBY : Hid (∀ b ∈ rs, (∀ x ∈ b, 0 ≤ x ∧ x ≤ 255) ∧ b.length ≤ 140737488351232) := hB.2.1
  obtain ⟨a, cap, rfl, hc1, hm1, _⟩ := id h.1
  obtain ⟨c, cap2, rfl, hc2, hm2, _⟩ := id h.2
  unfold maxLen at hm1 hm2
  clear h hB
  have HI : Hid (∀ X, Calls Try.prog 44 #[.int .i64 n, .int .i64 1, .int .i64 1000] X fun e w' => e = .returned (.bool (inB n 1 1000)) ∧ w' = X) := fun X => in_any n 1 1000 X
  have HNo : Hid (quF n lo rs = none → ∀ w', Below w.heap.size w w' → QdP w lo (quF n lo rs) (.returned (.tuple #[.slice none 0 0, .bool false])) w') := fun e w' hw => by rw [e]; exact QdP.no hw
  have HYes : Hid (∀ f, quF n lo rs = some f → ∀ v w', w'.ownsRow w.heap.size 27 2 v (lo ++ f.flatten).length ((lo ++ f.flatten).flatMap encM) → Below w.heap.size w w' → QdP w lo (quF n lo rs) (.returned (.tuple #[v, .bool true])) w') := fun f e v w' ho hw => by rw [e]; exact ⟨_, rfl, ho, hw⟩
  have hb : ∀ o, Below w.heap.size w (w.alloc o) := fun o => below_alloc w o
  by_cases h0 : 1 ≤ n ∧ n ≤ 1000
  · by_cases h2 : (lo.length : Int) < n
    · by_cases h3 : rs.length ≤ 5000
      · have hin := in_yes h0
        rw [hin] at HI
        have e2 : ¬ n ≤ (lo.length : Int) := by omega
        have e3 : ¬ (5000 : Int) < (rs.length : Int) := by omega
        have h4 : lo.length < 1000 := by omega
        have HQ : Hid (mayA lo = true → quF n lo rs = unpF (5000 - lo.length) rs) := fun hm => quF_yes (okQ_iff.2 ⟨⟨h0.1, h0.2, h2, h3⟩, hm⟩)
        have HBar : Hid (mayA lo = false → quF n lo rs = none) := fun hm => quF_barred hm
        generalize QdP w lo (quF n lo rs) = P at *
        generalize quF n lo rs = o at *
        clear hin
        go_enter Try.func30, Try.ntmps30
        go_wp2_with fail
        refine (HI.out _).mono ?_
        rintro e w1 ⟨rfl, rfl⟩
        have Q0 := QX.new w (.int .i64 n) (.slice a lo.length cap) (.slice c rs.length cap2)
        have B0 : Hid (Below w.heap.size w (w.alloc (.cells #[.int .i64 n, .slice a lo.length cap, .slice c rs.length cap2] 25))) := hb _
        have hs0 : w.heap.size < (w.alloc (.cells #[.int .i64 n, .slice a lo.length cap, .slice c rs.length cap2] 25)).heap.size := by simp
        have R0 : Hid (QuR (w.alloc (.cells #[.int .i64 n, .slice a lo.length cap, .slice c rs.length cap2] 25)) (.slice a lo.length cap) (.slice c rs.length cap2) lo rs) := HR.out.below (hb _) (Nat.le_refl _)
        generalize w.alloc (.cells #[.int .i64 n, .slice a lo.length cap, .slice c rs.length cap2] 25) = W0 at *
        obtain ⟨q0, q1, q2⟩ := Q0.cells
        have QQ : Hid (QX W0 w.heap.size (.int .i64 n) (.slice a lo.length cap) (.slice c rs.length cap2)) := Q0
        clear Q0 HR HI hb h0
        go_wp2_with fail
        go_loopw [4, 5] (fun x i wr => ∃ k : Nat, k ≤ lo.length ∧ i = .int .i64 k ∧ mayA (lo.take k) = true ∧ wr.ownsRow W0.heap.size 27 2 x (lo.take k).length ((lo.take k).flatMap encM) ∧ Below W0.heap.size W0 wr) (fun _ i _ => lo.length - (intOf i).toNat)
        case atStart => exact ⟨0, by omega, rfl, rfl, World.ownsRow_nil _ _ _ _, Below.refl _ _⟩
        case round =>
          obtain ⟨k, hk, rfl, hmy, hown, hbel⟩ := hrel
          have MY : Hid (mayA (lo.take k) = true) := hmy
          have OW : Hid (wr.ownsRow W0.heap.size 27 2 u4 (lo.take k).length ((lo.take k).flatMap encM)) := hown
          have HB : Hid (Below W0.heap.size W0 wr) := hbel
          have hsr := hbel.size
          obtain ⟨r0, r1, r2⟩ := (QQ.out.below hbel hs0).cells
          have QR : Hid (QX wr w.heap.size (.int .i64 n) (.slice a lo.length cap) (.slice c rs.length cap2)) := QQ.out.below hbel hs0
          obtain ⟨ua, uc, rfl⟩ := (MlR.ownd hown).shape
          clear hmy hown hbel q0 q1 q2
          by_cases hlt : k < lo.length
          · obtain ⟨b, off, cap', e1, _, _, lt, hv⟩ := MlR.at (R0.out.1.below HB.out (Nat.le_refl _)) (by omega)
            injection e1 with e1 e9 e8
            subst e1 e8
            clear e9
            obtain ⟨x, hx⟩ := getX hlt
            obtain ⟨c1, c2⟩ := hv k x hx
            have HX : Hid (lo[k]? = some x) := hx
            have p0 : (0 : Int) ≤ (k : Int) := by omega
            have p1 : (k : Int) < (lo.length : Int) := by omega
            clear hv hx
            have HM : Hid (∀ X, Calls Try.prog 31 #[.agg #[.int .i64 x.1, .int .i64 x.2]] X fun e w' => e = .returned (.bool (mayM x)) ∧ Below X.heap.size X w') := fun X => mailMay_any x X
            cases hmx : mayM x
            · have HE : Hid (∀ w', Below w.heap.size w w' → P (.returned (.tuple #[.slice none 0 0, .bool false])) w') := HNo.out (HBar.out (mayA_hit HX.out hmx))
              rw [hmx] at HM
              clear hmx
              go_wp2_with fail
              refine (HM.out _).mono ?_
              rintro e w2 ⟨rfl, hb2⟩
              have HX : Hid (P (.returned (.tuple #[.slice none 0 0, .bool false])) w2) := HE.out _ ((B0.out.trans (HB.out.mono (by omega))).trans (hb2.mono (by omega)))
              clear hb2
              go_wp2_with fail
              exact HX.out
            · have MY2 : Hid (mayA (lo.take (k + 1)) = true) := mayA_cut HX.out MY.out hmx
              have HT : Hid (lo.take (k + 1) = lo.take k ++ [x]) := take_snoc HX.out
              have hlk : (lo.take k).length ≤ 1000 := by simp; omega
              rw [hmx] at HM
              clear hmx
              go_wp2_with fail
              refine (HM.out _).mono ?_
              rintro e w2 ⟨rfl, hb2⟩
              have O2 : Hid (w2.ownsRow W0.heap.size 27 2 (.slice ua (lo.take k).length uc) (lo.take k).length ((lo.take k).flatMap encM)) := own_below OW.out hb2 (Nat.le_refl _)
              have B2 : Hid (Below W0.heap.size W0 w2) := HB.out.trans (hb2.mono hsr)
              have hs2 := B2.out.size
              have d1 := (hb2.cell (p := ⟨b, off + k * 2, none⟩) lt).trans c1
              have d2 := (hb2.cell (p := ⟨b, off + k * 2 + 1, none⟩) lt).trans c2
              obtain ⟨s0, s1, s2⟩ := (QR.out.below hb2 (by omega)).cells
              clear hb2 OW HB r0 r1 r2 c1 c2 QR
              generalize lo.take k = t at *
              go_wp2_with (at_builtin; refine wpList_append_newK kM rfl _ _ rfl W0.heap.size _ t rfl (O2.out.alloc _) w2.heap.size x rfl #[.int .i64 x.1, .int .i64 x.2] rfl (0, 0) (heap_alloc_new _ _) (by simp [kM]; omega) (by unfold maxLen; omega) (by simp; omega) ?_)
              intro g gc w3 hown3 hb3 _
              have O3 : Hid (w3.ownsRow W0.heap.size 27 2 (.slice (some ⟨g, 0, none⟩) (t.length + 1) gc) (lo.take (k + 1)).length ((lo.take (k + 1)).flatMap encM)) := by show World.ownsRow _ _ _ _ _ _ _; rw [HT.out]; simpa [kM] using hown3
              have B3 : Hid (Below W0.heap.size W0 w3) := (B2.out.alloc hs2 _).trans hb3
              clear hown3 hb3
              go_wp2_with fail
              go_roundw
              case rel => exact ⟨k + 1, by omega, by go_num, MY2.out, O3.out, B3.out⟩
              case measure => simp [intOf]; omega
          · have ek : lo.take k = lo := List.take_of_length_le (by omega)
            rw [ek] at MY OW ⊢
            have OQ : Hid (o = unpF (5000 - lo.length) rs) := HQ.out MY.out
            clear HQ HBar MY ek
            have OWl : Hid (wr.ownsRow W0.heap.size 27 2 (.slice ua lo.length uc) lo.length (lo.flatMap encM)) := OW.out
            have HZ : Hid (UpTo (5000 - lo.length) rs 0 []) := UpTo.zero _ _
            obtain ⟨R, hR1, hR2⟩ : ∃ R : Nat, lo.length + R ≤ 5000 ∧ 5000 ≤ lo.length + R ∧ 5000 - lo.length = R := ⟨5000 - lo.length, by omega, by omega, rfl⟩
            rw [hR2.2] at OQ HZ
            have hR3 := hR2.1
            clear hR2 OW
            go_wp2_with fail
            go_loopw [4, 6] (fun x i ws => ∃ (k : Nat) (f : List (List Ml)), k ≤ rs.length ∧ i = .int .i64 k ∧ UpTo R rs k f ∧ ws.ownsRow W0.heap.size 27 2 x (lo ++ f.flatten).length ((lo ++ f.flatten).flatMap encM) ∧ Below W0.heap.size W0 ws) (fun _ i _ => rs.length - (intOf i).toNat)
            case atStart => exact ⟨0, [], by omega, rfl, HZ.out, by simpa using OWl.out, HB.out⟩
            case round =>
              obtain ⟨j, f, hj, rfl, hto, hown, hbel⟩ := hrel
              have TO : Hid (UpTo R rs j f) := hto
              have OA : Hid (wr.ownsRow W0.heap.size 27 2 u4 (lo ++ f.flatten).length ((lo ++ f.flatten).flatMap encM)) := hown
              have HB1 : Hid (Below W0.heap.size W0 wr) := hbel
              have hsr1 := hbel.size
              obtain ⟨r0, r1, r2⟩ := (QQ.out.below hbel hs0).cells
              have QR1 : Hid (QX wr w.heap.size (.int .i64 n) (.slice a lo.length cap) (.slice c rs.length cap2)) := QQ.out.below hbel hs0
              have hsum := hto.2.1
              have hfl : (lo ++ f.flatten).length ≤ lo.length + sumM f := by rw [List.length_append, sumM_flat]; omega
              have hfl2 : lo.length + sumM f ≤ (lo ++ f.flatten).length := by rw [List.length_append, sumM_flat]; omega
              obtain ⟨va, vc, rfl⟩ := (MlR.ownd hown).shape
              clear hto hown hbel HZ OWl
              by_cases hlt2 : j < rs.length
              · obtain ⟨b, off, cap', e1, lt, _, _, hv⟩ := (R0.out.2.below HB1.out (Nat.le_refl _)).at (by omega)
                injection e1 with e1 e9 e8
                subst e1 e8
                clear e9
                obtain ⟨l, hl⟩ := getX hlt2
                obtain ⟨u, hu, hpr⟩ := hv j l hl
                have HK : Hid (rs[j]? = some l) := hl
                have HU : Hid (∀ X, Reads .u8 X u l → Calls Try.prog 45 #[u] X (RunP X ((runF l).getD []))) := fun X hX => runOf_any u l X hX (HBY.out l (List.mem_of_getElem? hl)).1 (HBY.out l (List.mem_of_getElem? hl)).2
                have HP : Hid (Reads .u8 wr u l) := hpr
                obtain ⟨xa, xc, rfl, _⟩ := id hpr
                have p0 : (0 : Int) ≤ (j : Int) := by omega
                have p1 : (j : Int) < (rs.length : Int) := by omega
                clear hl hv hpr
                cases hrf : runF l with
                | none =>
                  have HE : Hid (∀ w', Below w.heap.size w w' → P (.returned (.tuple #[.slice none 0 0, .bool false])) w') := HNo.out (OQ.out.trans (TO.out.bad HK.out hrf))
                  rw [hrf] at HU
                  clear hrf
                  generalize (lo ++ f.flatten).length = tl at *
                  go_wp2_with fail
                  refine (HU.out _ HP.out).mono ?_
                  rintro e w2 ⟨v2, rfl, ho2, hb2⟩
                  have HX : Hid (P (.returned (.tuple #[.slice none 0 0, .bool false])) w2) := HE.out _ ((B0.out.trans (HB1.out.mono (by omega))).trans (hb2.mono (by omega)))
                  obtain ⟨ya, yc, rfl⟩ := (MlR.ownd (show w2.ownsRow wr.heap.size 27 2 v2 ([] : List Ml).length (([] : List Ml).flatMap encM) from ho2)).shape
                  clear hb2 ho2
                  go_wp2_with fail
                  exact HX.out
                | some x =>
                  obtain ⟨hx1, hx2, _, _⟩ := runF_inv hrf
                  rw [hrf] at HU
                  have hx0 : ((x.length : Int) == 0) = false := by
                    rw [beq_eq_false_iff_ne]
                    omega
                  by_cases hx : sumM f + x.length ≤ R
                  · have TO2 : Hid (UpTo R rs (j + 1) (f ++ [x])) := TO.out.step HK.out hrf hx
                    have HF : Hid (lo ++ (f ++ [x]).flatten = lo ++ f.flatten ++ x) := by show _ = _; simp
                    have htx : (lo ++ f.flatten).length + x.length ≤ 5000 := by omega
                    clear hrf hx TO hfl hfl2 hsum
                    generalize lo ++ f.flatten = t at *
                    obtain ⟨tx, htw, ht5⟩ : ∃ tx : Int, IntKind.i64.wrap ((t.length : Int) + (x.length : Int)) = tx ∧ ¬ 5000 < tx := ⟨_, rfl, by rw [IntKind.wrap_i64]; omega⟩
                    go_wp2_with fail
                    refine (HU.out _ HP.out).mono ?_
                    rintro e w2 ⟨v2, rfl, ho2, hb2⟩
                    have OX : Hid (w2.ownsRow wr.heap.size 27 2 v2 x.length (x.flatMap encM)) := ho2
                    have O2 : Hid (w2.ownsRow W0.heap.size 27 2 (.slice va t.length vc) t.length (t.flatMap encM)) := own_below OA.out hb2 (Nat.le_refl _)
                    have B2 : Hid (Below W0.heap.size W0 w2) := HB1.out.trans (hb2.mono hsr1)
                    have AP : Hid (AptM v2 (.slice va t.length vc)) := fun g g1 g2 => by
                      have k1 := (own_geM ho2 g1).1
                      have k2 := (own_geM OA.out g2).2
                      omega
                    obtain ⟨ya, yc, rfl⟩ := (MlR.ownd OX.out).shape
                    obtain ⟨WB, OB⟩ : ∃ WB : Nat, Hid (w2.ownsRow WB 27 2 (.slice ya x.length yc) x.length (x.flatMap encM)) := ⟨_, OX⟩
                    clear ho2 hb2 OA HB1 r0 r1 r2 OX
                    go_wp2_with fail
                    go_loopw [4, 8] (fun y i ws => ∃ (i2 : Nat), i2 ≤ x.length ∧ i = .int .i64 i2 ∧ ws.ownsRow W0.heap.size 27 2 y (t ++ x.take i2).length ((t ++ x.take i2).flatMap encM) ∧ ws.ownsRow WB 27 2 (.slice ya x.length yc) x.length (x.flatMap encM) ∧ AptM (.slice ya x.length yc) y ∧ Below W0.heap.size W0 ws) (fun _ i _ => x.length - (intOf i).toNat)
                    case atStart => exact ⟨0, by omega, rfl, by simpa using O2.out, OB.out, AP.out, B2.out⟩
                    case round =>
                      obtain ⟨m, hm, rfl, hown, hox, hap, hbel⟩ := hrel
                      have O3 : Hid (wr.ownsRow W0.heap.size 27 2 u4 (t ++ x.take m).length ((t ++ x.take m).flatMap encM)) := hown
                      have OX3 : Hid (wr.ownsRow WB 27 2 (.slice ya x.length yc) x.length (x.flatMap encM)) := hox
                      have AP3 : Hid (AptM (.slice ya x.length yc) u4) := hap
                      have B3 : Hid (Below W0.heap.size W0 wr) := hbel
                      have hs3 := hbel.size
                      obtain ⟨za, zc, rfl⟩ := (MlR.ownd hown).shape
                      clear hown hbel hap hox OB O2 B2 AP
                      by_cases hlt3 : m < x.length
                      · obtain ⟨b2, off2, cap3, e1, _, _, lt2, hv⟩ := MlR.at (MlR.ownd OX3.out) (by omega)
                        injection e1 with e1 e9 e8
                        subst e1 e8
                        clear e9
                        obtain ⟨z, hz⟩ := getX hlt3
                        obtain ⟨c1, c2⟩ := hv m z hz
                        have HT : Hid (t ++ x.take (m + 1) = (t ++ x.take m) ++ [z]) := by show _ = _; rw [take_snoc hz, List.append_assoc]
                        have hlk : (t ++ x.take m).length ≤ 5000 := by simp; omega
                        have p2 : (0 : Int) ≤ (m : Int) := by omega
                        have p3 : (m : Int) < (x.length : Int) := by omega
                        clear hv hz
                        generalize t ++ x.take m = tm at *
                        go_wp2_with (at_builtin; refine wpList_append_atK kM rfl _ _ rfl W0.heap.size _ tm rfl (O3.out.alloc _) wr.heap.size z rfl #[.int .i64 z.1, .int .i64 z.2] rfl (0, 0) (heap_alloc_new _ _) (by simp [kM]; omega) (by unfold maxLen; omega) (by simp; omega) ?_)
                        intro g gc w4 hown4 hb4 hg4 hl4
                        have O4 : Hid (w4.ownsRow W0.heap.size 27 2 (.slice (some ⟨g, 0, none⟩) (tm.length + 1) gc) (t ++ x.take (m + 1)).length ((t ++ x.take (m + 1)).flatMap encM)) := by show World.ownsRow _ _ _ _ _ _ _; rw [HT.out]; simpa [kM] using hown4
                        have B4 : Hid (Below W0.heap.size W0 w4) := (B3.out.alloc hs3 _).trans hb4
                        have OX4 : Hid (w4.ownsRow WB 27 2 (.slice (some ⟨b2, off2, none⟩) x.length yc) x.length (x.flatMap encM)) := (OX3.out.alloc _).kept hg4 AP3.out.or
                        have AP4 : Hid (AptM (.slice (some ⟨b2, off2, none⟩) x.length yc) (.slice (some ⟨g, 0, none⟩) (tm.length + 1) gc)) := fun q k1 k2 => by
                          injection k2 with k2
                          rcases hl4 with h4 | h4
                          · exact AP3.out q k1 (by rw [h4, ← k2])
                          · have := (own_geM OX3.out k1).2
                            have h5 : wr.heap.size ≤ g := by rw [h4]; simp
                            have h6 : g = q := k2
                            omega
                        clear hown4 hb4 hg4 hl4
                        go_wp2_with fail
                        go_roundw
                        case rel => exact ⟨m + 1, by omega, by go_num, O4.out, OX4.out, AP4.out, B4.out⟩
                        case measure => simp [intOf]; omega
                      · have ek : x.take m = x := List.take_of_length_le (by omega)
                        have O4 : Hid (wr.ownsRow W0.heap.size 27 2 (.slice za (t ++ x.take m).length zc) (lo ++ (f ++ [x]).flatten).length ((lo ++ (f ++ [x]).flatten).flatMap encM)) := by
                          show World.ownsRow _ _ _ _ _ _ _
                          have h := O3.out
                          rw [HF.out]
                          rw [ek] at h ⊢
                          exact h
                        clear ek O3
                        generalize (t ++ x.take m).length = tl at *
                        go_wp2_with fail
                        go_roundw
                        case rel => exact ⟨j + 1, f ++ [x], by omega, by go_num, TO2.out, O4.out, B3.out⟩
                        case measure => simp [intOf]; omega
                  · have HE : Hid (∀ w', Below w.heap.size w w' → P (.returned (.tuple #[.slice none 0 0, .bool false])) w') := HNo.out (OQ.out.trans (TO.out.much HK.out hrf (by omega)))
                    have htx : 5000 < (lo ++ f.flatten).length + x.length := by omega
                    have hty : (lo ++ f.flatten).length + x.length ≤ 7000 := by omega
                    clear hrf hx TO hfl hfl2 hsum OA
                    generalize (lo ++ f.flatten).length = tl at *
                    obtain ⟨tx, htw, ht5⟩ : ∃ tx : Int, IntKind.i64.wrap ((tl : Int) + (x.length : Int)) = tx ∧ 5000 < tx := ⟨_, rfl, by rw [IntKind.wrap_i64]; omega⟩
                    go_wp2_with fail
                    refine (HU.out _ HP.out).mono ?_
                    rintro e w2 ⟨v2, rfl, ho2, hb2⟩
                    have HX : Hid (P (.returned (.tuple #[.slice none 0 0, .bool false])) w2) := HE.out _ ((B0.out.trans (HB1.out.mono (by omega))).trans (hb2.mono (by omega)))
                    obtain ⟨ya, yc, rfl⟩ := (MlR.ownd (show w2.ownsRow wr.heap.size 27 2 v2 x.length (x.flatMap encM) from ho2)).shape
                    clear hb2 ho2
                    go_wp2_with fail
                    exact HX.out
              · have HX : Hid (P (.returned (.tuple #[.slice va (lo ++ f.flatten).length vc, .bool true])) wr) := HYes.out f (OQ.out.trans (TO.out.done (by omega))) _ _ (own_lower OA.out (by omega)) (B0.out.trans (HB1.out.mono (by omega)))
                clear TO OA hfl hfl2
                generalize (lo ++ f.flatten).length = tl at *
                go_wp2_with fail
                exact HX.out
      · have HE : Hid (∀ w', Below w.heap.size w w' → QdP w lo (quF n lo rs) (.returned (.tuple #[.slice none 0 0, .bool false])) w') := HNo.out (quF_runs h3)
        generalize QdP w lo (quF n lo rs) = P at *
        have hin := in_yes h0
        rw [hin] at HI
        have e2 : ¬ n ≤ (lo.length : Int) := by omega
        have e3 : (5000 : Int) < (rs.length : Int) := by omega
        clear hin HNo HYes
        go_enter Try.func30, Try.ntmps30
        go_wp2_with fail
        refine (HI.out _).mono ?_
        rintro e w1 ⟨rfl, rfl⟩
        go_wp2_with fail
        exact HE.out _ (hb _)
    · have HE : Hid (∀ w', Below w.heap.size w w' → QdP w lo (quF n lo rs) (.returned (.tuple #[.slice none 0 0, .bool false])) w') := HNo.out (quF_loose h2)
      generalize QdP w lo (quF n lo rs) = P at *
      have hin := in_yes h0
      rw [hin] at HI
      have e2 : n ≤ (lo.length : Int) := by omega
      clear hin HNo HYes
      go_enter Try.func30, Try.ntmps30
      go_wp2_with fail
      refine (HI.out _).mono ?_
      rintro e w1 ⟨rfl, rfl⟩
      go_wp2_with fail
      exact HE.out _ (hb _)
  · have HE : Hid (∀ w', Below w.heap.size w w' → QdP w lo (quF n lo rs) (.returned (.tuple #[.slice none 0 0, .bool false])) w') := HNo.out (quF_budget h0)
    generalize QdP w lo (quF n lo rs) = P at *
    have hin := in_no h0
    rw [hin] at HI
    clear hin HNo HYes
    go_enter Try.func30, Try.ntmps30
    go_wp2_with fail
    refine (HI.out _).mono ?_
    rintro e w1 ⟨rfl, rfl⟩
    go_wp2_with fail
    exact HE.out _ (hb _)
end Go.Proofs.Ytihghhmhgakkaaa

namespace Go.Proofs.Ytihghhmhgakkaaa
set_option maxRecDepth 100000
open Go.ChangeShapes Go.WideShapes Go.ChangeAt Go.RowKit

/-- What Count answers. -/
def CntP (w : World) (lo : List Ml) (o : Option (List (List Ml))) (e : Ending) (w' : World) : Prop := e = .returned (.tuple #[.int .i64 (countF lo o : Nat), .int .i64 (errQ o)]) ∧ Below w.heap.size w w'

set_option maxHeartbeats 1000000 in
set_option maxRecDepth 100000 in
theorem queueCount_any (n : Int) (vl vr : Value) (lo : List Ml) (rs : List (List Int)) (w : World) (h : QuR w vl vr lo rs) (hB : QuB lo rs) :
    Calls Try.prog 16 #[.agg #[.int .i64 n, vl, vr]] w (CntP w lo (quF n lo rs)) := by
  have HR : Hid (QuR w vl vr lo rs) := h
  have HU : Hid (∀ X, QuR X vl vr lo rs → Calls Try.prog 25 #[.agg #[.int .i64 n, vl, vr]] X (UnpP X (quF n lo rs))) := fun X hX => unpackAll_any n vl vr lo rs X hX hB
  have HQ : Hid (∀ f, quF n lo rs = some f → lo.length + sumM f ≤ 5000) := fun f hf => (quF_inv hf).2.2.2.2.2.2.1
  obtain ⟨a, cap, rfl⟩ := h.1.shape
  obtain ⟨c, cap2, rfl, _⟩ := id h.2
  clear h hB
  generalize quF n lo rs = o at *
  have hb : ∀ o, Below w.heap.size w (w.alloc o) := fun o => below_alloc w o
  cases o with
  | none =>
    have HE : Hid (∀ w', Below w.heap.size w w' → CntP w lo none (.returned (.tuple #[.int .i64 0, .int .i64 9])) w') := fun w' hw => ⟨rfl, hw⟩
    generalize CntP w lo none = P at *
    go_enter Try.func16, Try.ntmps16
    go_wp2_with fail
    refine (HU.out _ (HR.out.below (hb _) (Nat.le_refl _))).mono ?_
    rintro e w1 ⟨v1, rfl, ho, hb1⟩
    have HX : Hid (P (.returned (.tuple #[.int .i64 0, .int .i64 9])) w1) := HE.out w1 ((hb _).trans (hb1.mono (by simp)))
    clear hb1 ho
    unfold errQ
    go_wp2_with fail
    exact HX.out
  | some f =>
    have hs := HQ.out f rfl
    have HE : Hid (∀ w', Below w.heap.size w w' → CntP w lo (some f) (.returned (.tuple #[.int .i64 (lo.length + sumM f : Nat), .int .i64 0])) w') := fun w' hw => ⟨rfl, hw⟩
    generalize CntP w lo (some f) = P at *
    go_enter Try.func16, Try.ntmps16
    go_wp2_with fail
    refine (HU.out _ (HR.out.below (hb _) (Nat.le_refl _))).mono ?_
    rintro e w1 ⟨v1, rfl, ho, hb1⟩
    have hb1' : Below (w.heap.size + 1) (w.alloc (.cells #[.int .i64 n, .slice a lo.length cap, .slice c rs.length cap2] 25)) w1 := by simpa using hb1
    obtain ⟨q0, q1, q2⟩ := ((QX.new w (.int .i64 n) (.slice a lo.length cap) (.slice c rs.length cap2)).below hb1' (Nat.lt_succ_self _)).cells
    have HX : Hid (∀ w', Below w1.heap.size w1 w' → P (.returned (.tuple #[.int .i64 (lo.length + sumM f : Nat), .int .i64 0])) w') := fun w' hw => HE.out w' ((box_below hb1').trans (hw.mono (box_below hb1').size))
    have HL : Hid (LmR w1 v1 f) := ho.reads
    obtain ⟨fa, fc, rfl⟩ : ∃ a c, v1 = .slice a f.length c := by obtain ⟨a, c, e, _⟩ := ho.reads; exact ⟨a, c, e⟩
    have hadd : IntKind.i64.wrap ((lo.length : Int) + (sumM f : Nat)) = ((lo.length + sumM f : Nat) : Int) := by rw [IntKind.wrap_i64]; omega
    have HC : Hid (∀ X, LmR X (.slice fa f.length fc) f → Calls Try.prog 27 #[.slice fa f.length fc] X fun e w' => e = .returned (.int .i64 (sumM f : Nat)) ∧ w' = X) := fun X hX => countQ_any _ f X hX (by omega)
    clear hb1 hb1' ho HU HR
    generalize lo.length + sumM f = tot at *
    generalize sumM f = sf at *
    unfold errQ
    go_wp2_with fail
    go_quiet ((go_at_call 27; exact Calls.quiet_of_same (HC.out _ HL.out)))
    have HY : Hid (∀ m, P (.returned (.tuple #[.int .i64 (tot : Nat), .int .i64 0])) (w1.drewN m)) := fun m => HX.out _ (below_drewN (Below.refl _ _) m)
    go_wp2_with fail
    exact HY.out _
end Go.Proofs.Ytihghhmhgakkaaa

namespace Go.Proofs.Ytihghhmhgakkaaa
set_option maxRecDepth 100000
open Go.ChangeShapes Go.WideShapes Go.ChangeAt Go.RowKit

set_option maxHeartbeats 1000000 in
set_option maxRecDepth 100000 in
theorem refCount_any (n : Int) (vl vr : Value) (lo : List Ml) (rs : List (List Int)) (w : World) (h : QuR w vl vr lo rs) (hB : QuB lo rs) :
    Calls Try.prog 17 #[.agg #[.int .i64 n, vl, vr]] w (CntP w lo (quF n lo rs)) := by
  have HR : Hid (QuR w vl vr lo rs) := h
  have HU : Hid (∀ X, QuR X vl vr lo rs → Calls Try.prog 30 #[.agg #[.int .i64 n, vl, vr]] X (QdP X lo (quF n lo rs))) := fun X hX => queued_any n vl vr lo rs X hX hB
  obtain ⟨a, cap, rfl⟩ := h.1.shape
  obtain ⟨c, cap2, rfl, _⟩ := id h.2
  clear h hB
  generalize quF n lo rs = o at *
  have hb : ∀ o, Below w.heap.size w (w.alloc o) := fun o => below_alloc w o
  cases o with
  | none =>
    have HE : Hid (∀ w', Below w.heap.size w w' → CntP w lo none (.returned (.tuple #[.int .i64 0, .int .i64 9])) w') := fun w' hw => ⟨rfl, hw⟩
    generalize CntP w lo none = P at *
    go_enter Try.func17, Try.ntmps17
    go_wp2_with fail
    refine (HU.out _ (HR.out.below (hb _) (Nat.le_refl _))).mono ?_
    rintro e w1 ⟨v1, rfl, ho, hb1⟩
    have HX : Hid (P (.returned (.tuple #[.int .i64 0, .int .i64 9])) w1) := HE.out w1 ((hb _).trans (hb1.mono (by simp)))
    clear hb1 ho
    rw [Option.isSome_none]
    go_wp2_with fail
    exact HX.out
  | some f =>
    have HE : Hid (∀ w', Below w.heap.size w w' → CntP w lo (some f) (.returned (.tuple #[.int .i64 ((allQ lo (some f)).length : Nat), .int .i64 0])) w') := fun w' hw => ⟨by
      show _ = Ending.returned (.tuple #[.int .i64 ((lo.length + sumM f : Nat) : Int), .int .i64 0])
      rw [show (allQ lo (some f)).length = lo.length + sumM f by unfold allQ; rw [List.length_append, sumM_flat]], hw⟩
    generalize CntP w lo (some f) = P at *
    go_enter Try.func17, Try.ntmps17
    go_wp2_with fail
    refine (HU.out _ (HR.out.below (hb _) (Nat.le_refl _))).mono ?_
    rintro e w1 ⟨v1, rfl, ho, hb1⟩
    have HX : Hid (P (.returned (.tuple #[.int .i64 ((allQ lo (some f)).length : Nat), .int .i64 0])) w1) := HE.out w1 ((hb _).trans (hb1.mono (by simp)))
    obtain ⟨ya, yc, rfl⟩ := (MlR.ownd ho).shape
    clear hb1 ho HE HU
    generalize (allQ lo (some f)).length = tl at *
    rw [Option.isSome_some]
    go_wp2_with fail
    exact HX.out

set_option maxHeartbeats 1000000 in
set_option maxRecDepth 100000 in
theorem refDrained_any (n : Int) (vl vr : Value) (lo : List Ml) (rs : List (List Int)) (w : World) (h : QuR w vl vr lo rs) (hB : QuB lo rs) :
    Calls Try.prog 14 #[.agg #[.int .i64 n, vl, vr]] w (RefP w (errQ (quF n lo rs)) (drainF lo (quF n lo rs))) := by
  have HR : Hid (QuR w vl vr lo rs) := h
  have HU : Hid (∀ X, QuR X vl vr lo rs → Calls Try.prog 30 #[.agg #[.int .i64 n, vl, vr]] X (QdP X lo (quF n lo rs))) := fun X hX => queued_any n vl vr lo rs X hX hB
  have HQ : Hid (∀ f, quF n lo rs = some f → lo.length + sumM f ≤ 5000) := fun f hf => (quF_inv hf).2.2.2.2.2.2.1
  obtain ⟨a, cap, rfl⟩ := h.1.shape
  obtain ⟨c, cap2, rfl, _⟩ := id h.2
  clear h hB
  generalize quF n lo rs = o at *
  have hb : ∀ o, Below w.heap.size w (w.alloc o) := fun o => below_alloc w o
  cases o with
  | none =>
    have HE : Hid (∀ w', Below w.heap.size w w' → RefP w (errQ (none : Option (List (List Ml)))) (drainF lo none) (.returned (.tuple #[.slice none 0 0, .int .i64 9])) w') := fun w' hw => RefP.no (by decide) hw
    generalize RefP w (errQ (none : Option (List (List Ml)))) (drainF lo none) = P at *
    go_enter Try.func14, Try.ntmps14
    go_wp2_with fail
    refine (HU.out _ (HR.out.below (hb _) (Nat.le_refl _))).mono ?_
    rintro e w1 ⟨v1, rfl, ho, hb1⟩
    have HX : Hid (P (.returned (.tuple #[.slice none 0 0, .int .i64 9])) w1) := HE.out w1 ((hb _).trans (hb1.mono (by simp)))
    clear hb1 ho
    rw [Option.isSome_none]
    go_wp2_with fail
    exact HX.out
  | some f =>
    have hs := HQ.out f rfl
    have HE : Hid (∀ v w', w'.ownsRow w.heap.size 27 2 v (sortM (lo ++ f.flatten)).length ((sortM (lo ++ f.flatten)).flatMap encM) → Below w.heap.size w w' → RefP w (errQ (some f)) (drainF lo (some f)) (.returned (.tuple #[v, .int .i64 0])) w') := fun v w' ho hw => RefP.yes ho hw
    generalize RefP w (errQ (some f)) (drainF lo (some f)) = P at *
    have hl5 : (lo ++ f.flatten).length ≤ 5000 := by rw [List.length_append, sumM_flat]; exact hs
    go_enter Try.func14, Try.ntmps14
    go_wp2_with fail
    refine (HU.out _ (HR.out.below (hb _) (Nat.le_refl _))).mono ?_
    rintro e w1 ⟨v1, rfl, ho, hb1⟩
    have B1 : Hid (Below w.heap.size w w1) := (hb _).trans (hb1.mono (by simp))
    have M1 : Hid (MlR w1 v1 (lo ++ f.flatten)) := MlR.ownd ho
    obtain ⟨ya, yc, rfl⟩ := M1.out.shape
    clear hb1 ho HU
    rw [Option.isSome_some]
    generalize lo ++ f.flatten = t at *
    go_wp2_with fail
    refine (refMails_any _ t _ M1.out hl5).mono ?_
    rintro e w2 ⟨v2, rfl, ho2, hb2⟩
    have HX : Hid (P (.returned (.tuple #[v2, .int .i64 0])) w2) := HE.out v2 w2 (own_lower ho2 B1.out.size) (B1.out.trans (hb2.mono B1.out.size))
    clear ho2 hb2
    go_wp2_with fail
    exact HX.out
end Go.Proofs.Ytihghhmhgakkaaa

namespace Go.Proofs.Ytihghhmhgakkaaa
set_option maxRecDepth 100000
open Go.ChangeShapes Go.WideShapes Go.ChangeAt Go.RowKit Go.Sort

set_option maxHeartbeats 1000000 in
set_option maxRecDepth 100000 in
theorem sameMails_yes (va vb : Value) (es : List Ml) (w : World) (ha : MlR w va es) (hb : MlR w vb es) :
    Calls Try.prog 15 #[va, vb] w fun e w' => e = .returned (.bool true) ∧ Below w.heap.size w w' := by
  have HA : Hid (MlR w va es) := ha
  have HB : Hid (MlR w vb es) := hb
  obtain ⟨a, ca, rfl, hca, hma, _, _⟩ := ha
  obtain ⟨b, cb, rfl, hcb, hmb, _, _⟩ := hb
  unfold maxLen at hma hmb
  have hll : ((es.length : Int) != (es.length : Int)) = false := by simp
  go_enter Try.func15, Try.ntmps15
  go_wp2_with fail
  go_loopw [5] (fun i wr => ∃ k : Nat, k ≤ es.length ∧ i = .int .i64 k ∧ Below w.heap.size w wr) (fun i _ => es.length - (intOf i).toNat)
  case atStart => exact ⟨0, by omega, rfl, Below.refl _ _⟩
  case round =>
    obtain ⟨k, hk, rfl, hbel⟩ := hrel
    have HBL : Hid (Below w.heap.size w wr) := hbel
    clear hbel
    by_cases hlt : k < es.length
    · obtain ⟨xa, oa, cap', e1, _, _, la, hva⟩ := MlR.at (HA.out.below HBL.out (Nat.le_refl _)) (by omega)
      injection e1 with e1 _ e3
      subst e1 e3
      obtain ⟨xb, ob, cap', e1, _, _, lb, hvb⟩ := MlR.at (HB.out.below HBL.out (Nat.le_refl _)) (by omega)
      injection e1 with e1 _ e3
      subst e1 e3
      obtain ⟨x, hx⟩ := getX hlt
      have p0 : (0 : Int) ≤ (k : Int) := by omega
      have p1 : (k : Int) < (es.length : Int) := by omega
      obtain ⟨c1, c2⟩ := hva k x hx
      obtain ⟨d1, d2⟩ := hvb k x hx
      obtain ⟨xt, xc⟩ := x
      simp only at c1 c2 d1 d2
      clear hva hvb hx
      go_wp2_with fail
      go_quiet (fail)
      go_wp2_with fail
      go_roundw
      case rel => exact ⟨k + 1, by omega, by go_num, below_drewN HBL.out _⟩
      case measure => simp [intOf]; omega
    · go_wp2_with fail
      go_ret
      exact ⟨rfl, HBL.out⟩


set_option maxHeartbeats 1000000 in
theorem mails_any (v : Value) (es : List Ml) (w : World) (h : MlR w v es) (hl : es.length * 16 ≤ 140737488351232) :
    Calls Try.prog 23 #[v] w fun e w' => ∃ v', e = .returned v' ∧ w'.ownsRow w.heap.size 27 2 v' es.length (es.flatMap encM) ∧ Below w.heap.size w w' := by
  have HR : Hid (MlR w v es) := h
  obtain ⟨a, cap, rfl, hc, hm, _, _⟩ := h
  unfold maxLen at hm
  go_enter Try.func23, Try.ntmps23
  go_wp2_with (at_builtin; refine wpList_append_rowK kM rfl _ _ rfl w.heap.size _ ([] : List Ml) rfl (World.ownsRow_nil _ _ _ _) _ es rfl HR.out ?d1 ?d2 (Nat.le_refl _) ?_)
  case d1 => simp [kM]; omega
  case d2 => simp [maxLen]; omega
  intro v' w' hown hb _
  have OW : Hid (w'.ownsRow w.heap.size 27 2 v' es.length (es.flatMap encM)) := by
    show World.ownsRow _ _ _ _ _ _ _
    simpa [kM] using hown
  have HB : Hid (Below w.heap.size w w') := hb
  clear hown hb
  go_wp2_with fail
  go_ret
  exact ⟨_, rfl, OW.out, HB.out⟩
end Go.Proofs.Ytihghhmhgakkaaa

namespace Go.Proofs.Ytihghhmhgakkaaa
set_option maxRecDepth 100000
open Go.ChangeShapes Go.WideShapes Go.ChangeAt Go.RowKit

set_option maxHeartbeats 400000 in
theorem octets_any (v : Value) (xs : List Int) (w : World) (h : Reads .u8 w v xs) (hl : xs.length ≤ 140737488355328) :
    Calls Try.prog 24 #[v] w fun e w' =>
      ∃ v', e = .returned v' ∧ w'.ownsRow w.heap.size 5 1 v' xs.length (xs.map (Value.int .u8)) ∧ Below w.heap.size w w' := by
  obtain ⟨i0, hi, hz0, hz1, hz2⟩ := info_parts Try.info5
  obtain ⟨a, cap, rfl, hc, hm, ha, hcell⟩ := h
  cases a with
  | none =>
    have hcap := ha rfl
    have : xs = [] := List.eq_nil_of_length_eq_zero (by omega)
    subst this
    subst hcap
    clear hcell ha
    go_enter Try.func24, Try.ntmps24
    go_wp2_with (at_builtin; refine wpList_append_own_none rfl _ _ 50 rfl w.heap.size 5 i0 1 Try.underlying50 hi _ 0 [] rfl (World.ownsRow_nil _ _ _ _) rfl ?_)
    go_ret
    exact ⟨_, rfl, World.ownsRow_nil _ _ _ _, Below.refl _ _⟩
  | some x =>
    have HN : Hid (∀ (j : Nat) (u : Value), (xs.map (Value.int IntKind.u8))[j]? = some u → w.cell? (x.add j) = some u) := fun j u hj => by
      obtain ⟨hj1, rfl⟩ := getD_map hj
      exact hcell x rfl j hj1
    clear hcell ha
    go_enter Try.func24, Try.ntmps24
    go_wp2_with (at_builtin; refine wpList_append_own _ rfl _ _ 50 rfl w.heap.size 5 i0 (.int .u8 0) 1 1 Try.underlying50 hi hz0 hz1 hz2 rfl (by decide) _ 0 [] rfl (World.ownsRow_nil _ _ _ _) x xs.length cap (xs.map (Value.int .u8)) rfl (by simp) HN.out (bytes_oneCell _) ?d3 ?d4 ?d5 ?_)
    case d3 => unfold maxLen; simp; omega
    case d4 => simp; omega
    case d5 => exact Nat.le_refl _
    intro v' w1 hown' hgrow _
    have hbel : Below w.heap.size w w1 := (Below.refl _ _).grown hgrow (Nat.le_refl _) (fun k hk => by simp [Value.ownBlock] at hk)
    clear HN
    go_wp2
    go_ret
    exact ⟨v', rfl, by simpa using hown', hbel⟩
end Go.Proofs.Ytihghhmhgakkaaa

namespace Go.Proofs.Ytihghhmhgakkaaa
set_option maxRecDepth 100000
open Go.RowKit

/-- What the others must come to. -/
def postLast (P : Program) (o : Oper) (Q : Exit → Act → World → Prop) : Exit → Act → World → Prop
  | .normal, a, w => o.wp P a w (fun a' w' => Q .normal a' w') Q
  | e, a, w => Q e a w

/-- Each of the others waits for earlier ones alone; the last one waits for all. -/
def lastOK (md : Region.Mode) (ops : Array Oper) (o : Oper) : Bool :=
  o.guard.isNone && (List.range ops.size).all fun i =>
    (match ops[i]? with
      | some x => x.guard.isNone && x.after.toList.all (fun e => !Region.binds md e || decide (e.on < i))
      | none => false) && o.after.toList.any (fun e => Region.binds md e && e.on == i)
def lastIn (md : Region.Mode) (n : Nat) (o : Oper) : Bool := o.after.toList.all fun e => !Region.binds md e || decide (e.on < n)

section
variable {P : Program} {md : Region.Mode} {ops : Array Oper} {o : Oper} {Q : Exit → Act → World → Prop}

theorem wp_postLast {x : Oper} {a : Act} {w : World} {K : Act → World → Prop} (h : x.wp P a w K (postLast P o Q)) : x.wp P a w K Q := by
  unfold Oper.wp at *
  generalize (execOp a.eval x).run P w = r at *
  cases r with
  | ok n w' => cases n <;> exact h
  | halt e w' => cases e <;> exact h
theorem letsOut_postLast (h : LetsOut (postLast P o Q)) : LetsOut Q := h

theorem lastOK_guard (h : lastOK md ops o = true) : o.guard = none := by
  unfold lastOK at h
  rw [Bool.and_eq_true] at h
  simpa using h.1
theorem lastOK_at (h : lastOK md ops o = true) {i : Nat} {x : Oper} (hx : ops[i]? = some x) : x.guard = none ∧ (∀ e ∈ x.after, Region.binds md e = true → e.on < i) ∧ ∃ e ∈ o.after, Region.binds md e = true ∧ e.on = i := by
  unfold lastOK at h
  rw [Bool.and_eq_true] at h
  have hi : i < ops.size := (Array.getElem?_eq_some_iff.1 hx).1
  have := List.all_eq_true.1 h.2 i (List.mem_range.2 hi)
  rw [hx] at this
  simp only [Bool.and_eq_true] at this
  obtain ⟨⟨h1, h2⟩, h3⟩ := this
  refine ⟨by simpa using h1, fun e he hb => ?_, ?_⟩
  · have := List.all_eq_true.1 h2 e (Array.mem_toList_iff.2 he)
    rw [hb] at this
    simpa using this
  · obtain ⟨e, he, hb⟩ := List.any_eq_true.1 h3
    simp only [Bool.and_eq_true, beq_iff_eq] at hb
    exact ⟨e, Array.mem_toList_iff.1 he, hb.1, hb.2⟩

theorem getD_push_lt {l : Array Bool} {b d : Bool} {j : Nat} (h : j < l.size) : (l.push b).getD j d = l.getD j d := by
  simp [Array.getD, Array.getElem_push_lt h, h, Nat.lt_succ_of_lt h]
theorem getD_push_eq {l : Array Bool} {b d : Bool} : (l.push b).getD l.size d = b := by simp [Array.getD]
theorem getD_dflt {l : Array Bool} {j : Nat} (h : j < l.size) (d d' : Bool) : l.getD j d = l.getD j d' := by simp [Array.getD, h]

theorem ready_push {l : Array Bool} {b : Bool} (hs : l.size = ops.size) (h : lastOK md ops o = true) {j : Nat} (hj : j < ops.size) : j ∈ Region.ready md (ops.push o) (l.push b) ↔ j ∈ Region.ready md ops l := by
  rw [mem_ready, mem_ready, getD_push_lt (by omega)]
  have e : (ops.push o)[j]? = ops[j]? := by simp [Array.getElem?_push, Nat.ne_of_lt hj]
  rw [e]
  refine and_congr_right fun _ => ⟨?_, ?_⟩
  · rintro ⟨x, hx, ha⟩
    refine ⟨x, hx, fun e he hb => ?_⟩
    have := (lastOK_at h hx).2.1 e he hb
    have h2 := ha e he hb
    rwa [getD_push_lt (by omega)] at h2
  · rintro ⟨x, hx, ha⟩
    refine ⟨x, hx, fun e he hb => ?_⟩
    have := (lastOK_at h hx).2.1 e he hb
    rw [getD_push_lt (by omega)]
    exact ha e he hb
/-- Where nothing may come up, all have. -/
theorem ready_all {l : Array Bool} (hs : l.size = ops.size) (h : lastOK md ops o = true) (h0 : Region.ready md ops l = []) : ∀ j, j < ops.size → l.getD j false = true := by
  intro j
  induction j using Nat.strongRecOn with
  | _ j ih =>
    intro hj
    cases hl : l.getD j false
    · exfalso
      have : j ∈ Region.ready md ops l := by
        rw [mem_ready]
        refine ⟨by rw [getD_dflt (by omega) true false]; exact hl, ops[j], by simp [hj], fun e he hb => ?_⟩
        have := (lastOK_at h (Array.getElem?_eq_getElem hj)).2.1 e he hb
        exact ih e.on this (by omega)
      rw [h0] at this
      cases this
    · rfl
theorem ready_last {l : Array Bool} (hs : l.size = ops.size) (hin : lastIn md ops.size o = true) (hall : ∀ j, j < ops.size → l.getD j false = true) : ops.size ∈ Region.ready md (ops.push o) (l.push false) := by
  rw [mem_ready]
  refine ⟨by rw [← hs]; exact getD_push_eq, o, by simp, fun e he hb => ?_⟩
  have := List.all_eq_true.1 hin e (Array.mem_toList_iff.2 he)
  rw [hb] at this
  have hlt : e.on < ops.size := by simpa using this
  rw [getD_push_lt (by omega)]
  exact hall e.on hlt
theorem last_ready {l : Array Bool} (hs : l.size = ops.size) (h : lastOK md ops o = true) (hr : ops.size ∈ Region.ready md (ops.push o) (l.push false)) : Region.ready md ops l = [] := by
  rw [mem_ready] at hr
  obtain ⟨_, x, hx, ha⟩ := hr
  have ex : x = o := by simpa using hx.symm
  subst ex
  refine List.eq_nil_iff_forall_not_mem.2 fun j hj => ?_
  rw [mem_ready] at hj
  obtain ⟨h1, y, hy, _⟩ := hj
  have hjn : j < ops.size := (Array.getElem?_eq_some_iff.1 hy).1
  obtain ⟨_, _, e, he, hb, hon⟩ := lastOK_at h hy
  have := ha e he hb
  rw [hon, getD_push_lt (by omega), getD_dflt (by omega) false true, h1] at this
  cases this
theorem ready_done {l : Array Bool} (hs : l.size = ops.size) (h : lastOK md ops o = true) (h0 : Region.ready md ops l = []) : Region.ready md (ops.push o) (l.push true) = [] := by
  refine List.eq_nil_iff_forall_not_mem.2 fun j hj => ?_
  rcases Nat.lt_or_ge j ops.size with hlt | hge
  · rw [ready_push hs h hlt, h0] at hj; cases hj
  · rw [mem_ready] at hj
    obtain ⟨h1, y, hy, _⟩ := hj
    have hjn := (Array.getElem?_eq_some_iff.1 hy).1
    have ej : j = l.size := by simp at hjn; omega
    rw [ej, getD_push_eq] at h1
    cases h1

theorem wpAny_end {l : Array Bool} {a : Act} {w : World} (h0 : Region.ready md ops l = []) (h : Q .normal a w) : ∀ fuel, wpAny P md ops Q fuel l a w
  | 0 => ⟨h0, h⟩
  | _ + 1 => ⟨fun _ => h, by rw [h0]; simp⟩

theorem wpOp_last {l : Array Bool} {a : Act} {w : World} (hs : l.size = ops.size) (h : lastOK md ops o = true) (h0 : Region.ready md ops l = []) (hq : postLast P o Q .normal a w) (fuel : Nat) :
    wpOp P (ops.push o) Q ops.size (wpAny P md (ops.push o) Q fuel ((l.push false).setIfInBounds ops.size true)) a w := by
  unfold wpOp
  have e : (ops.push o)[ops.size]? = some o := by simp
  simp only [e]
  have hw : Region.wanted o (yielded (ops.push o) a.tmps) = true := by simp [Region.wanted, lastOK_guard h]
  rw [if_pos hw]
  refine .inl (Oper.wp_mono (fun a' w' h' => ?_) hq)
  have e2 : (l.push false).setIfInBounds ops.size true = l.push true := by
    rw [← hs]
    refine Array.ext_getElem? fun i => ?_
    rw [Array.getElem?_setIfInBounds, Array.getElem?_push, Array.getElem?_push]
    by_cases hi : l.size = i
    · subst hi; simp
    · simp [hi, Ne.symm hi]
  rw [e2]
  exact wpAny_end (ready_done hs h h0) h' _

theorem wpAny_last (h : lastOK md ops o = true) (hin : lastIn md ops.size o = true) : ∀ (fuel : Nat) (l : Array Bool) (a : Act) (w : World), l.size = ops.size →
    wpAny P md ops (postLast P o Q) fuel l a w → wpAny P md (ops.push o) Q (fuel + 1) (l.push false) a w := by
  intro fuel
  induction fuel with
  | zero =>
    intro l a w hs hp
    obtain ⟨h0, hq⟩ := hp
    refine ⟨fun h1 => ?_, fun i hi => ?_⟩
    · have := ready_last hs hin (ready_all hs h h0)
      rw [h1] at this; cases this
    · rcases Nat.lt_or_ge i ops.size with hlt | hge
      · rw [ready_push hs h hlt, h0] at hi; cases hi
      · have ei : i = ops.size := by
          obtain ⟨_, y, hy, _⟩ := mem_ready.1 hi
          have := (Array.getElem?_eq_some_iff.1 hy).1
          simp at this; omega
        subst ei
        exact wpOp_last hs h h0 hq _
  | succ fuel ih =>
    intro l a w hs hp
    obtain ⟨hq, hop⟩ := hp
    refine ⟨fun h1 => ?_, fun i hi => ?_⟩
    · have h0 : Region.ready md ops l = [] := List.eq_nil_iff_forall_not_mem.2 fun j hj => by
        have hjn : j < ops.size := by
          obtain ⟨_, y, hy, _⟩ := mem_ready.1 hj
          exact (Array.getElem?_eq_some_iff.1 hy).1
        have := (ready_push (b := false) hs h hjn).2 hj
        rw [h1] at this; cases this
      have := ready_last hs hin (ready_all hs h h0)
      rw [h1] at this; cases this
    · rcases Nat.lt_or_ge i ops.size with hlt | hge
      · have hi0 := (ready_push hs h hlt).1 hi
        have h1 := hop i hi0
        unfold wpOp at h1 ⊢
        have e : (ops.push o)[i]? = some ops[i] := by simp [Array.getElem?_push, Nat.ne_of_lt hlt, hlt]
        have e0 : ops[i]? = some ops[i] := by simp [hlt]
        simp only [e]
        simp only [e0] at h1
        have hg := (lastOK_at h e0).1
        have hw : ∀ t, Region.wanted ops[i] t = true := fun t => by simp [Region.wanted, hg]
        rw [if_pos (hw _)] at h1 ⊢
        have e2 : (l.push false).setIfInBounds i true = (l.setIfInBounds i true).push false := by
          refine Array.ext_getElem? fun j => ?_
          rw [Array.getElem?_setIfInBounds, Array.getElem?_push, Array.getElem?_push, Array.getElem?_setIfInBounds, Array.size_setIfInBounds, Array.size_push]
          by_cases hj : i = j
          · subst hj
            have h1 : i < l.size := by omega
            have h2 : i < l.size + 1 := by omega
            have h3 : ¬ i = l.size := by omega
            simp [h1, h2, h3]
          · simp [hj]
        rw [e2]
        rcases h1 with h1 | ⟨h1, h2⟩
        · exact .inl (wp_postLast (Oper.wp_mono (fun a' w' h' => ih _ a' w' (by simpa using hs) h') h1))
        · exact .inr ⟨h1, letsOut_postLast h2⟩
      · have ei : i = ops.size := by
          obtain ⟨_, y, hy, _⟩ := mem_ready.1 hi
          have := (Array.getElem?_eq_some_iff.1 hy).1
          simp at this; omega
        subst ei
        have h0 := last_ready hs h hi
        exact wpOp_last hs h h0 (hq h0) _

/-- The law. -/
theorem region_last {id : Nat} {a : Act} {w : World} {S : World → Prop} (hm : P.follows .mixedOrders = true) (h : lastOK .any ops o = true) (hin : lastIn .any ops.size o = true)
    (hp : wpAnyH P .any ops (postLast P o Q) S ops.size (Array.replicate ops.size false) a w.drew) : (Code.region id (ops.push o) true).wp P Q a w := by
  refine wp_region_any hm ?_
  have e1 : (ops.push o).size = ops.size + 1 := by simp
  have e2 : Array.replicate (ops.size + 1) false = (Array.replicate ops.size false).push false := Array.replicate_succ
  rw [e1, e2]
  exact wpAny_last h hin _ _ _ _ (by simp) (wpAny_of_held _ _ _ _ hp)
/-- An operation is taken first; its slot is named. -/
theorem takeH {S : World → Prop} {i : Nat} {oi : Oper} {v : Value} {d : Tmp} {fuel : Nat} {listed : Array Bool} {a : Act} {w : World} (hi : ops[i]? = some oi) (hd : oi.dst = some d)
    (hs : Region.noSelect ops = true) (hf : Region.free md ops listed i = true) (hr : (Region.ready md ops listed).contains i = true)
    (hQ : ∀ c a w, Q (.panic c) (a.put (some d) v) w → Q (.panic c) a w) (hw : Region.wanted oi (yielded ops a.tmps) = true) (hy : ∀ w, S w → (execOp a.eval oi).run P w = .ok (.value v) w) (hS : S w)
    (h : wpAnyH P md ops Q S fuel (listed.setIfInBounds i true) (a.put (some d) v) w) : wpAnyH P md ops Q S (fuel + 1) listed a w :=
  wpAnyH_take hi hs hf hr (by rw [hd]; exact hQ) (.inl ⟨hw, hy⟩) hS (by rw [hd]; exact h)
/-- Just one operation may come up, and is carried out; S is had again behind it. -/
theorem oneH {S : World → Prop} {i : Nat} {oi : Oper} {fuel : Nat} {listed : Array Bool} {a : Act} {w : World} (hi : ops[i]? = some oi) (hr : Region.ready md ops listed = [i]) (hg : oi.guard = none)
    (h : oi.wp P a w (fun a' w' => S w' ∧ wpAnyH P md ops Q S fuel (listed.setIfInBounds i true) a' w') Q) : wpAnyH P md ops Q S (fuel + 1) listed a w := by
  refine wpAnyH_all hr (by simp) fun j hj => ?_
  obtain rfl : j = i := by simpa using hj
  unfold wpOp
  simp only [hi]
  rw [if_pos (by simp [Region.wanted, hg])]
  exact .inl h
/-- A call that leaves the world as it was. -/
theorem call_same {oi : Oper} {a : Act} {w : World} {K : Act → World → Prop} {d : Tmp} {f : FuncId} {xs : Array Operand} {ats : Array TypeId} (hd : oi.dst = some d) (hop : oi.op = Op.call { callee := Callee.value (.func f), args := xs, argTypes := ats })
    (he : ∀ args w, (callFunc f args).run P w = .ok (.enter f args) w) {vs : Array Value} (hxs : xs.map a.eval = vs) {v : Value} (hc : Calls P f vs w fun e w' => e = .returned v ∧ w' = w) (hK : K (a.put (some d) v) w) : oi.wp P a w K Q := by
  unfold Oper.wp
  have hr : (execOp a.eval oi).run P w = .ok (.enter f vs) w := by
    have h2 : xs.map a.eval = vs := hxs
    simp [execOp, hop, resolve, invoke, Act.eval, Deferred.ofValue]
    have h3 := he (xs.map a.eval) w
    rw [h2] at h3
    rw [← h2] at h3 ⊢
    exact h3
  rw [hr, Oper.upon_enter]
  exact hc.mono (by rintro e w' ⟨rfl, rfl⟩; rw [hd]; exact hK)
/-- An append whose run is known. -/
theorem call_append {oi : Oper} {a : Act} {w w' : World} {K : Act → World → Prop} {d : Tmp} {s x : Operand} {t : TypeId} (hd : oi.dst = some d) (hop : oi.op = Op.call { callee := Callee.builtin Builtin.append, args := #[s, x], argTypes := #[t, t] })
    {v v2 v' : Value} (hs : a.eval s = v) (hx : a.eval x = v2) (hrun : (Builtin.append_ #[t, t] oi.type #[v, v2]).run P w = .ok v' w') (hK : K (a.put (some d) v') w') : oi.wp P a w K Q := by
  unfold Oper.wp
  simp [execOp, hop, resolve, invoke, builtin, hs, hx, hrun, Result.andThen]
  rw [Oper.upon_value, hd]
  exact hK
/-- An operation whose run is known. -/
theorem op_run {oi : Oper} {a : Act} {w w' : World} {K : Act → World → Prop} {d : Tmp} {v' : Value} (hd : oi.dst = some d) (hrun : (execOp a.eval oi).run P w = .ok (.value v') w') (hK : K (a.put (some d) v') w') : oi.wp P a w K Q := by
  unfold Oper.wp
  rw [hrun, Oper.upon_value, hd]
  exact hK
/-- The same for a region that is written out. -/
theorem region_lastF {id : Nat} {a : Act} {w : World} {S : World → Prop} (hm : P.follows .mixedOrders = true) (hf : ops.pop.push ops.back! = ops) (h : lastOK .any ops.pop ops.back! = true) (hin : lastIn .any ops.pop.size ops.back! = true)
    (hp : wpAnyH P .any ops.pop (postLast P ops.back! Q) S ops.pop.size (Array.replicate ops.pop.size false) a w.drew) : (Code.region id ops true).wp P Q a w := by
  have := region_last (id := id) hm h hin hp
  rwa [hf] at this
end
end Go.Proofs.Ytihghhmhgakkaaa

namespace Go.Proofs.Ytihghhmhgakkaaa
set_option maxRecDepth 100000
open Go.RowKit

section
variable {P : Program} {Q : Exit → Act → World → Prop}
/-- A call, its result and its world taken up. -/
theorem call_gets {oi : Oper} {a : Act} {w : World} {K : Act → World → Prop} {d : Tmp} {f : FuncId} {xs : Array Operand} {ats : Array TypeId} (hd : oi.dst = some d) (hop : oi.op = Op.call { callee := Callee.value (.func f), args := xs, argTypes := ats })
    (he : ∀ args w, (callFunc f args).run P w = .ok (.enter f args) w) {vs : Array Value} (hxs : xs.map a.eval = vs) {R : Value → World → Prop} (hc : Calls P f vs w fun e w' => ∃ v, e = .returned v ∧ R v w') (hK : ∀ v w', R v w' → K (a.put (some d) v) w') : oi.wp P a w K Q := by
  unfold Oper.wp
  have hr : (execOp a.eval oi).run P w = .ok (.enter f vs) w := by
    have h2 : xs.map a.eval = vs := hxs
    simp [execOp, hop, resolve, invoke, Act.eval, Deferred.ofValue]
    have h3 := he (xs.map a.eval) w
    rw [h2] at h3
    rw [← h2] at h3 ⊢
    exact h3
  rw [hr, Oper.upon_enter]
  exact hc.mono (by rintro e w' ⟨v, rfl, h⟩; rw [hd]; exact hK _ _ h)
/-- A call that gives up. -/
theorem call_up {oi : Oper} {a : Act} {w : World} {K : Act → World → Prop} {f : FuncId} {xs : Array Operand} {ats : Array TypeId} (hop : oi.op = Op.call { callee := Callee.value (.func f), args := xs, argTypes := ats })
    (he : ∀ args w, (callFunc f args).run P w = .ok (.enter f args) w) {vs : Array Value} (hxs : xs.map a.eval = vs) {R : World → Prop} {c : List PanicEntry} (hc : Calls P f vs w fun e w' => e = .panicked c ∧ R w') (hQ : ∀ w', R w' → Q (.panic c) a w') : oi.wp P a w K Q := by
  unfold Oper.wp
  have hr : (execOp a.eval oi).run P w = .ok (.enter f vs) w := by
    have h2 : xs.map a.eval = vs := hxs
    simp [execOp, hop, resolve, invoke, Act.eval, Deferred.ofValue]
    have h3 := he (xs.map a.eval) w
    rw [h2] at h3
    rw [← h2] at h3 ⊢
    exact h3
  rw [hr, Oper.upon_enter]
  exact hc.mono (by rintro e w' ⟨rfl, h⟩; exact hQ _ h)
/-- A store whose run is known. -/
theorem op_skip {oi : Oper} {a : Act} {w w' : World} {K : Act → World → Prop} (hd : oi.dst = none) (hrun : (execOp a.eval oi).run P w = .ok .skip w') (hK : K a w') : oi.wp P a w K Q := by
  unfold Oper.wp
  rw [hrun, Oper.upon_skip, hd]
  exact hK
/-- Just two operations may come up. -/
theorem twoH {ops : Array Oper} {md : Region.Mode} {S : World → Prop} {i j : Nat} {oi oj : Oper} {fuel : Nat} {listed : Array Bool} {a : Act} {w : World} (hi : ops[i]? = some oi) (hj : ops[j]? = some oj) (hr : Region.ready md ops listed = [i, j]) (gi : oi.guard = none) (gj : oj.guard = none)
    (h1 : oi.wp P a w (fun a' w' => S w' ∧ wpAnyH P md ops Q S fuel (listed.setIfInBounds i true) a' w') Q) (h2 : oj.wp P a w (fun a' w' => S w' ∧ wpAnyH P md ops Q S fuel (listed.setIfInBounds j true) a' w') Q) : wpAnyH P md ops Q S (fuel + 1) listed a w := by
  refine wpAnyH_all hr (by simp) fun k hk => ?_
  rcases (by simpa using hk : k = i ∨ k = j) with rfl | rfl
  · unfold wpOp
    simp only [hi]
    rw [if_pos (by simp [Region.wanted, gi])]
    exact .inl h1
  · unfold wpOp
    simp only [hj]
    rw [if_pos (by simp [Region.wanted, gj])]
    exact .inl h2
end
end Go.Proofs.Ytihghhmhgakkaaa
