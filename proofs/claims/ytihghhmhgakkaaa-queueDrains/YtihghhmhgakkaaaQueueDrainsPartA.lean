/-
  Contract of pacelineref.Ungapped: it returns the numbers, the count of bytes and the error that P1.6 names; nothing that was there is written.
  Contracts of queue.inOrder and queue.unpack: the mail of a run, or ErrForm.
  A box that holds a queue.
  Contracts of queue's looseMayBe, unpackAll, count and Count.
  slices.SortFunc: the laying of its contract at this program (numbers of functions and types, each held by the kernel).
  Contract of slices.SortFunc with merge's compare, on a row of mail of the call's own; merge.Sort.
  Contract of queue.Drain.
  Contracts of the document's own MailAhead and IsOrdered; an insertion in plain mathematics.
-/
import Derived.Test.YtihghhmhgakkaaaUngapWalk
import Derived.Test.YtihghhmhgakkaaaUnpackedWalk
import Derived.Test.YtihghhmhgakkaaaMayMail
import Derived.Test.YtihghhmhgakkaaaMergeFace
import Derived.Test.YtihghhmhgakkaaaRefSmall
import Derived.Laws.OwnMore
import Derived.Test.YtihghhmhgakkaaaQueueOpen
import Derived.Shelf.SlSortCmp.NoneTotal
import Derived.Test.YtihghhmhgakkaaaProg
import Derived.Test.YtihghhmhgakkaaaMailCmp
import Derived.Test.YtihghhmhgakkaaaMailRes
import Derived.Shelf.SlSortCmp.QuietGrown
import Derived.Test.YtihghhmhgakkaaaMailMath
import Derived.Deep.QuietTactic
import Derived.BigQuiet
import Derived.Lib.QuietBelow

namespace Go.Proofs.Ytihghhmhgakkaaa
set_option maxRecDepth 100000
open Go.ChangeShapes Go.WideShapes Go.ChangeAt Go.RowKit

def lenOf : Value → Nat
  | .slice _ n _ => n
  | _ => 0
theorem own_slice {w : World} {base : Nat} {e : TypeId} {n : Nat} {v : Value} {xs : List Value} (h : w.ownsRow base e 1 v n xs) : ∃ a c, v = .slice a n c := by
  rcases h.2 with ⟨hv, h0⟩ | ⟨g, cap, cur, hv, _⟩
  · exact ⟨none, 0, by rw [hv, h0]⟩
  · exact ⟨_, _, hv⟩

set_option maxHeartbeats 1600000 in
set_option maxRecDepth 100000 in
theorem ungapped_any (v : Value) (xs : List Int) (w : World) (h : Reads .u8 w v xs) (hx : ∀ x ∈ xs, 0 ≤ x ∧ x ≤ 255) :
    Calls Try.prog 61 #[v] w fun e w' =>
      ∃ v', e = .returned (.tuple #[v', .int .i64 (ungap xs).2.1, .int .i64 (ungap xs).2.2]) ∧ w'.ownsRow w.heap.size 3 1 v' (ungap xs).1.length ((ungap xs).1.map (Value.int .i64)) ∧ Below w.heap.size w w' := by
  obtain ⟨i0, hi, hz0, hz1, hz2⟩ := info_parts Try.info3'
  have HR : Hid (Reads .u8 w v xs) := h
  have HX : Hid (∀ x ∈ xs, 0 ≤ x ∧ x ≤ 255) := hx
  clear h hx
  go_enter Try.func61, Try.ntmps61
  go_wp2_with fail
  refine (unpacked_any _ xs _ HR.out HX.out).mono ?_
  rintro e w' ⟨rfl, rfl⟩
  rcases get_inv HX.out with ⟨e, he, hne⟩ | ⟨n, r, he, hys, hn0, hn1⟩
  · have HU : Hid (ungap xs = ([], 0, e)) := by show ungap xs = _; unfold ungap; rw [he]; simp [hne]
    rw [he]
    have hne' : (e != 0) = true := by simp [hne]
    clear he hne
    go_wp2_with fail
    go_ret3
    exact ⟨_, by rw [HU.out]; rfl, by rw [HU.out]; exact World.ownsRow_nil _ _ _ _, Below.refl _ _⟩
  · by_cases hbig : 2000 < n
    · have HU : Hid (ungap xs = ([], 0, 1)) := by show ungap xs = _; unfold ungap; rw [he]; simp [hbig]
      rw [he]
      clear he hys
      go_wp2_with fail
      go_ret3
      exact ⟨_, by rw [HU.out]; rfl, by rw [HU.out]; exact World.ownsRow_nil _ _ _ _, Below.refl _ _⟩
    · obtain ⟨m, rfl⟩ := Int.eq_ofNat_of_zero_le hn0
      have lp := put_len (m : Int)
      have hxl : (put (m : Int)).length ≤ xs.length := by rw [hys]; simp
      have HU : Hid (ungap xs = ungR xs m (put (m : Int)).length 0 []) := by show ungap xs = _; unfold ungap; rw [he]; simp [hbig]
      rw [he]
      obtain ⟨b, off, cap, rfl, hc, hm, hb, hcell⟩ := HR.out.plain (by omega)
      unfold maxLen at hm
      have HC : Hid (∀ i, i < xs.length → w'.cell? ⟨b, off + i, none⟩ = some (.int .u8 (xs.getD i 0))) := hcell
      clear he hys hcell HR
      generalize (put (m : Int)).length = k0 at *
      go_wp2_with fail
      go_loopw [6, 8, 9] (fun su sl sn wr => ∃ (j u : Nat) (n : Int) (out : List Int) (la : Option Addr) (lc : Nat), j ≤ m ∧ su = .int .i64 u ∧ u ≤ xs.length ∧ sn = .int .i64 n ∧ 0 ≤ n ∧ n ≤ 1152921504606846976 ∧ out.length = j ∧ sl = .slice la j lc ∧
        wr.ownsRow w'.heap.size 3 1 sl out.length (out.map (Value.int .i64)) ∧ ungap xs = ungR xs (m - j) u n out ∧ Below w'.heap.size w' wr) (fun _ l _ _ => m - lenOf l)
      case atStart => exact ⟨0, k0, 0, [], none, 0, by omega, rfl, by omega, rfl, by omega, by omega, rfl, rfl, World.ownsRow_nil _ _ _ _, HU.out, Below.refl _ _⟩
      case round =>
        obtain ⟨j, u, n, out, la, lc, hj, rfl, hu, rfl, hn0', hn1', hol, rfl, hown, hug, hbel⟩ := hrel
        have HG : Hid (ungap xs = ungR xs (m - j) u n out) := hug
        have HW : Hid (wr.ownsRow w'.heap.size 3 1 _ out.length (out.map (Value.int .i64))) := hown
        have hsz := hbel.size
        have HOL : Hid (out.length = j) := hol
        clear hug hown hol
        by_cases hlt : j < m
        · obtain ⟨t, ht⟩ : ∃ t, m - j = t + 1 := ⟨m - j - 1, by omega⟩
          have HT : Hid (m - (j + 1) = t) := by show m - (j + 1) = t; omega
          rw [ht] at HG
          clear ht
          by_cases hul : u < xs.length
          · have hcu : u < cap := by omega
            have HD : Hid (Reads .u8 wr (.slice (some ⟨b, off + u, none⟩) (xs.length - u) (cap - u)) (xs.drop u)) :=
              reads_drop hc (by unfold maxLen; omega) (fun i hi => (hbel.cell (by exact hb)).trans (HC.out i hi))
            have HXD : Hid (∀ x ∈ xs.drop u, 0 ≤ x ∧ x ≤ 255) := fun x hx => HX.out x (List.mem_of_mem_drop hx)
            have hdl : Hid ((xs.drop u).length = xs.length - u) := List.length_drop
            go_wp2_with fail
            refine (unpacked_any _ (xs.drop u) _ HD.out HXD.out).mono ?_
            rintro e w3 ⟨rfl, rfl⟩
            rcases get_inv HXD.out with ⟨e, he, hne⟩ | ⟨g, r, he, hys, hg0, hg1⟩
            · have HU : Hid (ungap xs = ([], 0, e)) := by show ungap xs = _; rw [HG.out]; exact ungR_err he hne
              rw [he]
              have hne' : (e != 0) = true := by simp [hne]
              clear he hne
              go_wp2_with fail
              go_ret3
              exact ⟨_, by rw [HU.out]; rfl, by rw [HU.out]; exact World.ownsRow_nil _ _ _ _, hbel⟩
            · have hkl : (put g).length ≤ xs.length - u := by rw [← hdl.out, hys]; simp
              have lpg := put_len g
              by_cases hbg : 1152921504606846976 - n < g
              · have HU : Hid (ungap xs = ([], 0, 2)) := by show ungap xs = _; rw [HG.out]; exact ungR_over he hbg
                rw [he]
                clear he hys
                go_wp2_with fail
                go_ret3
                exact ⟨_, by rw [HU.out]; rfl, by rw [HU.out]; exact World.ownsRow_nil _ _ _ _, hbel⟩
              · have HU : Hid (ungap xs = ungR xs t (u + (put g).length) (n + g) (out ++ [n + g])) := by show ungap xs = _; rw [HG.out]; exact ungR_step he hbg
                rw [he]
                have hown := HW.out
                have hol : out.length ≤ 2000 := by have := HOL.out; omega
                clear he hys HD HXD hdl HW
                generalize (put g).length = k at *
                go_wp2_with (at_builtin; refine wpList_append_own _ rfl _ _ 66 rfl w'.heap.size 3 i0 (.int .i64 0) 1 8 Try.underlying66 hi hz0 hz1 hz2 rfl (by decide) _ _ _ rfl (hown.alloc _) ⟨w3.heap.size, 0, none⟩ 1 1 [.int .i64 (n + g)] rfl rfl (cell_one_new _ _ _) ?c2 ?c3 ?c4 ?c5 ?_)
                case c2 => first | rfl | (intro u hu; simp at hu; subst hu; rfl)
                case c3 => unfold maxLen; omega
                case c4 => omega
                case c5 => first | omega | (simp; omega)
                intro v6 w6 hown6 hgrow _
                have hw6 := own_push64 hown6
                obtain ⟨la6, lc6, rfl⟩ := own_slice hw6
                have hl6 : (out ++ [n + g]).length = j + 1 := by rw [List.length_append, HOL.out]; rfl
                rw [hl6] at hw6
                have HL6 : Hid ((out ++ [n + g]).length = j + 1) := hl6
                clear hl6
                have HW6 : Hid (w6.ownsRow w'.heap.size 3 1 _ (j + 1) ((out ++ [n + g]).map (Value.int .i64))) := hw6
                have hbel6 : Below w'.heap.size w' w6 := (hbel.alloc (by omega) _).grown hgrow (by simp; omega) (fun k hk => (hown.lt k hk).1)
                clear hown6 hgrow hw6 hown hbel hol
                go_wp2_with fail
                go_roundw
                case rel => exact ⟨j + 1, u + k, n + g, out ++ [n + g], la6, lc6, by omega, by go_num, by omega, by go_num, by omega, by omega, HL6.out, by rw [HL6.out], by rw [HL6.out]; exact HW6.out, by rw [HT.out]; exact HU.out, hbel6⟩
                case measure => have := HOL.out; simp [lenOf]; omega
          · have hul2 : u = xs.length := by omega
            have HU : Hid (ungap xs = ([], 0, 4)) := by
              show ungap xs = _
              rw [HG.out]
              exact ungR_err (by rw [hul2, List.drop_eq_nil_of_le (Nat.le_refl _)]; rfl) (by decide)
            have hz : xs.length - u = 0 := by omega
            clear hul2
            go_wp2_with fail
            all_goals
              refine (unpacked_empty _ _ _).mono ?_
              rintro e w3 ⟨rfl, rfl⟩
              go_wp2_with fail
              go_ret3
              exact ⟨_, by rw [HU.out]; rfl, by rw [HU.out]; exact World.ownsRow_nil _ _ _ _, hbel⟩
        · have HF : Hid (ungap xs = (out, u, 0)) := by
            show ungap xs = _
            rw [HG.out, show m - j = 0 from by omega]; rfl
          go_wp2_with fail
          go_ret3
          exact ⟨_, by rw [HF.out]; rfl, by rw [HF.out]; exact HW.out, hbel⟩
end Go.Proofs.Ytihghhmhgakkaaa

namespace Go.Proofs.Ytihghhmhgakkaaa
set_option maxRecDepth 100000
open Go.ChangeShapes Go.WideShapes Go.ChangeAt Go.RowKit

set_option maxHeartbeats 400000 in
theorem inOrderQ_any (v : Value) (l : List Ml) (w : World) (h : MlR w v l) (hl : l.length ≤ 5000) : Calls Try.prog 57 #[v] w fun e w' => e = .returned (.bool (srtMb l)) ∧ Below w.heap.size w w' := by
  have hcon := least_any v l w h
  obtain ⟨a, cap, rfl⟩ := h.shape
  have hel : errL l = if srtMb l then 0 else 3 := if_neg (by omega)
  rw [hel] at hcon
  generalize lowM l = lm at hcon
  cases hs : srtMb l
  · rw [hs, if_neg (by decide)] at hcon
    clear h hs hel
    go_enter Try.func57, Try.ntmps57
    go_wp2_with fail
    refine hcon.mono ?_
    rintro e w1 ⟨v1, rfl, _, hb⟩
    have HB : Hid (Below w.heap.size w w1) := hb
    clear hb
    go_wp2_with fail
    go_ret
    exact ⟨rfl, HB.out⟩
  · rw [hs, if_pos rfl] at hcon
    clear h hs hel
    go_enter Try.func57, Try.ntmps57
    go_wp2_with fail
    refine hcon.mono ?_
    rintro e w1 ⟨v1, rfl, _, hb⟩
    have HB : Hid (Below w.heap.size w w1) := hb
    clear hb
    go_wp2_with fail
    go_ret
    exact ⟨rfl, HB.out⟩

theorem madeM_zero (m : Nat) : (madeCells (Value.agg #[.int .i64 0, .int .i64 0]).cells (m * 2)).toList = (List.replicate m ((0, 0) : Ml)).flatMap encM := by
  refine List.ext_getElem? fun v => ?_
  rcases Nat.lt_or_ge v (m * 2) with hv | hv
  · have h2 : ((List.replicate m ((0, 0) : Ml)).flatMap encM)[v]? = some (.int .i64 0) := by
      have hd : v = v / 2 * 2 + v % 2 := by omega
      rw [hd]
      refine flat_at encM_len (x := (0, 0)) (by rw [List.getElem?_replicate, if_pos (by omega)]) ?_
      rcases (by omega : v % 2 = 0 ∨ v % 2 = 1) with h | h <;> rw [h] <;> rfl
    rw [h2]
    simp [madeCells, Value.cells, hv]
    rcases (by omega : v % 2 = 0 ∨ v % 2 = 1) with h | h <;> simp [h]
  · rw [List.getElem?_eq_none (by simpa [madeCells] using hv), List.getElem?_eq_none (by rw [flat_len encM_len]; simpa using hv)]
/-- make([]api.Mail, m). -/
theorem make_mails (w : World) (m : Nat) (hm : m ≤ 1000000) :
    ∃ w', (Instr.makeSlice 22 (.int .i64 (m : Int)) (.int .i64 (m : Int))).run Try.prog w = .ok (.slice (some ⟨w.heap.size, 0, none⟩) m m) w' ∧
      w'.ownsRow w.heap.size 27 2 (.slice (some ⟨w.heap.size, 0, none⟩) m m) m ((List.replicate m ((0, 0) : Ml)).flatMap encM) ∧ Below w.heap.size w w' := by
  obtain ⟨i0, hi, hz0, hz1, hz2⟩ := info_parts Try.infoM
  obtain ⟨w', h1, h2, h3⟩ := run_makeSlice_full (P := Try.prog) w w.heap.size 22 27 i0 _ 2 Try.underlying22 hi hz0 hz1 .i64 .i64 m (by omega) (by rw [hz2]; omega) (by unfold maxLen; omega) (Nat.le_refl _)
  rw [madeM_zero] at h2
  exact ⟨w', h1, h2, (Below.refl _ _).grown h3 (Nat.le_refl _) (fun k hk => by cases hk)⟩

/-- The error of a run. -/
def errR {α : Type} : Option α → Int
  | none => 3
  | some _ => 0
/-- So far: the mail l is read, the bytes r are left. -/
def RunTo (ts r0 : List Int) (k : Nat) (l : List Ml) (r : List Int) : Prop := l.length = k ∧ (∀ y ∈ r, 0 ≤ y ∧ y ≤ 255) ∧ valsC ts r0 = (valsC (ts.drop k) r).map fun p => (l ++ p.1, p.2)
theorem RunTo.zero {ts r0 : List Int} (h : ∀ y ∈ r0, 0 ≤ y ∧ y ≤ 255) : RunTo ts r0 0 [] r0 := ⟨rfl, h, by
  rw [List.drop_zero]
  cases valsC ts r0 with
  | none => rfl
  | some p => rfl⟩
theorem RunTo.bad {ts r0 r : List Int} {k : Nat} {l : List Ml} {t e : Int} (h : RunTo ts r0 k l r) (ht : ts[k]? = some t) (hg : get r = (0, 0, e)) (he : e ≠ 0) : valsC ts r0 = none := by
  obtain ⟨hk, rfl⟩ := List.getElem?_eq_some_iff.1 ht
  rw [h.2.2, List.drop_eq_getElem_cons hk, valsC_no hg he]
  rfl
theorem RunTo.step {ts r0 r : List Int} {k u : Nat} {l : List Ml} {t n : Int} (h : RunTo ts r0 k l r) (ht : ts[k]? = some t) (hg : get r = (n, u, 0)) : RunTo ts r0 (k + 1) (l ++ [(t, IntKind.i64.wrap n)]) (r.drop u) := by
  obtain ⟨hk, rfl⟩ := List.getElem?_eq_some_iff.1 ht
  refine ⟨by simp [h.1], fun y hy => h.2.1 y (List.mem_of_mem_drop hy), ?_⟩
  rw [h.2.2, List.drop_eq_getElem_cons hk, valsC_yes hg]
  cases valsC (ts.drop (k + 1)) (r.drop u) with
  | none => rfl
  | some p => simp
theorem RunTo.done {ts r0 r : List Int} {k : Nat} {l : List Ml} (h : RunTo ts r0 k l r) (hk : ts.length ≤ k) : valsC ts r0 = some (l, r) := by
  rw [h.2.2, List.drop_eq_nil_of_le hk]
  simp [valsC]
theorem runF_err {b : List Int} {e : Int} (h : ungap b = ([], 0, e)) : runF b = none := by
  unfold runF
  rw [h]
  exact if_neg fun h => by have := h.2.1; simp at this
theorem runF_len {b ts : List Int} {u : Nat} (h : ungap b = (ts, u, 0)) (hl : ¬ (1 ≤ ts.length ∧ ts.length ≤ 1000)) : runF b = none := by
  unfold runF
  rw [h]
  exact if_neg fun h => hl h.2
theorem runF_ok {b ts : List Int} {u : Nat} (h : ungap b = (ts, u, 0)) (hl : 1 ≤ ts.length ∧ ts.length ≤ 1000) : runF b = endC (valsC ts (b.drop u)) := by
  unfold runF
  rw [h]
  exact if_pos ⟨rfl, hl⟩

set_option maxHeartbeats 2000000 in
set_option maxRecDepth 100000 in
theorem unpack_any (v : Value) (b : List Int) (w : World) (h : Reads .u8 w v b) (hb : ∀ x ∈ b, 0 ≤ x ∧ x ≤ 255) : Calls Try.prog 39 #[v] w (RefP w (errR (runF b)) ((runF b).getD [])) := by
  have HU : Hid (∀ X, Reads .u8 X v b → Calls Try.prog 55 #[v] X fun e w' => ∃ v', e = .returned (.tuple #[v', .int .i64 (ungap b).2.1, .int .i64 (ungap b).2.2]) ∧ w'.ownsRow X.heap.size 3 1 v' (ungap b).1.length ((ungap b).1.map (Value.int .i64)) ∧ Below X.heap.size X w') := fun X hX => ungap_any v b X hX hb
  have HNo : Hid (runF b = none → ∀ w', Below w.heap.size w w' → RefP w (errR (runF b)) ((runF b).getD []) (.returned (.tuple #[.slice none 0 0, .int .i64 3])) w') := fun e w' hw => by rw [e]; exact RefP.no (by decide) hw
  have HYes : Hid (∀ l, runF b = some l → ∀ v w', w'.ownsRow w.heap.size 27 2 v l.length (l.flatMap encM) → Below w.heap.size w w' → RefP w (errR (runF b)) ((runF b).getD []) (.returned (.tuple #[v, .int .i64 0])) w') := fun l e v w' ho hw => by rw [e]; exact RefP.yes ho hw
  have HR : Hid (Reads .u8 w v b) := h
  obtain ⟨a, cap, rfl, _⟩ := id h
  rcases ungap_inv hb with ⟨e, he, hne⟩ | ⟨ts, u, he, _, hu, _⟩
  · have HX : Hid _ := HNo.out (runF_err he)
    generalize RefP w (errR (runF b)) ((runF b).getD []) = P at *
    rw [he] at HU
    have hne' : (e != 0) = true := by simpa using hne
    clear he hne HNo HYes h hb
    go_enter Try.func39, Try.ntmps39
    go_wp2_with fail
    refine (HU.out _ HR.out).mono ?_
    rintro e1 w1 ⟨v1, rfl, _, hb1⟩
    have HE : Hid (P (.returned (.tuple #[.slice none 0 0, .int .i64 3])) w1) := HX.out _ hb1
    clear hb1 HX
    go_wp2_with fail
    exact HE.out
  · by_cases hlen : 1 ≤ ts.length ∧ ts.length ≤ 1000
    · have HV : Hid (runF b = endC (valsC ts (b.drop u))) := runF_ok he hlen
      have HNo2 : Hid (∀ w', endC (valsC ts (b.drop u)) = none → Below w.heap.size w w' → RefP w (errR (runF b)) ((runF b).getD []) (.returned (.tuple #[.slice none 0 0, .int .i64 3])) w') := fun w' hn hw => HNo.out (HV.out.trans hn) w' hw
      have HYes2 : Hid (∀ l v w', endC (valsC ts (b.drop u)) = some l → w'.ownsRow w.heap.size 27 2 v l.length (l.flatMap encM) → Below w.heap.size w w' → RefP w (errR (runF b)) ((runF b).getD []) (.returned (.tuple #[v, .int .i64 0])) w') := fun l v w' hn ho hw => HYes.out l (HV.out.trans hn) v w' ho hw
      have hcut := run_cutV a b.length cap u hu
      have HR0 : Hid (Reads .u8 w (cutV a b.length cap u) (b.drop u)) := reads_cutV h hu
      have HZ : Hid (∀ y ∈ b.drop u, 0 ≤ y ∧ y ≤ 255) := fun y hy => hb y (List.mem_of_mem_drop hy)
      obtain ⟨hl1, hl2⟩ := hlen
      generalize RefP w (errR (runF b)) ((runF b).getD []) = P at *
      rw [he] at HU
      clear he HNo HYes h hb HV hu
      generalize b.drop u = r0 at *
      generalize cutV a b.length cap u = v0 at *
      have i1 : ¬ (ts.length : Int) < 1 := by omega
      have i2 : ¬ (1000 : Int) < (ts.length : Int) := by omega
      go_enter Try.func39, Try.ntmps39
      go_wp2_with fail
      refine (HU.out _ HR.out).mono ?_
      rintro e1 w1 ⟨v1, rfl, ho1, hb1⟩
      have OT : Hid (Reads .i64 w1 v1 ts) := reads_own ho1
      obtain ⟨a1, c1, rfl⟩ := own_slice ho1
      have hs1 := hb1.size
      have HB1 : Hid (Below w.heap.size w w1) := hb1
      have HR1 : Hid (Reads .u8 w1 v0 r0) := HR0.out.below hb1 (Nat.le_refl _)
      obtain ⟨w2, hmk, hown, hb2⟩ := make_mails w1 ts.length (by omega)
      have O2 : Hid (w2.ownsRow w1.heap.size 27 2 (.slice (some ⟨w1.heap.size, 0, none⟩) ts.length ts.length) ts.length ((List.replicate ts.length ((0, 0) : Ml)).flatMap encM)) := hown
      have HB2 : Hid (Below w1.heap.size w1 w2) := hb2
      clear hb1 ho1 HR HR0 HU hown hb2
      go_wp2_with fail
      go_loopw [7, 40] (fun x i wr => ∃ (k : Nat) (l : List Ml) (r : List Int), k ≤ ts.length ∧ i = .int .i64 k ∧ RunTo ts r0 k l r ∧ Reads .u8 w1 x r ∧ wr.ownsRow w1.heap.size 27 2 (.slice (some ⟨w1.heap.size, 0, none⟩) ts.length ts.length) ts.length ((l ++ List.replicate (ts.length - k) ((0, 0) : Ml)).flatMap encM) ∧ Below w1.heap.size w1 wr) (fun _ i _ => ts.length - (intOf i).toNat)
      case atStart => exact ⟨0, [], r0, by omega, rfl, RunTo.zero HZ.out, HR1.out, by simpa using O2.out, HB2.out⟩
      case round =>
        obtain ⟨k, l, r, hk, rfl, hto, hrx, hown, hbel⟩ := hrel
        have TO : Hid (RunTo ts r0 k l r) := hto
        have RX : Hid (Reads .u8 wr u7 r) := hrx.below hbel (Nat.le_refl _)
        have RX1 : Hid (Reads .u8 w1 u7 r) := hrx
        have OW : Hid (wr.ownsRow w1.heap.size 27 2 (.slice (some ⟨w1.heap.size, 0, none⟩) ts.length ts.length) ts.length ((l ++ List.replicate (ts.length - k) ((0, 0) : Ml)).flatMap encM)) := hown
        have HB : Hid (Below w1.heap.size w1 wr) := hbel
        have hsr := hbel.size
        have hll := hto.1
        clear hto hrx hown hbel O2 HB2 hmk HR1
        obtain ⟨xa, xc, rfl, _⟩ := id RX.out
        by_cases hlt : k < ts.length
        · obtain ⟨tb, tq, tc, e1, _, _, tlt, hv⟩ := (OT.out.below HB.out (Nat.le_refl _)).plain (by omega)
          injection e1 with e1 e2 e3
          subst e1 e3
          clear e2
          have hck := hv k hlt
          have HT : Hid (ts[k]? = some (ts.getD k 0)) := by show _ = _; rw [List.getD_eq_getElem?_getD, List.getElem?_eq_getElem hlt]; rfl
          generalize ts.getD k 0 = t at *
          have p0 : (0 : Int) ≤ (k : Int) := by omega
          have p1 : (k : Int) < (ts.length : Int) := by omega
          have hfz := frozenK OW.out
          have HG : Hid (∀ X, Reads .u8 X (.slice xa r.length xc) r → Calls Try.prog 56 #[.slice xa r.length xc] X fun e w' => e = .returned (.tuple #[.int .u64 (get r).1, .int .i64 (get r).2.1, .int .i64 (get r).2.2]) ∧ w' = X) := fun X hX => get_any _ _ X hX TO.out.2.1
          clear hv
          rcases get_inv TO.out.2.1 with ⟨e, he, hne⟩ | ⟨n, rr, he, hl, h0, h1⟩
          · have HE : Hid (P (.returned (.tuple #[.slice none 0 0, .int .i64 3])) wr) := HNo2.out wr (by rw [TO.out.bad HT.out he hne]; rfl) (HB1.out.trans (HB.out.mono hs1))
            have hne' : (e != 0) = true := by simpa using hne
            rw [he] at HG
            clear he hne
            go_wp2_with fail
            refine (HG.out _ RX.out).mono ?_
            rintro e w' ⟨rfl, rfl⟩
            go_wp2_with fail
            exact HE.out
          · have hp := put_len n
            have hpl : (put n).length ≤ r.length := by rw [hl]; simp
            have TO2 : Hid (RunTo ts r0 (k + 1) (l ++ [(t, IntKind.i64.wrap n)]) (r.drop (put n).length)) := TO.out.step HT.out he
            have hcut := run_cutV xa r.length xc _ hpl
            have RX2 : Hid (Reads .u8 w1 (cutV xa r.length xc (put n).length) (r.drop (put n).length)) := reads_cutV RX1.out hpl
            have O2 : Hid ((putM wr w1.heap.size (k * 2) (t, IntKind.i64.wrap n)).ownsRow w1.heap.size 27 2 (.slice (some ⟨w1.heap.size, 0, none⟩) ts.length ts.length) ts.length (((l ++ [(t, IntKind.i64.wrap n)]) ++ List.replicate (ts.length - (k + 1)) ((0, 0) : Ml)).flatMap encM) ∧ Below w1.heap.size w1 (putM wr w1.heap.size (k * 2) (t, IntKind.i64.wrap n))) := by
              refine ⟨?_, below_putM HB.out (Nat.le_refl _) _⟩
              have hh := ownM_put OW.out (p := k) (by simp; omega) (t, IntKind.i64.wrap n)
              have e1 : (l ++ List.replicate (ts.length - k) ((0, 0) : Ml)).set k (t, IntKind.i64.wrap n) = (l ++ [(t, IntKind.i64.wrap n)]) ++ List.replicate (ts.length - (k + 1)) ((0, 0) : Ml) := by
                rw [show ts.length - k = (ts.length - (k + 1)) + 1 by omega, List.replicate_succ, ← hll, setM_mid, List.append_assoc]
                rfl
              rw [e1] at hh
              exact hh
            obtain ⟨d1, d2⟩ := ownM_at OW.out (i := k) (x := (0, 0)) (by rw [List.getElem?_append_right (by omega), hll, Nat.sub_self, List.getElem?_replicate, if_pos (by omega)])
            have d3 : (wr.setCell ⟨w1.heap.size, k * 2, none⟩ (.int .i64 t)).cell? ⟨w1.heap.size, k * 2 + 1, none⟩ = some (.int .i64 0) := (cellM_far (by omega)).trans d2
            unfold putM at O2
            simp only at O2
            rw [he] at HG
            clear he hl hll OW TO
            generalize (put n).length = pu at *
            generalize hz : IntKind.i64.wrap n = z at *
            go_wp2_with fail
            refine (HG.out _ RX.out).mono ?_
            rintro e w' ⟨rfl, rfl⟩
            generalize cutV xa r.length xc pu = v2 at *
            go_wp2_with fail
            go_roundw
            case rel => exact ⟨k + 1, _, _, by omega, by go_num, TO2.out, RX2.out, O2.out.1, O2.out.2⟩
            case measure => simp [intOf]; omega
        · have ek : k = ts.length := by omega
          have HD : Hid (valsC ts r0 = some (l, r)) := TO.out.done (by omega)
          have O2 : Hid (wr.ownsRow w.heap.size 27 2 (.slice (some ⟨w1.heap.size, 0, none⟩) ts.length ts.length) l.length (l.flatMap encM)) := by
            have h := own_lower OW.out hs1
            rw [ek, Nat.sub_self, List.replicate_zero, List.append_nil] at h
            show World.ownsRow _ _ _ _ _ _ _
            rw [show l.length = ts.length by omega]
            exact h
          have ML : Hid (MlR wr (.slice (some ⟨w1.heap.size, 0, none⟩) ts.length ts.length) l) := MlR.ownd O2.out
          have hl5 : l.length ≤ 5000 := by omega
          have HBW : Hid (Below w.heap.size w wr) := HB1.out.trans (HB.out.mono hs1)
          have hsw := HBW.out.size
          clear ek hll OW TO OT RX1 HB
          by_cases hr : r = []
          · subst hr
            have HA : Hid (∀ X, MlR X (.slice (some ⟨w1.heap.size, 0, none⟩) ts.length ts.length) l → Calls Try.prog 26 #[.slice (some ⟨w1.heap.size, 0, none⟩) ts.length ts.length] X fun e w' => e = .returned (.bool (!mayA l)) ∧ Below X.heap.size X w') := fun X hX => anyBarred_any _ l X hX
            cases hma : mayA l
            · have HN : Hid (∀ w', Below w.heap.size w w' → P (.returned (.tuple #[.slice none 0 0, .int .i64 3])) w') := fun w' hw => HNo2.out w' (by rw [HD.out]; exact endC_may hma) hw
              rw [hma] at HA
              clear hma HD
              go_wp2_with fail
              refine (HA.out _ ML.out).mono ?_
              rintro e w3 ⟨rfl, hb3⟩
              have HE : Hid (P (.returned (.tuple #[.slice none 0 0, .int .i64 3])) w3) := HN.out w3 (HBW.out.trans (hb3.mono hsw))
              clear hb3
              go_wp2_with fail
              exact HE.out
            · have HI : Hid (∀ X, MlR X (.slice (some ⟨w1.heap.size, 0, none⟩) ts.length ts.length) l → Calls Try.prog 57 #[.slice (some ⟨w1.heap.size, 0, none⟩) ts.length ts.length] X fun e w' => e = .returned (.bool (srtMb l)) ∧ Below X.heap.size X w') := fun X hX => inOrderQ_any _ l X hX hl5
              rw [hma] at HA
              cases hso : srtMb l
              · have HN : Hid (∀ w', Below w.heap.size w w' → P (.returned (.tuple #[.slice none 0 0, .int .i64 3])) w') := fun w' hw => HNo2.out w' (by rw [HD.out]; exact endC_srt hso) hw
                rw [hso] at HI
                clear hma hso HD
                go_wp2_with fail
                refine (HA.out _ ML.out).mono ?_
                rintro e w3 ⟨rfl, hb3⟩
                have B3 : Hid (Below w.heap.size w w3) := HBW.out.trans (hb3.mono hsw)
                have M3 : Hid (MlR w3 (.slice (some ⟨w1.heap.size, 0, none⟩) ts.length ts.length) l) := ML.out.below hb3 (Nat.le_refl _)
                clear hb3
                go_wp2_with fail
                refine (HI.out _ M3.out).mono ?_
                rintro e w4 ⟨rfl, hb4⟩
                have HE : Hid (P (.returned (.tuple #[.slice none 0 0, .int .i64 3])) w4) := HN.out w4 (B3.out.trans (hb4.mono B3.out.size))
                clear hb4
                go_wp2_with fail
                exact HE.out
              · have HN : Hid (∀ w', w'.ownsRow w.heap.size 27 2 (.slice (some ⟨w1.heap.size, 0, none⟩) ts.length ts.length) l.length (l.flatMap encM) → Below w.heap.size w w' → P (.returned (.tuple #[.slice (some ⟨w1.heap.size, 0, none⟩) ts.length ts.length, .int .i64 0])) w') := fun w' ho hw => HYes2.out l _ w' (by rw [HD.out]; exact endC_yes hma hso) ho hw
                rw [hso] at HI
                clear hma hso HD
                go_wp2_with fail
                refine (HA.out _ ML.out).mono ?_
                rintro e w3 ⟨rfl, hb3⟩
                have B3 : Hid (Below w.heap.size w w3) := HBW.out.trans (hb3.mono hsw)
                have M3 : Hid (MlR w3 (.slice (some ⟨w1.heap.size, 0, none⟩) ts.length ts.length) l) := ML.out.below hb3 (Nat.le_refl _)
                have O3 : Hid (w3.ownsRow w.heap.size 27 2 (.slice (some ⟨w1.heap.size, 0, none⟩) ts.length ts.length) l.length (l.flatMap encM)) := own_below O2.out hb3 (Nat.le_refl _)
                clear hb3
                go_wp2_with fail
                refine (HI.out _ M3.out).mono ?_
                rintro e w4 ⟨rfl, hb4⟩
                have HE : Hid (P (.returned (.tuple #[.slice (some ⟨w1.heap.size, 0, none⟩) ts.length ts.length, .int .i64 0])) w4) := HN.out w4 (own_below O3.out hb4 (Nat.le_refl _)) (B3.out.trans (hb4.mono B3.out.size))
                clear hb4
                go_wp2_with fail
                exact HE.out
          · have HE : Hid (P (.returned (.tuple #[.slice none 0 0, .int .i64 3])) wr) := HNo2.out wr (by rw [HD.out]; exact endC_more hr) HBW.out
            have hrl : (0 : Int) < (r.length : Int) := by
              cases r with
              | nil => exact absurd rfl hr
              | cons x r => simp
            clear hr HD RX
            generalize r.length = rl at *
            go_wp2_with fail
            exact HE.out
    · have HX : Hid _ := HNo.out (runF_len he hlen)
      generalize RefP w (errR (runF b)) ((runF b).getD []) = P at *
      rw [he] at HU
      clear he HNo HYes h hb
      go_enter Try.func39, Try.ntmps39
      go_wp2_with fail
      refine (HU.out _ HR.out).mono ?_
      rintro e1 w1 ⟨v1, rfl, ho1, hb1⟩
      obtain ⟨a1, c1, rfl⟩ := own_slice ho1
      have HE : Hid (P (.returned (.tuple #[.slice none 0 0, .int .i64 3])) w1) := HX.out _ hb1
      clear hb1 HX ho1
      by_cases h1 : (ts.length : Int) < 1
      · go_wp2_with fail
        exact HE.out
      · have h2 : (1000 : Int) < ts.length := by omega
        go_wp2_with fail
        exact HE.out
end Go.Proofs.Ytihghhmhgakkaaa

namespace Go.Proofs.Ytihghhmhgakkaaa
set_option maxRecDepth 100000
open Go.ChangeShapes Go.WideShapes Go.ChangeAt Go.RowKit

theorem boxQ_set {w : World} {q i : Nat} {cs : Array Value} {u : Value} {t : TypeId} (h : w.heap[q]? = some (.cells cs t (0, 0))) : (w.setCell ⟨q, i, none⟩ u).heap[q]? = some (.cells (cs.setIfInBounds i u) t (0, 0)) := by
  simp only [World.setCell, Array.getElem?_modify, if_true]
  rw [h]
  rfl
theorem boxQ_cells {w : World} {q : Nat} {cs : Array Value} {t : TypeId} (h : w.heap[q]? = some (.cells cs t (0, 0))) (i : Nat) : w.cell? ⟨q, i, none⟩ = cs[i]? := cell_of_row _ _ _ _ _ _ h
/-- The block q holds a queue. -/
def QX (w : World) (q : Nat) (a b c : Value) : Prop := w.heap[q]? = some (.cells #[a, b, c] 25 (0, 0))
theorem QX.cells {w : World} {q : Nat} {a b c : Value} (h : QX w q a b c) : w.cell? ⟨q, 0, none⟩ = some a ∧ w.cell? ⟨q, 1, none⟩ = some b ∧ w.cell? ⟨q, 2, none⟩ = some c := ⟨boxQ_cells h 0, boxQ_cells h 1, boxQ_cells h 2⟩
theorem QX.frozen {w : World} {q : Nat} {a b c : Value} (h : QX w q a b c) (i : Nat) : w.frozen? ⟨q, i, none⟩ = false := box_frozen h i
theorem QX.lt {w : World} {q : Nat} {a b c : Value} (h : QX w q a b c) : q < w.heap.size := (Array.getElem?_eq_some_iff.1 h).1
theorem QX.kept {S : Nat → Prop} {w w' : World} {q : Nat} {a b c : Value} (h : QX w q a b c) (hk : Kept S w w') (hs : ¬ S q) : QX w' q a b c := (hk.block q h.lt hs).trans h
theorem QX.below {w w' : World} {q B : Nat} {a b c : Value} (h : QX w q a b c) (hb : Below B w w') (hq : q < B) : QX w' q a b c := (hb.block q hq).trans h
theorem QX.new (w : World) (a b c : Value) : QX (w.alloc (.cells #[a, b, c] 25)) w.heap.size a b c := heap_alloc_new w _
theorem QX.set0 {w : World} {q : Nat} {a b c : Value} (h : QX w q a b c) (u : Value) : QX (w.setCell ⟨q, 0, none⟩ u) q u b c := boxQ_set h
theorem QX.set1 {w : World} {q : Nat} {a b c : Value} (h : QX w q a b c) (u : Value) : QX (w.setCell ⟨q, 1, none⟩ u) q a u c := boxQ_set h
theorem QX.set2 {w : World} {q : Nat} {a b c : Value} (h : QX w q a b c) (u : Value) : QX (w.setCell ⟨q, 2, none⟩ u) q a b u := boxQ_set h
theorem QX.other {w : World} {q p i : Nat} {a b c u : Value} (h : QX w q a b c) (hne : q ≠ p) : QX (w.setCell ⟨p, i, none⟩ u) q a b c := h.kept (Kept.box w p i u) (fun e => hne e)
theorem QX.drew {w : World} {q : Nat} {a b c : Value} (h : QX w q a b c) : QX w.drew q a b c := h
/-- Rows stay where a queue's box is written. -/
theorem QX.own {w : World} {q i base n size : Nat} {e : TypeId} {a b c v u : Value} {xs : List Value} (h : QX w q a b c) (ho : w.ownsRow base e size v n xs) (hne : e ≠ 25) : (w.setCell ⟨q, i, none⟩ u).ownsRow base e size v n xs :=
  (Kept.box w q i u).own ho fun _ hg => own_block ho hg h hne
theorem OwnBs.boxQ {w : World} {q i base : Nat} {a b c v u : Value} {f : List (List Int)} (hq : QX w q a b c) (h : OwnBs w base v f) : OwnBs (w.setCell ⟨q, i, none⟩ u) base v f := h.box hq (by decide) (by decide)
/-- Whole stores. -/
def putQ (w : World) (q : Nat) (a b c : Value) : World := ((w.setCell ⟨q, 0, none⟩ a).setCell ⟨q, 1, none⟩ b).setCell ⟨q, 2, none⟩ c
theorem QX.put {w : World} {q : Nat} {a b c : Value} (h : QX w q a b c) (x y z : Value) : QX (putQ w q x y z) q x y z := ((h.set0 x).set1 y).set2 z
theorem QX.putOther {w : World} {q p : Nat} {a b c x y z : Value} (h : QX w q a b c) (hne : q ≠ p) : QX (putQ w p x y z) q a b c := ((h.other hne).other hne).other hne
theorem QX.ownPut {w : World} {q base n size : Nat} {e : TypeId} {a b c v x y z : Value} {xs : List Value} (h : QX w q a b c) (ho : w.ownsRow base e size v n xs) (hne : e ≠ 25) : (putQ w q x y z).ownsRow base e size v n xs :=
  ((h.set0 x).set1 y).own ((h.set0 x).own (h.own ho hne) hne) hne
theorem OwnBs.putQ {w : World} {q base : Nat} {a b c v x y z : Value} {f : List (List Int)} (hq : QX w q a b c) (h : OwnBs w base v f) : OwnBs (putQ w q x y z) base v f := (((h.boxQ hq).boxQ (hq.set0 x)).boxQ ((hq.set0 x).set1 y))
theorem below_putQ {B : Nat} {w0 w : World} {q : Nat} (h : Below B w0 w) (hq : B ≤ q) (x y z : Value) : Below B w0 (putQ w q x y z) := ((h.setCell (p := ⟨q, 0, none⟩) hq x).setCell (p := ⟨q, 1, none⟩) hq y).setCell (p := ⟨q, 2, none⟩) hq z
/-- A box made ahead of a call, behind it. -/
theorem newQ {W V : World} (h : Below (W.drew.alloc (.cells #[.int .i64 0, .slice none 0 0, .slice none 0 0] 25)).heap.size (W.drew.alloc (.cells #[.int .i64 0, .slice none 0 0, .slice none 0 0] 25)) V) : QX V W.heap.size (.int .i64 0) (.slice none 0 0) (.slice none 0 0) := (QX.new W.drew (.int .i64 0) (.slice none 0 0) (.slice none 0 0)).below h (by simp)
theorem QX.all {w : World} {q : Nat} {a b c : Value} (h : QX w q a b c) : w.cell? ⟨q, 0, none⟩ = some a ∧ w.cell? ⟨q, 1, none⟩ = some b ∧ w.cell? ⟨q, 2, none⟩ = some c ∧ (w.frozen? ⟨q, 0, none⟩ = false ∧ w.frozen? ⟨q, 1, none⟩ = false ∧ w.frozen? ⟨q, 2, none⟩ = false) := ⟨h.cells.1, h.cells.2.1, h.cells.2.2, h.frozen 0, h.frozen 1, h.frozen 2⟩
end Go.Proofs.Ytihghhmhgakkaaa

namespace Go.Proofs.Ytihghhmhgakkaaa
set_option maxRecDepth 100000
open Go.ChangeShapes Go.WideShapes Go.ChangeAt Go.RowKit

/-- P9.3, of the budget and what is loose. -/
def looB (n : Int) (lo : List Ml) : Bool := decide (1 ≤ n ∧ n ≤ 1000 ∧ (lo.length : Int) < n) && mayA lo
theorem looB_no {n : Int} {lo : List Ml} (h : ¬ (1 ≤ n ∧ n ≤ 1000 ∧ (lo.length : Int) < n)) : looB n lo = false := by unfold looB; rw [decide_eq_false h]; rfl
theorem looB_yes {n : Int} {lo : List Ml} (h : 1 ≤ n ∧ n ≤ 1000 ∧ (lo.length : Int) < n) : looB n lo = mayA lo := by unfold looB; rw [decide_eq_true h]; rfl
theorem okQ_loo (n : Int) (lo : List Ml) (m : Nat) : okQ n lo m = (looB n lo && decide (m ≤ 5000)) := by
  rw [Bool.eq_iff_iff, okQ_iff, Bool.and_eq_true]
  unfold looB
  rw [Bool.and_eq_true, decide_eq_true_iff, decide_eq_true_iff]
  exact ⟨fun ⟨⟨a, b, c, d⟩, e⟩ => ⟨⟨⟨a, b, c⟩, e⟩, d⟩, fun ⟨⟨⟨a, b, c⟩, e⟩, d⟩ => ⟨⟨a, b, c, d⟩, e⟩⟩

set_option maxHeartbeats 1000000 in
theorem looseMayBe_any (n : Int) (vl vr : Value) (lo : List Ml) (w : World) (h : MlR w vl lo) :
    Calls Try.prog 38 #[.agg #[.int .i64 n, vl, vr]] w fun e w' => e = .returned (.bool (looB n lo)) ∧ Below w.heap.size w w' := by
  have HR : Hid (MlR w vl lo) := h
  obtain ⟨a, cap, rfl, hc, hm, _, _⟩ := h
  unfold maxLen at hm
  have hb : ∀ o, Below w.heap.size w (w.alloc o) := fun o => below_alloc w o
  by_cases h0 : 1 ≤ n
  · by_cases h1 : n ≤ 1000
    · by_cases h2 : (lo.length : Int) < n
      · rw [looB_yes ⟨h0, h1, h2⟩]
        have HA : Hid (∀ X, MlR X (.slice a lo.length cap) lo → Calls Try.prog 26 #[.slice a lo.length cap] X fun e w' => e = .returned (.bool (!mayA lo)) ∧ Below X.heap.size X w') := fun X hX => anyBarred_any _ lo X hX
        have e0 : decide (1 ≤ n) = true := decide_eq_true h0
        have e1 : decide (n ≤ 1000) = true := decide_eq_true h1
        have e2 : decide ((lo.length : Int) < n) = true := decide_eq_true h2
        generalize mayA lo = r at HA ⊢
        clear h0 h1 h2
        go_enter Try.func38, Try.ntmps38
        go_wp2_with fail
        refine (HA.out _ (HR.out.below (hb _) (Nat.le_refl _))).mono ?_
        rintro e w1 ⟨rfl, hb1⟩
        have HB : Hid (Below w.heap.size w w1) := (hb _).trans (hb1.mono (by simp))
        clear hb1
        cases r
        · go_wp2_with fail
          go_ret
          exact ⟨rfl, HB.out⟩
        · go_wp2_with fail
          go_ret
          exact ⟨rfl, HB.out⟩
      · rw [looB_no (by omega)]
        have e2 : decide ((lo.length : Int) < n) = false := decide_eq_false h2
        go_enter Try.func38, Try.ntmps38
        go_wp2_with fail
        go_ret
        exact ⟨rfl, hb _⟩
    · rw [looB_no (by omega)]
      have e1 : decide (n ≤ 1000) = false := decide_eq_false h1
      go_enter Try.func38, Try.ntmps38
      go_wp2_with fail
      go_ret
      exact ⟨rfl, hb _⟩
  · rw [looB_no (by omega)]
    have e1 : decide (1 ≤ n) = false := decide_eq_false h0
    go_enter Try.func38, Try.ntmps38
    go_wp2_with fail
    go_ret
    exact ⟨rfl, hb _⟩

/-- What unpackAll answers. -/
def UnpP (w : World) (o : Option (List (List Ml))) (e : Ending) (w' : World) : Prop := ∃ v', e = .returned (.tuple #[v', .int .i64 (errQ o)]) ∧ OwnLm w' w.heap.size v' (o.getD []) ∧ Below w.heap.size w w'

set_option maxHeartbeats 2000000 in
set_option maxRecDepth 100000 in
theorem unpackAll_any (n : Int) (vl vr : Value) (lo : List Ml) (rs : List (List Int)) (w : World) (h : QuR w vl vr lo rs) (hB : QuB lo rs) :
    Calls Try.prog 25 #[.agg #[.int .i64 n, vl, vr]] w (UnpP w (quF n lo rs)) := by
  have HR : Hid (MlR w vl lo) := h.1
  have HS : Hid (BsR w vr rs) := h.2
  have HBY : Hid (∀ b ∈ rs, ∀ x ∈ b, 0 ≤ x ∧ x ≤ 255) := fun b hb => (hB.2.1 b hb).1
  obtain ⟨a, cap, rfl⟩ := h.1.shape
  obtain ⟨c, cap2, rfl, hc2, hm2, _⟩ := id h.2
  have hlr : rs.length * 24 ≤ 140737488351232 := hB.2.2
  unfold maxLen at hm2
  clear h hB
  have HLo : Hid (∀ X, MlR X (.slice a lo.length cap) lo → Calls Try.prog 38 #[.agg #[.int .i64 n, .slice a lo.length cap, .slice c rs.length cap2]] X fun e w' => e = .returned (.bool (looB n lo)) ∧ Below X.heap.size X w') := fun X hX => looseMayBe_any n _ _ lo X hX
  have HNo : Hid (quF n lo rs = none → ∀ w', Below w.heap.size w w' → UnpP w (quF n lo rs) (.returned (.tuple #[.slice none 0 0, .int .i64 9])) w') := fun e w' hw => by rw [e]; exact ⟨_, rfl, OwnLm.nil _ _, hw⟩
  have HYes : Hid (∀ f, quF n lo rs = some f → ∀ v w', OwnLm w' w.heap.size v f → Below w.heap.size w w' → UnpP w (quF n lo rs) (.returned (.tuple #[v, .int .i64 0])) w') := fun f e v w' ho hw => by rw [e]; exact ⟨_, rfl, ho, hw⟩
  cases hlo : looB n lo
  · have HX : Hid _ := HNo.out (quF_no (by rw [okQ_loo, hlo]; rfl))
    generalize UnpP w (quF n lo rs) = P at *
    rw [hlo] at HLo
    clear HNo HYes hlo
    go_enter Try.func25, Try.ntmps25
    go_wp2_with fail
    refine (HLo.out _ (HR.out.below (below_alloc _ _) (Nat.le_refl _))).mono ?_
    rintro e w1 ⟨rfl, hb1⟩
    have HE : Hid (P (.returned (.tuple #[.slice none 0 0, .int .i64 9])) w1) := HX.out _ ((below_alloc _ _).trans (hb1.mono (by simp)))
    clear hb1 HX
    go_wp2_with fail
    exact HE.out
  · by_cases hrl : rs.length ≤ 5000
    · have hok : okQ n lo rs.length = true := by rw [okQ_loo, hlo]; exact decide_eq_true hrl
      have HQ : Hid (quF n lo rs = unpF (5000 - lo.length) rs) := quF_yes hok
      have hle : lo.length < 1000 := by obtain ⟨⟨_, h2, h3, _⟩, _⟩ := okQ_iff.1 hok; omega
      have HNo2 : Hid (unpF (5000 - lo.length) rs = none → ∀ w', Below w.heap.size w w' → UnpP w (quF n lo rs) (.returned (.tuple #[.slice none 0 0, .int .i64 9])) w') := fun e => HNo.out (HQ.out.trans e)
      have HYes2 : Hid (∀ f, unpF (5000 - lo.length) rs = some f → ∀ v w', OwnLm w' w.heap.size v f → Below w.heap.size w w' → UnpP w (quF n lo rs) (.returned (.tuple #[v, .int .i64 0])) w') := fun f e => HYes.out f (HQ.out.trans e)
      generalize UnpP w (quF n lo rs) = P at *
      rw [hlo] at HLo
      clear HNo HYes hlo HQ hok
      have e5 : ¬ (5000 : Int) < (rs.length : Int) := by omega
      obtain ⟨R0, hR0, hR1⟩ : ∃ R0 : Nat, 5000 - lo.length = R0 ∧ IntKind.i64.wrap (5000 - (lo.length : Int)) = (R0 : Int) := ⟨_, rfl, by rw [IntKind.wrap_i64]; omega⟩
      rw [hR0] at HNo2 HYes2
      have hR2 : R0 ≤ 5000 := by omega
      clear hR0
      go_enter Try.func25, Try.ntmps25
      go_wp2_with fail
      refine (HLo.out _ (HR.out.below (below_alloc _ _) (Nat.le_refl _))).mono ?_
      rintro e w1 ⟨rfl, hb1⟩
      have hb1' : Below (w.heap.size + 1) (w.alloc (.cells #[.int .i64 n, .slice a lo.length cap, .slice c rs.length cap2] 25)) w1 := by simpa using hb1
      have B1 : Hid (Below w.heap.size w w1) := box_below hb1'
      obtain ⟨q0, q1, q2⟩ := ((QX.new w (.int .i64 n) (.slice a lo.length cap) (.slice c rs.length cap2)).below hb1' (Nat.lt_succ_self _)).cells
      clear hb1 hb1' HLo
      go_wp2_with fail
      go_loopw [4, 5, 26] (fun m x i wr => ∃ (k R : Nat) (f : List (List Ml)), k ≤ rs.length ∧ i = .int .i64 k ∧ m = .int .i64 R ∧ UpTo R0 rs k f ∧ R0 ≤ R + sumM f ∧ R + sumM f ≤ R0 ∧ OwnLm wr w.heap.size x f ∧ Below w.heap.size w wr) (fun _ _ i _ => rs.length - (intOf i).toNat)
      case atStart => exact ⟨0, R0, [], by omega, rfl, rfl, UpTo.zero _ _, by simp [sumM], by simp [sumM], OwnLm.nil _ _, B1.out⟩
      case round =>
        obtain ⟨k, R, f, hk, rfl, rfl, hto, hr1, hr2, hown, hbel⟩ := hrel
        have TO : Hid (UpTo R0 rs k f) := hto
        have OW : Hid (OwnLm wr w.heap.size u5 f) := hown
        have HB : Hid (Below w.heap.size w wr) := hbel
        have hsr := hbel.size
        have hfl : f.length ≤ k := Nat.le_of_eq hto.1
        obtain ⟨va, vc, rfl⟩ : ∃ a c, u5 = .slice a f.length c := by obtain ⟨a, c, e, _⟩ := hown.reads; exact ⟨a, c, e⟩
        clear hto hown hbel
        by_cases hlt : k < rs.length
        · obtain ⟨b, off, cap', e1, lt, _, _, hv⟩ := (HS.out.below HB.out (Nat.le_refl _)).at (by omega)
          injection e1 with e1 e2 e3
          subst e1 e3
          clear e2
          obtain ⟨l, hl⟩ := getX hlt
          obtain ⟨u, hu, hpr⟩ := hv k l hl
          have HK : Hid (rs[k]? = some l) := hl
          have HU : Hid (∀ X, Reads .u8 X u l → Calls Try.prog 39 #[u] X (RefP X (errR (runF l)) ((runF l).getD []))) := fun X hX => unpack_any u l X hX (HBY.out l (List.mem_of_getElem? hl))
          have HP : Hid (Reads .u8 wr u l) := hpr
          obtain ⟨ua, uc, rfl, _⟩ := id hpr
          clear hl hv hpr
          cases hrf : runF l with
          | none =>
            have HE : Hid (∀ w', Below w.heap.size w w' → P (.returned (.tuple #[.slice none 0 0, .int .i64 9])) w') := HNo2.out (TO.out.bad HK.out hrf)
            rw [hrf] at HU
            clear hrf
            go_wp2_with fail
            refine (HU.out _ HP.out).mono ?_
            rintro e w2 ⟨v2, rfl, _, hb2⟩
            have HX : Hid (P (.returned (.tuple #[.slice none 0 0, .int .i64 9])) w2) := HE.out _ (HB.out.trans (hb2.mono hsr))
            clear hb2
            unfold errR
            go_wp2_with fail
            exact HX.out
          | some x =>
            rw [hrf] at HU
            by_cases hx : x.length ≤ R
            · have TO2 : Hid (UpTo R0 rs (k + 1) (f ++ [x])) := TO.out.step HK.out hrf (by omega)
              have HS2 : Hid (sumM (f ++ [x]) = sumM f + x.length) := sumM_snoc f x
              have hx2 : ¬ (R : Int) < (x.length : Int) := by omega
              have hsub : IntKind.i64.wrap ((R : Int) - (x.length : Int)) = ((R - x.length : Nat) : Int) := by rw [IntKind.wrap_i64]; omega
              obtain ⟨R2, hR3⟩ : ∃ R2, R - x.length = R2 := ⟨_, rfl⟩
              rw [hR3] at hsub
              have hR4 : R2 + x.length ≤ R := by omega
              have hR5 : R ≤ R2 + x.length := by omega
              clear hrf hR3
              go_wp2_with fail
              refine (HU.out _ HP.out).mono ?_
              rintro e w2 ⟨v2, rfl, ho2, hb2⟩
              have O2 : Hid (w2.ownsRow w.heap.size 27 2 v2 x.length (x.flatMap encM)) := own_lower ho2 hsr
              have OL : Hid (OwnLm w2 w.heap.size (.slice va f.length vc) f) := OW.out.kept (Kept.of (S := fun _ => False) hb2) (fun _ _ h => h)
              have B2 : Hid (Below w.heap.size w w2) := HB.out.trans (hb2.mono hsr)
              have hs2 := B2.out.size
              obtain ⟨xa, xc, rfl⟩ := (MlR.ownd O2.out).shape
              clear ho2 hb2
              unfold errR
              go_wp2_with (at_builtin; refine wpList_append_lm rfl _ _ rfl w.heap.size _ f rfl (OL.out.kept (Kept.of (S := fun _ => False) (below_alloc w2 _)) (fun _ _ h => h)) w2.heap.size (.slice xa x.length xc) x rfl (0, 0) (heap_alloc_new _ _) (O2.out.alloc _) ?d1 ?d2 ?_)
              case d1 => omega
              case d2 => simp; omega
              intro g c3 w3 hown3 hg3 _
              have O3 : Hid (OwnLm w3 w.heap.size (.slice (some ⟨g, 0, none⟩) (f.length + 1) c3) (f ++ [x])) := hown3
              have B3 : Hid (Below w.heap.size w w3) := (B2.out.alloc hs2 _).grown hg3 (by simp; omega) (fun j hj => by
                obtain ⟨vs, hrow⟩ := OL.out.row
                exact (own_geM hrow hj).1)
              clear hown3 hg3
              go_wp2_with fail
              go_roundw
              case rel => exact ⟨k + 1, R2, f ++ [x], by omega, by go_num, rfl, TO2.out, by rw [HS2.out]; omega, by rw [HS2.out]; omega, O3.out, B3.out⟩
              case measure => simp [intOf]; omega
            · have HE : Hid (∀ w', Below w.heap.size w w' → P (.returned (.tuple #[.slice none 0 0, .int .i64 9])) w') := HNo2.out (TO.out.much HK.out hrf (by omega))
              have hx2 : (R : Int) < (x.length : Int) := by omega
              clear hrf
              go_wp2_with fail
              refine (HU.out _ HP.out).mono ?_
              rintro e w2 ⟨v2, rfl, ho2, hb2⟩
              have HX : Hid (P (.returned (.tuple #[.slice none 0 0, .int .i64 9])) w2) := HE.out _ (HB.out.trans (hb2.mono hsr))
              obtain ⟨xa, xc, rfl⟩ := (MlR.ownd (show w2.ownsRow wr.heap.size 27 2 v2 x.length (x.flatMap encM) from ho2)).shape
              clear hb2 ho2
              unfold errR
              go_wp2_with fail
              exact HX.out
        · have HX : Hid (P (.returned (.tuple #[.slice va f.length vc, .int .i64 0])) wr) := HYes2.out f (TO.out.done (by omega)) _ _ OW.out HB.out
          clear TO OW
          go_wp2_with fail
          exact HX.out
    · have HX : Hid _ := HNo.out (quF_no (by rw [okQ_loo, hlo]; exact decide_eq_false hrl))
      generalize UnpP w (quF n lo rs) = P at *
      rw [hlo] at HLo
      clear HNo HYes hlo
      have e5 : (5000 : Int) < (rs.length : Int) := by omega
      go_enter Try.func25, Try.ntmps25
      go_wp2_with fail
      refine (HLo.out _ (HR.out.below (below_alloc _ _) (Nat.le_refl _))).mono ?_
      rintro e w1 ⟨rfl, hb1⟩
      have HE : Hid (P (.returned (.tuple #[.slice none 0 0, .int .i64 9])) w1) := HX.out _ ((below_alloc _ _).trans (hb1.mono (by simp)))
      have hb1' : Below (w.heap.size + 1) (w.alloc (.cells #[.int .i64 n, .slice a lo.length cap, .slice c rs.length cap2] 25)) w1 := by simpa using hb1
      obtain ⟨q0, q1, q2⟩ := ((QX.new w (.int .i64 n) (.slice a lo.length cap) (.slice c rs.length cap2)).below hb1' (Nat.lt_succ_self _)).cells
      clear hb1 hb1' HX
      go_wp2_with fail
      exact HE.out
set_option maxHeartbeats 1000000 in
set_option maxRecDepth 100000 in
theorem countQ_any (v : Value) (f : List (List Ml)) (w : World) (h : LmR w v f) (hs : sumM f ≤ 4611686018427387904) :
    Calls Try.prog 27 #[v] w fun e w' => e = .returned (.int .i64 (sumM f : Nat)) ∧ w' = w := by
  have HR : Hid (LmR w v f) := h
  obtain ⟨a, cap, rfl, hc, hm, _⟩ := h
  unfold maxLen at hm
  go_enter Try.func27, Try.ntmps27
  go_wp2_with fail
  go_loopw [3, 8] (fun s i wr => ∃ k : Nat, k ≤ f.length ∧ i = .int .i64 k ∧ s = .int .i64 (sumM (f.take k) : Nat) ∧ wr = w) (fun _ i _ => f.length - (intOf i).toNat)
  case atStart => exact ⟨0, by omega, rfl, rfl, rfl⟩
  case round =>
    obtain ⟨k, hk, rfl, rfl, rfl⟩ := hrel
    by_cases hlt : k < f.length
    · obtain ⟨b, off, cap', e1, lt, _, _, hv⟩ := HR.out.at (by omega)
      injection e1 with e1 _ e3
      subst e1 e3
      obtain ⟨l, hl⟩ := getX hlt
      obtain ⟨u, hu, hpr⟩ := hv k l hl
      obtain ⟨ua, uc, rfl⟩ := hpr.shape
      have HT : Hid (sumM (f.take (k + 1)) = sumM (f.take k) + l.length) := sumM_take hl
      have hs1 := sumM_le f (k + 1)
      have hs2 := HT.out
      have hs3 : sumM (f.take k) + l.length ≤ 4611686018427387904 := by omega
      clear hs1 hs2 hl hv hpr
      generalize sumM (f.take k) = s at *
      go_wp2_with fail
      go_roundw
      case rel => exact ⟨k + 1, by omega, by go_num, by rw [HT.out]; go_num, trivial⟩
      case measure => simp [intOf]; omega
    · have ek : f.take k = f := List.take_of_length_le (by omega)
      have HT : Hid (sumM (f.take k) = sumM f) := by show _ = _; rw [ek]
      clear ek
      generalize sumM (f.take k) = s at *
      go_wp2_with fail
      go_ret
      exact ⟨by rw [HT.out]; rfl, rfl⟩
end Go.Proofs.Ytihghhmhgakkaaa

namespace Go.Proofs.Ytihghhmhgakkaaa
open Go.Shelf
def Try.sortM_ren : Go.Shelf.Ren := ⟨fun | 6 => 50 | 15 => 65 | 14 => 64 | 28 => 88 | 29 => 89 | 20 => 80 | 21 => 81 | 22 => 82 | 23 => 83 | 24 => 84 | 25 => 85 | 26 => 86 | 27 => 87 | 46 => 95 | 47 => 96 | 48 => 97 | 49 => 98 | 50 => 99 | 57 => 100 | n => n, fun | 22 => 22 | 24 => 27 | 25 => 76 | 3 => 3 | 39 => 90 | 0 => 0 | 53 => 117 | 55 => 70 | 4 => 4 | 46 => 110 | 45 => 109 | 50 => 114 | 5 => 5 | 9 => 9 | 66 => 127 | 70 => 131 | 76 => 133 | 77 => 86 | n => n, fun | n => n⟩
theorem Try.sortM : Go.Proofs.SlLaysF0.n6 Try.prog Try.sortM_ren := {
  mixed := by kernel_rfl
  f6 := ⟨Try.f50.name, by decide, Try.func50.trans (congrArg some (by kernel_rfl))⟩
  f14 := ⟨Try.f64.name, by decide, Try.func64.trans (congrArg some (by kernel_rfl))⟩
  f15 := Try.func65.trans (congrArg some (by kernel_rfl))
  f20 := ⟨Try.f80.name, by decide, Try.func80.trans (congrArg some (by kernel_rfl))⟩
  f21 := ⟨Try.f81.name, by decide, Try.func81.trans (congrArg some (by kernel_rfl))⟩
  f22 := ⟨Try.f82.name, by decide, Try.func82.trans (congrArg some (by kernel_rfl))⟩
  f23 := ⟨Try.f83.name, by decide, Try.func83.trans (congrArg some (by kernel_rfl))⟩
  f24 := ⟨Try.f84.name, by decide, Try.func84.trans (congrArg some (by kernel_rfl))⟩
  f25 := ⟨Try.f85.name, by decide, Try.func85.trans (congrArg some (by kernel_rfl))⟩
  f26 := ⟨Try.f86.name, by decide, Try.func86.trans (congrArg some (by kernel_rfl))⟩
  f27 := ⟨Try.f87.name, by decide, Try.func87.trans (congrArg some (by kernel_rfl))⟩
  f28 := Try.func88.trans (congrArg some (by kernel_rfl))
  f29 := Try.func89.trans (congrArg some (by kernel_rfl))
  f46 := ⟨Try.f95.name, by decide, Try.func95.trans (congrArg some (by kernel_rfl))⟩
  f47 := Try.func96.trans (congrArg some (by kernel_rfl))
  f48 := Try.func97.trans (congrArg some (by kernel_rfl))
  f49 := ⟨Try.f98.name, by decide, Try.func98.trans (congrArg some (by kernel_rfl))⟩
  f50 := ⟨Try.f99.name, by decide, Try.func99.trans (congrArg some (by kernel_rfl))⟩
  f57 := ⟨Try.f100.name, by decide, Try.func100.trans (congrArg some (by kernel_rfl))⟩
  t0 := Try.underlying0
  a0 := Try.isAgg0
  z0 := Try.sizeOf0
  v0 := Try.zeroValue0
  t3 := Try.underlying3
  a3 := Try.isAgg3
  z3 := Try.sizeOf3
  v3 := Try.zeroValue3
  t4 := Try.underlying4
  a4 := Try.isAgg4
  z4 := Try.sizeOf4
  v4 := Try.zeroValue4
  t5 := Try.underlying5
  a5 := Try.isAgg5
  z5 := Try.sizeOf5
  v5 := Try.zeroValue5
  t9 := Try.underlying9
  a9 := Try.isAgg9
  z9 := Try.sizeOf9
  v9 := Try.zeroValue9
  t22 := Try.underlying22
  a22 := Try.isAgg22
  z22 := Try.sizeOf22
  v22 := Try.zeroValue22
  t25 := Try.underlying76
  a25 := Try.isAgg76
  z25 := Try.sizeOf76
  v25 := Try.zeroValue76
  t39 := Try.underlying90
  a39 := Try.isAgg90
  z39 := Try.sizeOf90
  v39 := Try.zeroValue90
  t45 := Try.underlying109
  a45 := Try.isAgg109
  z45 := Try.sizeOf109
  v45 := Try.zeroValue109
  t46 := Try.underlying110
  a46 := Try.isAgg110
  z46 := Try.sizeOf110
  v46 := Try.zeroValue110
  t50 := Try.underlying114
  a50 := Try.isAgg114
  z50 := Try.sizeOf114
  v50 := Try.zeroValue114
  t53 := Try.underlying117
  a53 := Try.isAgg117
  z53 := Try.sizeOf117
  v53 := Try.zeroValue117
  t55 := Try.underlying70
  a55 := Try.isAgg70
  z55 := Try.sizeOf70
  v55 := Try.zeroValue70
  t66 := Try.underlying127
  a66 := Try.isAgg127
  z66 := Try.sizeOf127
  v66 := Try.zeroValue127
  t70 := Try.underlying131
  a70 := Try.isAgg131
  z70 := Try.sizeOf131
  v70 := Try.zeroValue131
  t76 := Try.underlying133
  a76 := Try.isAgg133
  z76 := Try.sizeOf133
  v76 := Try.zeroValue133
  t77 := Try.underlying86
  a77 := Try.isAgg86
  z77 := Try.sizeOf86
  v77 := Try.zeroValue86 }
end Go.Proofs.Ytihghhmhgakkaaa

namespace Go.Proofs.Ytihghhmhgakkaaa
set_option maxRecDepth 100000
open Go.ChangeShapes Go.WideShapes Go.ChangeAt Go.RowKit Go.Sort

theorem ltOf_cmpM (x y : Ml) : ltOf cmpM x y = ltMb x y := cmpM_lt x y
theorem swoM : SWO (ltOf cmpM) where
  irrefl x := by rw [ltOf_cmpM, ltMb_false]; unfold ltM; omega
  trans x y z h1 h2 := by
    rw [ltOf_cmpM, ltMb_true] at *
    unfold ltM at *; omega
  ntrans x y z h1 h2 := by
    rw [ltOf_cmpM, ltMb_false] at *
    unfold ltM at *; omega
theorem totM (x y : Ml) (h1 : ltOf cmpM x y = false) (h2 : ltOf cmpM y x = false) : x = y := by
  rw [ltOf_cmpM, ltMb_false] at h1 h2
  unfold ltM at h1 h2
  have e1 : x.1 = y.1 := by omega
  have e2 : x.2 = y.2 := by omega
  exact Prod.ext e1 e2
theorem sortM_of (es : List Ml) : (es.mergeSort fun x y => !ltOf cmpM y x) = sortM es := by
  unfold sortM
  congr 1
  funext x y
  rw [ltOf_cmpM]
  rfl
/-- A world behind W: blocks are laid, nothing is turned; the boxes of the two pieces of mail. -/
def CmpG (W V : World) (a0 a1 b0 b1 : Int) : Prop :=
  V.cell? ⟨W.heap.size, 0, none⟩ = some (.int .i64 a0) ∧ V.cell? ⟨W.heap.size + 1, 0, none⟩ = some (.int .i64 b0) ∧ V.cell? ⟨W.heap.size, 1, none⟩ = some (.int .i64 a1) ∧ V.cell? ⟨W.heap.size + 1, 1, none⟩ = some (.int .i64 b1) ∧ ∃ q os', V = grow (W.drewN q) os'
theorem cmpG_start (W : World) (a0 a1 b0 b1 : Int) : CmpG W ((W.alloc (.cells #[.int .i64 a0, .int .i64 a1] 27)).alloc (.cells #[.int .i64 b0, .int .i64 b1] 27)).drew a0 a1 b0 b1 := by
  refine ⟨by simp, by simp, by simp, by simp, 1, #[.cells #[.int .i64 a0, .int .i64 a1] 27, .cells #[.int .i64 b0, .int .i64 b1] 27], ?_⟩
  rw [alloc_eq_grow, alloc_eq_grow, grow_grow]; rfl
theorem cmpG_alloc {W V : World} {a0 a1 b0 b1 : Int} (h : CmpG W V a0 a1 b0 b1) (o : Obj) : CmpG W (V.alloc o) a0 a1 b0 b1 := by
  obtain ⟨h1, h2, h3, h4, q, os, h7⟩ := h
  have c : ∀ {p : Addr} {v : Value}, V.cell? p = some v → (V.alloc o).cell? p = some v := fun {p v} hp => ((below_alloc V o).cell (p := p) (World.block_lt_of_cell? V p hp)).trans hp
  exact ⟨c h1, c h2, c h3, c h4, q, os ++ #[o], by rw [alloc_eq_grow, h7, grow_grow]⟩

set_option maxHeartbeats 2000000 in
set_option maxRecDepth 100000 in
/-- merge's compare: in whatever world; blocks are laid, nothing is turned. -/
theorem mailCmp_grow (x y : Ml) (W : World) : Calls Try.prog 51 #[.agg #[.int .i64 x.1, .int .i64 x.2], .agg #[.int .i64 y.1, .int .i64 y.2]] W fun e w' => e = .returned (.int .i64 (cmpM x y)) ∧ ∃ q os', w' = grow (W.drewN q) os' := by
  unfold cmpM
  obtain ⟨a0, a1⟩ := x
  obtain ⟨b0, b1⟩ := y
  simp only
  have HS0 : Hid (CmpG W _ a0 a1 b0 b1) := cmpG_start W a0 a1 b0 b1
  generalize hor : or2 (cmpI a0 b0) (cmpI a1 b1) = rr
  have c3 : Hid (∀ (q : Nat) (V : World), V.heap[q]? = some (.cells #[.int .i64 (cmpI a0 b0), .int .i64 (cmpI a1 b1)] 3 (0, 0)) → Calls Try.prog 66 #[.slice (some ⟨q, 0, none⟩) 2 2] V fun e w' => e = .returned (.int .i64 rr) ∧ w' = V) := fun q V h => by rw [← hor]; exact cmpOr2_any _ _ q V (by rw [cell_of_row _ _ _ _ _ _ h]; rfl) (by rw [cell_of_row _ _ _ _ _ _ h]; rfl)
  clear hor
  go_enter Try.func51, Try.ntmps51
  go_wp2_with fail
  go_region_held3 (fun V => V.cell? ⟨W.heap.size, 0, none⟩ = some (.int .i64 a0) ∧ V.cell? ⟨W.heap.size + 1, 0, none⟩ = some (.int .i64 b0) ∧ V.cell? ⟨W.heap.size, 1, none⟩ = some (.int .i64 a1) ∧ V.cell? ⟨W.heap.size + 1, 1, none⟩ = some (.int .i64 b1) ∧ ∃ q os', V = grow (W.drewN q) os') (first | exact HS0.out | assumption | exact cmpG_alloc (by assumption) _) (first | (go_at_call 67; refine (cmpInt_any _ _ _).mono ?_; rintro e w1 ⟨rfl, rfl⟩) | (go_at_call 66; refine (c3.out _ _ (heap_third' _ _ _ _ _)).mono ?_; rintro e w1 ⟨rfl, rfl⟩))
  all_goals (rename_i hh; clear hh)
  go_wp2_with fail
  go_ret
  exact ⟨rfl, 1, _, by rw [alloc_eq_grow, alloc_eq_grow, alloc_eq_grow, grow_grow, grow_grow]; rfl⟩
theorem cmpLaysM (blk off size : Nat) (w : World) : CmpLays Try.prog 51 #[] encM 2 cmpM blk off size w := fun _ _ _ _ x y => mailCmp_grow x y _

theorem flatM_get (d : List Ml) (t : Nat) (h : t < d.length * 2) : (d.flatMap encM)[t]? = some (flatK encM 2 d.toArray)[t]! := by
  have h1 : t / 2 < d.length := by omega
  have h2 : t % 2 < 2 := by omega
  have hx : d[t / 2]? = some d[t / 2] := List.getElem?_eq_getElem h1
  have hm2 : t % 2 < (encM d[t / 2]).length := h2
  have hu : (encM d[t / 2])[t % 2]? = some (encM d[t / 2])[t % 2] := List.getElem?_eq_getElem hm2
  have := flat_at encM_len hx hu
  rw [show t / 2 * 2 + t % 2 = t by omega] at this
  rw [this, get_flatK _ _ _ _ (by simpa using h)]
  congr 1
  have e1 : d.toArray[t / 2]! = d[t / 2] := by rw [getElem!_pos _ _ (by simpa using h1)]; simp
  rw [e1]
  exact (getElem!_pos (encM d[t / 2]) (t % 2) hm2).symm

/-- An owned row of edges, in the sort's words. -/
theorem holdsM_own {w : World} {base g n cap : Nat} {d : List Ml} (h : w.ownsRow base 27 2 (.slice (some ⟨g, 0, none⟩) n cap) d.length (d.flatMap encM)) : HoldsK encM 2 w g 0 d.toArray := by
  intro j hj
  rw [size_flatK] at hj
  have hj' : j < d.length * 2 := by simpa using hj
  rcases own_shapeK h with ⟨hv, _⟩ | ⟨g', cap', hv, _, _, _, _, hc⟩
  · cases hv
  · injection hv with h1 h2 h3
    injection h1 with h1
    injection h1 with h1
    subst h1 h2 h3
    refine ⟨?_, frozenK h _⟩
    have := hc j _ (flatM_get d j hj')
    rw [Nat.zero_add]; exact this
/-- .. and back, behind the sort. -/
theorem ownM_sorted {w : World} {base g n cap m : Nat} {d d' : List Ml} {os : Array Obj} (h : w.ownsRow base 27 2 (.slice (some ⟨g, 0, none⟩) n cap) d.length (d.flatMap encM)) (hl : d'.length = d.length) :
    (sortWorldK encM 2 w g 0 m d'.toArray os).ownsRow base 27 2 (.slice (some ⟨g, 0, none⟩) n cap) d'.length (d'.flatMap encM) ∧ Below base w (sortWorldK encM 2 w g 0 m d'.toArray os) := by
  rcases h.2 with ⟨hv, _⟩ | ⟨g', cap', cur, hv, hg, hgg, hc, hm, hcur, htk⟩
  · cases hv
  · injection hv with h1 h2 h3
    injection h1 with h1
    injection h1 with h1
    subst h1 h2 h3
    have lt : g < w.heap.size := (Array.getElem?_eq_some_iff.1 hgg).1
    have hblk : (sortWorldK encM 2 w g 0 m d'.toArray os).heap[g]? = some (.cells (putCells id 0 (flatK encM 2 d'.toArray) cur) 27 (0, 0)) := by
      simp only [sortWorldK, grow, putRowK, putRow, mapBlock, Sort.ahead]
      rw [Array.getElem?_append_left (by simpa using lt), Array.getElem?_modify, if_pos rfl, hgg]
      rfl
    refine ⟨⟨flat_len encM_len d', .inr ⟨g, cap, _, by rw [hl], hg, hblk, by rw [hl]; exact hc, hm, by simp [putCells, hcur], ?_⟩⟩, ?_⟩
    · refine List.ext_getElem? fun t => ?_
      rcases Nat.lt_or_ge t (d'.length * 2) with ht | ht
      · rw [List.getElem?_take_of_lt ht, flatM_get d' t ht, Array.getElem?_toList]
        simp only [putCells, Array.getElem?_mapIdx]
        have hc2 : t < cur.size := by rw [hcur]; rw [hl] at ht; omega
        rw [Array.getElem?_eq_getElem hc2, Option.map_some, if_pos ⟨by omega, by rw [size_flatK]; simpa using ht⟩]
        rfl
      · rw [List.getElem?_eq_none (by rw [List.length_take]; omega), List.getElem?_eq_none (by rw [flat_len encM_len d']; omega)]
    · refine ⟨rfl, rfl, rfl, ?_, fun k hk => ?_⟩
      · simp [sortWorldK, grow, putRowK, putRow, mapBlock, Sort.ahead]
      · have hk2 : k < w.heap.size := by omega
        simp only [sortWorldK, grow, putRowK, putRow, mapBlock, Sort.ahead]
        rw [Array.getElem?_append_left (by simpa using hk2), Array.getElem?_modify, if_neg (by omega)]

/-- slices.SortFunc with compare. -/
theorem sortM_any (base : Nat) (v : Value) (es : List Ml) (w : World) (h : w.ownsRow base 27 2 v es.length (es.flatMap encM)) (hl : es.length < 4611686018427387904) :
    Calls Try.prog 50 #[v, .func (.func 51) #[] #[]] w fun e w' => e = .returned (.tuple #[]) ∧ w'.ownsRow base 27 2 v (sortM es).length ((sortM es).flatMap encM) ∧ Below base w w' := by
  rcases own_shapeK h with ⟨rfl, h0, _⟩ | ⟨g, cap, rfl, hg, lt, hc, hm, _⟩
  · have : es = [] := List.eq_nil_of_length_eq_zero h0
    subst this
    have hcon := AnyF.slices_SortFunc_none Try.sortM none 0 (.func (.func 51) #[] #[]) w
    change Calls Try.prog 50 _ _ _ at hcon
    refine hcon.mono ?_
    rintro e w' ⟨rfl, rfl⟩
    exact ⟨rfl, by simpa [sortM] using h, Below.refl _ _⟩
  · have eg : ∀ args w, (callFunc 51 args).run Try.prog w = .ok (.enter 51 args) w := Go.Proofs.enters_of Try.func51 (by kernel_rfl) rfl
    have hcon := AnyQ.slices_SortFunc_total Try.sortM 2 Try.isAgg27 Try.sizeOf27 encM encM_len (fun x u hu => encM_one x u hu) cmpM swoM 51 #[] g 0 cap es.toArray w eg (cmpLaysM _ _ _ _) (holdsM_own h) lt (by simpa using hl) totM
    change Calls Try.prog 50 _ _ _ at hcon
    rw [show es.toArray.size = es.length by simp] at hcon
    rw [sortM_of] at hcon
    refine hcon.mono ?_
    rintro e w' ⟨rfl, m, os, rfl⟩
    have := ownM_sorted (m := m) (os := os) h (sortM_len es)
    exact ⟨rfl, this.1, this.2⟩

/-- What merge.Sort answers, and the document's. -/
def SrtP (w : World) (es : List Ml) (e : Ending) (w' : World) : Prop := ∃ v', e = .returned (.tuple #[v', .int .i64 (errS es.length)]) ∧ w'.ownsRow w.heap.size 27 2 v' (okL (errS es.length) (sortM es)).length ((okL (errS es.length) (sortM es)).flatMap encM) ∧ Below w.heap.size w w'
set_option maxHeartbeats 1000000 in
theorem mergeSort_any (v : Value) (es : List Ml) (w : World) (h : MlR w v es) : Calls Try.prog 36 #[v] w (SrtP w es) := by
  have HR : Hid (MlR w v es) := h
  obtain ⟨a, cap, rfl, hc, hm, _, _⟩ := h
  unfold maxLen at hm
  by_cases hn : es.length > 5000
  · have e1 : errS es.length = 1 := if_pos hn
    have HE : Hid (SrtP w es (.returned (.tuple #[.slice none 0 0, .int .i64 1])) w) := by
      unfold SrtP
      rw [e1]
      exact ⟨_, rfl, by rw [okL_no (by decide)]; exact World.ownsRow_nil _ _ _ _, Below.refl _ _⟩
    clear e1
    go_enter Try.func36, Try.ntmps36
    go_wp2_with fail
    go_ret2
    exact HE.out
  · have e1 : errS es.length = 0 := if_neg hn
    have HE : Hid (∀ v' w', w'.ownsRow w.heap.size 27 2 v' (sortM es).length ((sortM es).flatMap encM) → Below w.heap.size w w' → SrtP w es (.returned (.tuple #[v', .int .i64 0])) w') := by
      intro v' w' h1 h2
      unfold SrtP
      rw [e1, okL_yes]
      exact ⟨_, rfl, h1, h2⟩
    clear e1
    generalize SrtP w es = P at *
    go_enter Try.func36, Try.ntmps36
    go_wp2_with (at_builtin; refine wpList_append_rowK kM rfl _ _ rfl w.heap.size _ ([] : List Ml) rfl (World.ownsRow_nil _ _ _ _) _ es rfl HR.out ?d1 ?d2 (Nat.le_refl _) ?_)
    case d1 => simp [kM]; omega
    case d2 => simp [maxLen]; omega
    intro v' w' hown hb _
    have OW : Hid (w'.ownsRow w.heap.size 27 2 v' es.length (es.flatMap encM)) := by
      show World.ownsRow _ _ _ _ _ _ _
      simpa [kM] using hown
    have HB : Hid (Below w.heap.size w w') := hb
    obtain ⟨va, vn, vc, rfl⟩ : ∃ a n c, v' = .slice a n c := by obtain ⟨a, c, e, _⟩ := MlR.ownd OW.out; exact ⟨_, _, _, e⟩
    clear hown hb
    go_wp2_with fail
    refine (sortM_any _ _ es _ OW.out (by omega)).mono ?_
    rintro e w2 ⟨rfl, hown2, hb2⟩
    have HX : Hid (P (.returned (.tuple #[.slice va vn vc, .int .i64 0])) w2) := HE.out _ _ hown2 (HB.out.trans hb2)
    clear hown2 hb2
    go_wp2_with fail
    exact HX.out
theorem mergeSort_ref (v : Value) (es : List Ml) (w : World) (h : MlR w v es) : Calls Try.prog 36 #[v] w (RefP w (errS es.length) (sortM es)) := mergeSort_any v es w h
end Go.Proofs.Ytihghhmhgakkaaa

namespace Go.Proofs.Ytihghhmhgakkaaa
set_option maxRecDepth 100000
open Go.ChangeShapes Go.WideShapes Go.ChangeAt Go.RowKit

theorem RefP.lower {w w1 w' : World} {f : Int} {l : List Ml} {e : Ending} (h : RefP w1 f l e w') (hb : Below w.heap.size w w1) : RefP w f l e w' := by
  obtain ⟨v, rfl, ho, h2⟩ := h
  exact ⟨v, rfl, own_lower ho hb.size, hb.trans (h2.mono hb.size)⟩
theorem errM_ok {f : List (List Ml)} (h1 : f.length ≤ 5000) (h2 : sumM f ≤ 5000) (h3 : ∀ l ∈ f, srtMb l = true) : errM f = 0 := by
  unfold errM
  rw [if_neg (by omega), (allB_iff f).2 h3]
  rfl
theorem flat_sort (f : List (List Ml)) (lo : List Ml) : sortM (f ++ [sortM lo]).flatten = sortM (lo ++ f.flatten) := by
  refine sortM_congr ?_
  rw [List.flatten_append, List.flatten_singleton]
  exact List.perm_append_comm.trans (List.Perm.append_right _ (sortM_perm lo))
theorem srtM_sort (l : List Ml) : srtMb (sortM l) = true := (srtMb_iff _).2 (in_srtM (sortM_sorted l))

set_option maxHeartbeats 1000000 in
set_option maxRecDepth 100000 in
theorem queueDrain_any (n : Int) (vl vr : Value) (lo : List Ml) (rs : List (List Int)) (w : World) (h : QuR w vl vr lo rs) (hB : QuB lo rs) :
    Calls Try.prog 13 #[.agg #[.int .i64 n, vl, vr]] w (RefP w (errQ (quF n lo rs)) (drainF lo (quF n lo rs))) := by
  have HR : Hid (QuR w vl vr lo rs) := h
  have HU : Hid (∀ X, QuR X vl vr lo rs → Calls Try.prog 25 #[.agg #[.int .i64 n, vl, vr]] X (UnpP X (quF n lo rs))) := fun X hX => unpackAll_any n vl vr lo rs X hX hB
  have HQ : Hid (∀ f, quF n lo rs = some f → 1 ≤ n ∧ n ≤ 1000 ∧ (lo.length : Int) < n ∧ rs.length ≤ 5000 ∧ mayA lo = true ∧ f.length = rs.length ∧ lo.length + sumM f ≤ 5000 ∧ ∀ l ∈ f, 1 ≤ l.length ∧ l.length ≤ 1000 ∧ mayA l = true ∧ srtMb l = true) := fun f hf => quF_inv hf
  obtain ⟨a, cap, rfl⟩ := h.1.shape
  obtain ⟨c, cap2, rfl, _⟩ := id h.2
  clear h hB
  generalize quF n lo rs = o at *
  have hb : ∀ o, Below w.heap.size w (w.alloc o) := fun o => below_alloc w o
  cases o with
  | none =>
    have HE : Hid (∀ w', Below w.heap.size w w' → RefP w (errQ (none : Option (List (List Ml)))) (drainF lo none) (.returned (.tuple #[.slice none 0 0, .int .i64 9])) w') := fun w' hw => RefP.no (by decide) hw
    generalize RefP w (errQ (none : Option (List (List Ml)))) (drainF lo none) = P at *
    go_enter Try.func13, Try.ntmps13
    go_wp2_with fail
    refine (HU.out _ (HR.out.below (hb _) (Nat.le_refl _))).mono ?_
    rintro e w1 ⟨v1, rfl, ho, hb1⟩
    have HX : Hid (P (.returned (.tuple #[.slice none 0 0, .int .i64 9])) w1) := HE.out w1 ((hb _).trans (hb1.mono (by simp)))
    clear hb1 ho
    unfold errQ
    go_wp2_with fail
    exact HX.out
  | some f =>
    obtain ⟨_, h2, h3, _, _, h6, h7, h8⟩ := HQ.out f rfl
    have hfl : f.length ≤ sumM f := sumM_ge f fun l hl => (h8 l hl).1
    have hf5 : f.length ≤ 5000 := by omega
    have hlo : lo.length < 1000 := by omega
    have HE0 : Hid (∀ w1 v w', Below w.heap.size w w1 → RefP w1 0 (sortM (lo ++ f.flatten)) (.returned v) w' → RefP w (errQ (some f)) (drainF lo (some f)) (.returned v) w') := fun w1 v w' hb hp => hp.lower hb
    by_cases h0 : lo = []
    · have HM : Hid (∀ v X, LmR X v f → Calls Try.prog 37 #[v] X (RefP X 0 (sortM (lo ++ f.flatten)))) := fun v X hX => by
        have := lists_merge v f X hX (fun l hl => by have := (h8 l hl).2.1; omega)
        rw [errM_ok hf5 (by omega) (fun l hl => (h8 l hl).2.2.2)] at this
        rw [h0]
        exact this
      have hl0 : ¬ (0 : Int) < (lo.length : Int) := by rw [h0]; simp
      generalize RefP w (errQ (some f)) (drainF lo (some f)) = P at *
      clear HQ h6 h7 h8 h0 h2 h3
      go_enter Try.func13, Try.ntmps13
      go_wp2_with fail
      refine (HU.out _ (HR.out.below (hb _) (Nat.le_refl _))).mono ?_
      rintro e w1 ⟨v1, rfl, ho, hb1⟩
      have hb1' : Below (w.heap.size + 1) (w.alloc (.cells #[.int .i64 n, .slice a lo.length cap, .slice c rs.length cap2] 25)) w1 := by simpa using hb1
      obtain ⟨q0, q1, q2⟩ := ((QX.new w (.int .i64 n) (.slice a lo.length cap) (.slice c rs.length cap2)).below hb1' (Nat.lt_succ_self _)).cells
      have B1 : Hid (Below w.heap.size w w1) := box_below hb1'
      have L1 : Hid (LmR w1 v1 f) := ho.reads
      obtain ⟨fa, fc, rfl⟩ : ∃ a c, v1 = .slice a f.length c := by obtain ⟨a, c, e, _⟩ := ho.reads; exact ⟨a, c, e⟩
      clear hb1 hb1' ho HU HR
      generalize lo.length = ll at *
      unfold errQ
      go_wp2_with fail
      refine (HM.out _ _ L1.out).mono ?_
      rintro e w2 hp
      obtain ⟨v2, rfl, _, _⟩ := id hp
      have HX : Hid (P (.returned (.tuple #[v2, .int .i64 0])) w2) := HE0.out w1 _ w2 B1.out hp
      clear hp
      go_wp2_with fail
      exact HX.out
    · have h1 : 1 ≤ lo.length := by
        cases lo with
        | nil => exact absurd rfl h0
        | cons x l => simp
      have HM : Hid (∀ v X, LmR X v (f ++ [sortM lo]) → Calls Try.prog 37 #[v] X (RefP X 0 (sortM (lo ++ f.flatten)))) := fun v X hX => by
        have := lists_merge v (f ++ [sortM lo]) X hX (fun l hl => by
          rcases List.mem_append.1 hl with hl | hl
          · have := (h8 l hl).2.1; omega
          · rw [List.mem_singleton.1 hl, sortM_len]; omega)
        rw [errM_ok (by simp; omega) (by rw [sumM_snoc, sortM_len]; omega) (fun l hl => by
          rcases List.mem_append.1 hl with hl | hl
          · exact (h8 l hl).2.2.2
          · rw [List.mem_singleton.1 hl]; exact srtM_sort lo), flat_sort] at this
        exact this
      have hl0 : (0 : Int) < (lo.length : Int) := by omega
      have HS : Hid (∀ X, MlR X (.slice a lo.length cap) lo → Calls Try.prog 36 #[.slice a lo.length cap] X (RefP X 0 (sortM lo))) := fun X hX => by
        have := mergeSort_ref _ lo X hX
        rw [show errS lo.length = 0 from if_neg (by omega)] at this
        exact this
      generalize RefP w (errQ (some f)) (drainF lo (some f)) = P at *
      clear HQ h6 h7 h8 h0 h2 h3 hfl
      go_enter Try.func13, Try.ntmps13
      go_wp2_with fail
      refine (HU.out _ (HR.out.below (hb _) (Nat.le_refl _))).mono ?_
      rintro e w1 ⟨v1, rfl, ho, hb1⟩
      have hb1' : Below (w.heap.size + 1) (w.alloc (.cells #[.int .i64 n, .slice a lo.length cap, .slice c rs.length cap2] 25)) w1 := by simpa using hb1
      obtain ⟨q0, q1, q2⟩ := ((QX.new w (.int .i64 n) (.slice a lo.length cap) (.slice c rs.length cap2)).below hb1' (Nat.lt_succ_self _)).cells
      have B1 : Hid (Below w.heap.size w w1) := box_below hb1'
      have O1 : Hid (OwnLm w1 w.heap.size v1 f) := ho.lower (by simp)
      have R1 : Hid (MlR w1 (.slice a lo.length cap) lo) := HR.out.1.below B1.out (Nat.le_refl _)
      obtain ⟨fa, fc, rfl⟩ : ∃ a c, v1 = .slice a f.length c := by obtain ⟨a, c, e, _⟩ := ho.reads; exact ⟨a, c, e⟩
      have hs1 := B1.out.size
      clear hb1 hb1' ho HU HR
      unfold errQ
      go_wp2_with fail
      refine (HS.out _ R1.out).mono ?_
      rintro e w2 ⟨v2, rfl, ho2, hb2⟩
      have O2 : Hid (w2.ownsRow w.heap.size 27 2 v2 (sortM lo).length ((sortM lo).flatMap encM)) := own_lower ho2 hs1
      have OL : Hid (OwnLm w2 w.heap.size (.slice fa f.length fc) f) := O1.out.kept (Kept.of (S := fun _ => False) hb2) (fun _ _ h => h)
      have B2 : Hid (Below w.heap.size w w2) := B1.out.trans (hb2.mono hs1)
      have hs2 := B2.out.size
      obtain ⟨xa, xc, rfl⟩ := (MlR.ownd O2.out).shape
      clear ho2 hb2 q0 q1 q2
      generalize sortM lo = sl at *
      go_wp2_with (at_builtin; refine wpList_append_lm rfl _ _ rfl w.heap.size _ f rfl (OL.out.kept (Kept.of (S := fun _ => False) (below_alloc w2 _)) (fun _ _ h => h)) w2.heap.size (.slice xa sl.length xc) sl rfl (0, 0) (heap_alloc_new _ _) (O2.out.alloc _) ?d1 ?d2 ?_)
      case d1 => omega
      case d2 => simp; omega
      intro g c3 w3 hown3 hg3 _
      have L3 : Hid (LmR w3 (.slice (some ⟨g, 0, none⟩) (f.length + 1) c3) (f ++ [sl])) := hown3.reads
      have B3 : Hid (Below w.heap.size w w3) := (B2.out.alloc hs2 _).grown hg3 (by simp; omega) (fun j hj => by
        obtain ⟨vs, hrow⟩ := OL.out.row
        exact (own_geM hrow hj).1)
      clear hown3 hg3
      go_wp2_with fail
      refine (HM.out _ _ L3.out).mono ?_
      rintro e w4 hp
      obtain ⟨v4, rfl, _, _⟩ := id hp
      have HX : Hid (P (.returned (.tuple #[v4, .int .i64 0])) w4) := HE0.out w3 _ w4 B3.out hp
      clear hp
      go_wp2_with fail
      exact HX.out
end Go.Proofs.Ytihghhmhgakkaaa

namespace Go.Proofs.Ytihghhmhgakkaaa
set_option maxRecDepth 100000
open Go.ChangeShapes Go.WideShapes Go.ChangeAt Go.RowKit Go.Sort

/-- x stands ahead of y. -/
def aheadMB (x y : Ml) : Bool := if x.1 ≠ y.1 then decide (x.1 < y.1) else decide (x.2 < y.2)
theorem aheadM_lt (x y : Ml) : aheadMB x y = ltMb x y := by
  unfold aheadMB ltMb
  by_cases h1 : x.1 ≠ y.1
  · rw [if_pos h1]; congr 1; exact propext ⟨fun h => by omega, fun h => by omega⟩
  · rw [if_neg h1]; congr 1; exact propext ⟨fun h => by omega, fun h => by omega⟩

set_option maxHeartbeats 1000000 in
theorem aheadM_any (x y : Ml) (w : World) : Calls Try.prog 48 #[.agg #[.int .i64 x.1, .int .i64 x.2], .agg #[.int .i64 y.1, .int .i64 y.2]] w fun e w' => e = .returned (.bool (ltMb x y)) ∧ Below w.heap.size w w' := by
  rw [← aheadM_lt]
  obtain ⟨a0, a1⟩ := x
  obtain ⟨b0, b1⟩ := y
  unfold aheadMB
  simp only
  have hb : ∀ o1 o2, Below w.heap.size w ((w.alloc o1).alloc o2) := fun o1 o2 => (below_alloc w o1).alloc (by simp) o2
  by_cases h1 : a0 = b0
  · rw [if_neg (by simpa using h1)]
    have e1 : (a0 != b0) = false := by simpa using h1
    clear h1
    go_enter Try.func48, Try.ntmps48
    go_wp2_with fail
    go_ret
    exact ⟨rfl, hb _ _⟩
  · rw [if_pos h1]
    have e1 : (a0 != b0) = true := by simpa using h1
    clear h1
    go_enter Try.func48, Try.ntmps48
    go_wp2_with fail
    go_ret
    exact ⟨rfl, hb _ _⟩

set_option maxHeartbeats 1000000 in
set_option maxRecDepth 100000 in
theorem isOrdered_any (v : Value) (l : List Ml) (w : World) (h : MlR w v l) :
    Calls Try.prog 63 #[v] w fun e w' => e = .returned (.bool (srtMb l)) ∧ Below w.heap.size w w' := by
  have HR : Hid (MlR w v l) := h
  obtain ⟨a, cap, rfl, hc, hm, _, _⟩ := h
  unfold maxLen at hm
  have HT : Hid (SrtM l → srtMb l = true) := (srtMb_iff l).2
  have HF : Hid (¬ SrtM l → srtMb l = false) := srtMb_false.2
  generalize srtMb l = r at *
  go_enter Try.func63, Try.ntmps63
  go_wp2_with fail
  go_loopw [3] (fun i wr => ∃ k : Nat, k ≤ l.length ∧ i = .int .i64 ((k : Int) + 1) ∧ (∀ i x y, i < k → l[i]? = some x → l[i + 1]? = some y → ¬ ltM y x) ∧ Below w.heap.size w wr) (fun i _ => l.length + 1 - (intOf i).toNat)
  case atStart => exact ⟨0, by omega, rfl, fun i x y hi => by omega, Below.refl _ _⟩
  case round =>
    obtain ⟨k, hk, rfl, hs, hbel⟩ := hrel
    have HS : Hid (∀ i x y, i < k → l[i]? = some x → l[i + 1]? = some y → ¬ ltM y x) := hs
    have HB : Hid (Below w.heap.size w wr) := hbel
    have hsr := hbel.size
    clear hs hbel
    by_cases hlt : k + 1 < l.length
    · obtain ⟨b, off, cap', e1, _, _, lb, hv⟩ := MlR.at (HR.out.below HB.out (Nat.le_refl _)) (by omega)
      injection e1 with e1 _ e3
      subst e1 e3
      obtain ⟨x, hx⟩ := getX hlt
      obtain ⟨y, hy⟩ := getX (show k < l.length by omega)
      obtain ⟨x1, x2⟩ := hv _ _ hx
      obtain ⟨y1, y2⟩ := hv _ _ hy
      have g1 := cell_regrown x1
      have g2 := cell_regrown x2
      have g3 := cell_regrown y1
      have g4 := cell_regrown y2
      have HN : Hid (¬ ltM x y → ∀ i a b, i < k + 1 → l[i]? = some a → l[i + 1]? = some b → ¬ ltM b a) := fun h i a b hi ha hb2 => by
        by_cases e : i = k
        · subst e
          rw [hy] at ha
          rw [hx] at hb2
          injection ha with ha
          injection hb2 with hb2
          subst ha hb2
          exact h
        · exact HS.out i a b (by omega) ha hb2
      have HRR : Hid (ltM x y → r = false) := fun h => HF.out fun h2 => h2 k y x hy hx h
      have EE : ∀ d os, Calls Try.prog 48 #[.agg #[.int .i64 x.1, .int .i64 x.2], .agg #[.int .i64 y.1, .int .i64 y.2]] (grow (redrawn wr d) os) fun e w'' => e = .returned (.bool (ltMb x y)) ∧ ∃ p : Regrown, w'' = grow (redrawn wr p.d) p.os := fun d os => Calls.regrown_of (aheadM_any x y _)
      have HLT : Hid ((ltMb x y = true → ltM x y) ∧ (ltMb x y = false → ¬ ltM x y)) := ⟨ltMb_true.1, ltMb_false.1⟩
      generalize ltMb x y = c at *
      have i1 : (k : Int) + 1 < (l.length : Int) := by omega
      have i2 : (k : Int) < (l.length : Int) := by omega
      have i3 : (0 : Int) ≤ (k : Int) := by omega
      have i4 : (0 : Int) ≤ (k : Int) + 1 := by omega
      have i5 : (k : Int) + 1 - 1 = (k : Int) := by omega
      have i6 : IntKind.i64.wrap (k : Int) = (k : Int) := wrap_id64 (by omega) (by omega)
      have i7 : IntKind.i64.wrap ((k : Int) + 1 + 1) = (k : Int) + 1 + 1 := wrap_id64 (by omega) (by omega)
      have HSX : Hid True := trivial
      clear x1 x2 y1 y2 hx hy HS hv HSX
      go_wp2_with fail
      refine wp_region_quiet_below (by kernel_rfl) (by kernel_rfl) ?_
      repeat (quiet_step (exact EE _ _))
      refine wpQuiet_nil ?_
      intro _ hw'
      obtain ⟨⟨dq, osq⟩, hw''⟩ := hw'
      have HB9 : Hid (Below w.heap.size w (grow (redrawn wr dq) osq)) := HB.out.trans ((below_regrown wr dq osq).mono hsr)
      subst hw''
      generalize grow (redrawn wr dq) osq = W9 at HB9 ⊢
      clear g1 g2 g3 g4 EE
      cases c with
      | true =>
        have HX : Hid (r = false) := HRR.out (HLT.out.1 rfl)
        go_wp2_with fail
        go_ret
        exact ⟨by rw [HX.out]; rfl, HB9.out⟩
      | false =>
        have HX : Hid _ := HN.out (HLT.out.2 rfl)
        go_wp2_with fail
        go_roundw
        case rel => exact ⟨k + 1, by omega, by go_num, HX.out, HB9.out⟩
        case measure => simp [intOf]; omega
    · have HX : Hid (r = true) := HT.out fun i x y h1 h2 => HS.out i x y (by have := (List.getElem?_eq_some_iff.1 h2).1; omega) h1 h2
      have i1 : ¬ (k : Int) + 1 < (l.length : Int) := by omega
      go_wp2_with fail
      go_ret
      exact ⟨by rw [HX.out]; rfl, HB.out⟩

/-- x is put behind A and ahead of B. -/
theorem putM_sorted {A B : List Ml} {x : Ml} (h : InM (A ++ B)) (hB : ∀ y ∈ B, ltM x y) (hA : ∀ z, A.getLast? = some z → ¬ ltM x z) : InM (A ++ x :: B) := by
  unfold InM at *
  rw [List.pairwise_append] at h ⊢
  obtain ⟨h1, h2, h3⟩ := h
  have hAx : ∀ a ∈ A, leM a x = true := by
    intro a ha
    rw [leM_iff]
    rcases List.eq_nil_or_concat A with rfl | ⟨A', z, rfl⟩
    · simp at ha
    · have hz : ¬ ltM x z := hA z (by simp)
      simp only [List.concat_eq_append] at ha h1
      rw [List.mem_append] at ha
      rcases ha with ha | ha
      · have := (List.pairwise_append.1 h1).2.2 a ha z (by simp)
        rw [leM_iff] at this
        unfold ltM at *; omega
      · simp at ha; subst ha; exact hz
  refine ⟨h1, ?_, ?_⟩
  · rw [List.pairwise_cons]
    exact ⟨fun y hy => by have := hB y hy; rw [leM_iff]; unfold ltM at *; omega, h2⟩
  · intro a ha y hy
    rcases List.mem_cons.1 hy with rfl | hy
    · exact hAx a ha
    · exact h3 a ha y hy
theorem putM_perm {A B s l : List Ml} {x : Ml} (h : A ++ B = s) (hp : s.Perm l) : (A ++ x :: B).Perm (l ++ [x]) := by
  subst h
  exact (List.perm_middle.trans (List.Perm.cons x hp)).trans (List.perm_append_singleton x l).symm
end Go.Proofs.Ytihghhmhgakkaaa
