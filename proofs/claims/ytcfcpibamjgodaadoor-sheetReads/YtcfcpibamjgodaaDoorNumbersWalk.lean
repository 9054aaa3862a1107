/-
  What the walks of sheet.Read ask of package variables; strconv.Atoi at every string; contract of sheet's numbers.
-/
import Derived.Test.YtcfcpibamjgodaaDoorShowLib
import Derived.Test.YtcfcpibamjgodaaDoorShelfR
import Derived.Test.YtcfcpibamjgodaaDoorRowAppend
namespace Go.Proofs.YtcfcpibamjgodaaDoor
set_option maxRecDepth 100000
open Go.ChangeShapes Go.WideShapes Go.ChangeAt Go.RowKit

/-- The package variables of the library, as far as they are read: below B, so they stay. -/
structure VarF (B : Nat) (w : World) : Prop where
  mx : ∃ m, w.cell? ⟨1, 0, none⟩ = some (.int .i64 m)
  es : ∃ t p, w.cell? ⟨2, 0, none⟩ = some (.iface t p)
  er : ∃ t p, w.cell? ⟨3, 0, none⟩ = some (.iface t p)
  tb : Tab10 B w
  lt : 4 ≤ B
theorem VarF.on {B : Nat} {w w' : World} (h : VarF B w) (hb : Below B w w') : VarF B w' := by
  obtain ⟨⟨m, hm⟩, ⟨t, p, h2⟩, ⟨t', p', h3⟩, h4, h5⟩ := h
  exact ⟨⟨m, (hb.cell (p := ⟨1, 0, none⟩) (Nat.lt_of_lt_of_le (by decide) h5)).trans hm⟩, ⟨t, p, (hb.cell (p := ⟨2, 0, none⟩) (Nat.lt_of_lt_of_le (by decide) h5)).trans h2⟩, ⟨t', p', (hb.cell (p := ⟨3, 0, none⟩) (Nat.lt_of_lt_of_le (by decide) h5)).trans h3⟩, h4.on hb, h5⟩
theorem VarF.up {B C : Nat} {w : World} (h : VarF B w) (hB : B ≤ C) : VarF C w := ⟨h.mx, h.es, h.er, h.tb.up hB, Nat.le_trans h.lt hB⟩

/-- The number that strconv.Atoi hands back, whatever the error beside it. -/
def atoiV (l : List UInt8) : Int := match Lib.atoiAll l with
  | .ok v => v
  | .«syntax» => 0
  | .range => Lib.atoiSat l

theorem atoi_any (s : ByteArray) (hs : s.size ≤ 281474976710656) (B : Nat) (w : World) (hV : VarF B w) :
    Calls Tryd.prog 39 #[.string s] w fun e w' => ∃ ev, e = .returned (.tuple #[.int .i64 (atoiV s.data.toList), ev]) ∧ Below w.heap.size w w' := by
  obtain ⟨t, p, h2⟩ := hV.es
  obtain ⟨t', p', h3⟩ := hV.er
  unfold atoiV
  cases h : Lib.atoiAll s.data.toList with
  | ok v =>
    refine (Tryd.strconv_Atoi_ok s (by omega) v h w).mono ?_
    rintro e w' ⟨rfl, rfl | ⟨t, rfl⟩⟩
    · exact ⟨_, rfl, Below.refl _ _⟩
    · exact ⟨_, rfl, Lib.bytesWorld_below w 5 t⟩
  | «syntax» =>
    refine (Tryd.strconv_Atoi_syntax s hs h _ w h2 (.inr ⟨_, _, rfl⟩)).mono ?_
    rintro e w' ⟨N, rfl, _, _, hb⟩
    exact ⟨_, rfl, hb⟩
  | range =>
    refine (Tryd.strconv_Atoi_range s hs h _ w h3 (.inr ⟨_, _, rfl⟩)).mono ?_
    rintro e w' ⟨N, rfl, _, _, hb⟩
    exact ⟨_, rfl, hb⟩

/-- The words of a line. -/
def wordsB (s : ByteArray) : List ByteArray := Lib.splitB ⟨#[32]⟩ 0 (Lib.countB s ⟨#[32]⟩) s
/-- Its numbers. -/
def numsL (s : ByteArray) : List Int := (wordsB s).map fun x => atoiV x.data.toList
theorem words_len (s : ByteArray) : (wordsB s).length = Lib.countB s ⟨#[32]⟩ + 1 := Lib.splitB_all ⟨#[32]⟩ (by decide) 0 _ s rfl
theorem words_le (s : ByteArray) : (wordsB s).length ≤ s.size + 1 := by rw [words_len]; have := Lib.countB_le ⟨#[32]⟩ (by decide) s.size s (Nat.le_refl _); omega
theorem splitB_small (sep : ByteArray) : ∀ (k : Nat) (s : ByteArray) (x : ByteArray), x ∈ Lib.splitB sep 0 k s → x.size ≤ s.size
  | 0, s, x, h => by simp [Lib.splitB] at h; rw [h]; exact Nat.le_refl _
  | k + 1, s, x, h => by
    unfold Lib.splitB at h
    split at h
    · simp at h; rw [h]; exact Nat.le_refl _
    · simp only [List.mem_cons] at h
      rcases h with rfl | h
      · rw [ByteArray.size_extract]; omega
      · have := splitB_small sep k _ x h
        rw [ByteArray.size_extract] at this
        omega
theorem word_small {s x : ByteArray} (h : x ∈ wordsB s) : x.size ≤ s.size := splitB_small _ _ _ _ h

set_option maxHeartbeats 2000000 in
theorem numbers_any (s : ByteArray) (hs : s.size ≤ 20000) (w : World) (hV : VarF w.heap.size w) :
    Calls Tryd.prog 31 #[.string s] w fun e w' => ∃ a n c, e = .returned (.slice a n c) ∧ w'.ownsRow w.heap.size 3 1 (.slice a n c) (numsL s).length ((numsL s).flatMap encI) ∧ Below w.heap.size w w' := by
  obtain ⟨m, hm⟩ := hV.mx
  have HV : Hid (VarF w.heap.size w) := hV
  have HSP := Tryd.strings_Split s ⟨#[32]⟩ m w (by omega) hm (by decide)
  rw [show Lib.splitB ⟨#[32]⟩ 0 (Lib.countB s ⟨#[32]⟩) s = wordsB s from rfl, ← words_len s] at HSP
  have HSM : Hid (∀ x ∈ wordsB s, x.size ≤ 20000) := fun x hx => Nat.le_trans (word_small hx) hs
  have hwl := words_le s
  have HNL : Hid (numsL s = (wordsB s).map fun x => atoiV x.data.toList) := (rfl : numsL s = _)
  generalize numsL s = NL at HNL ⊢
  generalize wordsB s = ws at HSP HSM hwl HNL
  clear hV hm
  go_enter Tryd.func31, Tryd.ntmps31
  go_wp2_with fail
  refine HSP.mono ?_
  rintro e w1 ⟨rfl, hw1⟩
  have HW1 : Hid (w1 = w.alloc (.cells (ws.map Value.string).toArray 9)) := hw1
  have hs1 : w1.heap.size = w.heap.size + 1 := by rw [hw1]; simp
  have HG : Hid (w1.heap[w.heap.size]? = some (.cells (ws.map Value.string).toArray 9 (0, 0))) := by show _ = _; rw [hw1]; exact heap_alloc_new _ _
  have HB1 : Hid (Below w.heap.size w w1) := by show Below _ _ _; rw [hw1]; exact below_alloc _ _
  clear hw1 HSP HW1
  go_wp2_with fail
  go_loopw [3, 11] (fun u i wr => ∃ k : Nat, k ≤ ws.length ∧ i = .int .i64 k ∧ wr.ownsRow (w.heap.size + 1) 3 1 u ((ws.take k).map fun x => atoiV x.data.toList).length (((ws.take k).map fun x => atoiV x.data.toList).flatMap encI) ∧ Below (w.heap.size + 1) w1 wr) (fun _ i _ => ws.length - (intOf i).toNat)
  case atStart => exact ⟨0, by omega, rfl, World.ownsRow_nil _ _ _ _, Below.refl _ _⟩
  case round =>
    obtain ⟨k, hk, rfl, hown, hbel⟩ := hrel
    have OW : Hid (wr.ownsRow (w.heap.size + 1) 3 1 u3 ((ws.take k).map fun x => atoiV x.data.toList).length (((ws.take k).map fun x => atoiV x.data.toList).flatMap encI)) := hown
    have HB : Hid (Below (w.heap.size + 1) w1 wr) := hbel
    have hsr : w.heap.size + 1 ≤ wr.heap.size := by have := hbel.size; omega
    have HGr : Hid (wr.heap[w.heap.size]? = some (.cells (ws.map Value.string).toArray 9 (0, 0))) := (hbel.block _ (by omega)).trans HG.out
    obtain ⟨ua, un, uc, rfl⟩ : ∃ a n c, u3 = .slice a n c := by obtain ⟨a, c, e, _⟩ := RowK.own (show ∀ x : Int, (encI x).length = 1 from fun _ => rfl) hown; exact ⟨_, _, _, e⟩
    clear hown hbel
    by_cases hlt : k < ws.length
    · obtain ⟨x, hx⟩ : ∃ x, ws[k]? = some x := ⟨ws[k], List.getElem?_eq_getElem hlt⟩
      have c1 : wr.cell? ⟨w.heap.size, k, none⟩ = some (.string x) := by rw [cell_of HGr.out]; simp [hx]
      have HXS : Hid (x.size ≤ 20000) := HSM.out x (List.mem_of_getElem? hx)
      have HT : Hid (((ws.take (k + 1)).map fun x => atoiV x.data.toList) = ((ws.take k).map fun x => atoiV x.data.toList) ++ [atoiV x.data.toList]) := by show _ = _; rw [take_snoc hx]; simp
      have hfl : ((ws.take k).map fun x => atoiV x.data.toList).length ≤ 20001 := by simp; omega
      have HAT : Hid (∀ X, VarF w.heap.size X → Calls Tryd.prog 39 #[.string x] X fun e w' => ∃ ev, e = .returned (.tuple #[.int .i64 (atoiV x.data.toList), ev]) ∧ Below X.heap.size X w') := fun X hX => atoi_any x (by have := HXS.out; omega) w.heap.size X hX
      generalize ((ws.take k).map fun x => atoiV x.data.toList) = f at *
      generalize atoiV x.data.toList = d at HAT HT
      clear hx
      go_wp2_with fail
      refine (HAT.out _ ((HV.out.on HB1.out).on (below_low HB.out (by omega)))).mono ?_
      rintro e w2 ⟨ev, rfl, hb2⟩
      have HB2 : Hid (Below wr.heap.size wr w2) := hb2
      have O2 : Hid (w2.ownsRow (w.heap.size + 1) 3 1 (.slice ua un uc) f.length (f.flatMap encI)) := own_below OW.out hb2 (Nat.le_refl _)
      have hs2 := hb2.size
      clear hb2 OW c1 HAT
      go_wp2_with (at_builtin; refine wpList_append_newK kI rfl _ _ rfl (w.heap.size + 1) _ f rfl (O2.out.alloc _) _ d rfl #[.int .i64 d] rfl (0, 0) (heap_alloc_new _ _) (by simp [kI]; omega) (by unfold maxLen; omega) (by simp; omega) ?_)
      intro g c w3 hown3 hb3 _
      have H3 : Hid (w3.ownsRow (w.heap.size + 1) 3 1 (.slice (some ⟨g, 0, none⟩) (f.length + 1) c) ((ws.take (k + 1)).map fun x => atoiV x.data.toList).length (((ws.take (k + 1)).map fun x => atoiV x.data.toList).flatMap encI) ∧ Below (w.heap.size + 1) w1 w3) := by
        rw [HT.out]
        exact ⟨by simpa [kI] using hown3, HB.out.trans ((below_low HB2.out hsr).trans (((Below.refl _ _).alloc (by omega) _).trans hb3))⟩
      clear hown3 hb3
      go_wp2_with fail
      go_roundw
      case rel => exact ⟨k + 1, by omega, by go_num, H3.out⟩
      case measure => simp [intOf]; omega
    · have ek : ws.take k = ws := List.take_of_length_le (by omega)
      have H2 : Hid (wr.ownsRow (w.heap.size + 1) 3 1 (.slice ua un uc) NL.length (NL.flatMap encI)) := by
        have := OW.out
        rw [ek, ← HNL.out] at this
        exact this
      clear ek OW
      go_wp2_with fail
      go_ret
      exact ⟨_, _, _, rfl, own_lower H2.out (by omega), HB1.out.trans (below_low HB.out (by omega))⟩
end Go.Proofs.YtcfcpibamjgodaaDoor
