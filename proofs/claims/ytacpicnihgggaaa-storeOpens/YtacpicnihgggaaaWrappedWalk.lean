/-
  Contract of the document's own frame: that of P2.2 in memory of its own, or the error; nothing else is written.
-/
import Derived.Test.YtacpicnihgggaaaWrapWalk
import Derived.Test.YtacpicnihgggaaaSummedWalk
import Derived.Test.YtacpicnihgggaaaPackedWalk
namespace Go.Proofs.Ytacpicnihgggaaa
open Go.ChangeShapes Go.WideShapes Go.ChangeAt Go.RowKit

set_option maxHeartbeats 400000 in
set_option maxRecDepth 100000 in
theorem wrapped_any (v : Value) (xs : List Int) (w : World) (h : Reads .u8 w v xs) (hx : ∀ x ∈ xs, 0 ≤ x ∧ x ≤ 255) (hl : xs.length ≤ 20000) :
    Calls Try.prog 34 #[v] w fun e w' =>
      ∃ v', e = .returned (.tuple #[v', .int .i64 0]) ∧ w'.ownsRow w.heap.size 5 1 v' (wrap xs).length ((wrap xs).map (Value.int .u8)) ∧ Below w.heap.size w w' := by
  have HR : Hid (Reads .u8 w v xs) := h
  have HX : Hid (∀ x ∈ xs, 0 ≤ x ∧ x ≤ 255) := hx
  have HB : Hid (∀ x ∈ put xs.length ++ xs, 0 ≤ x ∧ x ≤ 255) := head_bytes hx hl
  have pl := put_len (xs.length : Int)
  have HS : Hid (wrap xs = (put xs.length ++ xs) ++ four (crc (put xs.length ++ xs))) := rfl
  have hcr := crc_lt HB.out
  obtain ⟨a, cap, rfl, _, _, _, _⟩ := h
  clear hx
  go_enter Try.func34, Try.ntmps34
  go_wp2_with fail
  refine (packed_any 9 (xs.length : Int) _ (by omega) (lt_128_10 (by omega)) (by omega)).mono ?_
  rintro e w1 ⟨v1, rfl, hown1, hbel1⟩
  have O1 : Hid (w1.ownsRow w.heap.size 5 1 v1 (put xs.length).length ((put xs.length).map (Value.int .u8))) := hown1
  have B1 : Hid (Below w.heap.size w w1) := hbel1
  clear hown1 hbel1
  generalize put (xs.length : Int) = hd at *
  go_wp2_with fail
  go_loopw [4, 5] (fun v i wr => ∃ k : Nat, k ≤ xs.length ∧ i = .int .i64 k ∧ wr.ownsRow w.heap.size 5 1 v (hd ++ xs.take k).length ((hd ++ xs.take k).map (Value.int .u8)) ∧ Below w.heap.size w wr) (fun _ i _ => xs.length - (intOf i).toNat)
  case atStart => exact ⟨0, by omega, rfl, by simpa using O1.out, B1.out⟩
  case round =>
    obtain ⟨k, hk, rfl, hown, hbel⟩ := hrel
    have hs := hbel.size
    by_cases hlt : k < xs.length
    · obtain ⟨b, off, cap', e1, hc, hm, hb, hcell⟩ := (HR.out.below hbel (Nat.le_refl _)).plain (by omega)
      injection e1 with e1 _ e3
      subst e1 e3
      have hck := hcell k hlt
      have HTk : Hid (xs.take (k + 1) = xs.take k ++ [xs.getD k 0]) := take_snocI hlt
      have hlen : (hd ++ xs.take k).length ≤ 20010 := by simp; omega
      generalize xs.getD k 0 = x at *
      have OW : Hid (wr.ownsRow w.heap.size 5 1 u4 (hd ++ xs.take k).length ((hd ++ xs.take k).map (Value.int .u8))) := hown
      clear hown
      have HA : Hid (hd ++ xs.take (k + 1) = (hd ++ xs.take k) ++ [x]) := by show _ = _; rw [HTk.out]; simp
      clear HTk
      generalize hd ++ xs.take k = f at *
      clear hcell
      go_wp2_with (at_builtin; refine wpList_append_reads rfl _ _ rfl w.heap.size _ f rfl (OW.out.alloc _) _ [x] rfl (reads_block (xs := [x]) (heap_alloc_new _ _) (by simp [maxLen])) (by simp; omega) (by simp; omega) ?_)
      intro v2 w2 hown2 hbel2 _
      have B2 : Hid (Below w.heap.size w w2) := (hbel.alloc hs _).trans hbel2
      have O2 : Hid (w2.ownsRow w.heap.size 5 1 v2 (hd ++ xs.take (k + 1)).length ((hd ++ xs.take (k + 1)).map (Value.int .u8))) := by show World.ownsRow _ _ _ _ _ _ _; rw [HA.out]; simpa using hown2
      clear hown2 hbel2 hbel
      go_wp2
      go_roundw
      case rel => exact ⟨k + 1, by omega, by go_num, O2.out, B2.out⟩
      case measure => simp [intOf]; omega
    · have ek : xs.take k = xs := List.take_of_length_le (by omega)
      rw [ek] at hown
      clear ek
      have O2 : Hid (wr.ownsRow w.heap.size 5 1 u4 (hd ++ xs).length ((hd ++ xs).map (Value.int .u8))) := hown
      have B2 : Hid (Below w.heap.size w wr) := hbel
      clear hown hbel
      have hll : (hd ++ xs).length ≤ 20010 := by simp; omega
      generalize hd ++ xs = f at *
      go_wp2_with fail
      refine (summed_any _ f _ (reads_own O2.out) HB.out).mono ?_
      rintro e w3 ⟨rfl, rfl⟩
      have hc4 : (four (crc f)).length = 4 := rfl
      have R4 : Hid (Reads .u8 (w3.alloc (.cells ((four (crc f)).map (Value.int .u8)).toArray 5)) (.slice (some ⟨w3.heap.size, 0, none⟩) 4 4) (four (crc f))) := reads_block (heap_alloc_new _ _) (by simp [hc4, maxLen])
      have O5 : Hid ((w3.alloc (.cells ((four (crc f)).map (Value.int .u8)).toArray 5)).ownsRow w.heap.size 5 1 u4 f.length (f.map (Value.int .u8))) := O2.out.alloc _
      have B5 : Hid (Below w.heap.size w (w3.alloc (.cells ((four (crc f)).map (Value.int .u8)).toArray 5))) := B2.out.alloc hs _
      simp only [four, List.map_cons, List.map_nil] at R4 O5 B5
      go_wp2_with (at_builtin; refine wpList_append_reads rfl _ _ rfl w.heap.size _ f rfl O5.out _ (four (crc f)) rfl R4.out (by simp [hc4]; omega) (by simp; omega) ?_)
      intro v6 w6 hown6 hbel6 _
      have O6 : Hid (w6.ownsRow w.heap.size 5 1 v6 (wrap xs).length ((wrap xs).map (Value.int .u8))) := by show World.ownsRow _ _ _ _ _ _ _; rw [HS.out]; simpa [hc4] using hown6
      have B6 : Hid (Below w.heap.size w w6) := B5.out.trans hbel6
      clear hown6 hbel6
      go_wp2
      go_ret2
      exact ⟨v6, rfl, O6.out, B6.out⟩

theorem wrapped_over (a : Option Addr) (n cap : Nat) (w : World) (hl : 20000 < n) :
    Calls Try.prog 34 #[.slice a n cap] w fun e w' => e = .returned (.tuple #[.slice none 0 0, .int .i64 1]) ∧ w' = w := by
  go_enter Try.func34, Try.ntmps34
  go_wp2_with fail
  go_ret2
  exact ⟨rfl, rfl⟩
end Go.Proofs.Ytacpicnihgggaaa
