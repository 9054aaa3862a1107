/-
  Contract of frame.Wrap: the frame of P2.2 in memory of its own, or the error; nothing else is written.
-/
import Derived.Test.YtkgdenbabafeoaaGreatDoorSumWalk
import Derived.Test.YtkgdenbabafeoaaGreatDoorAppendReads
namespace Go.Proofs.YtkgdenbabafeoaaGreatDoor
set_option maxRecDepth 100000
open Go.ChangeShapes Go.WideShapes Go.ChangeAt Go.RowKit

/-- The frame of a payload. -/
def wrap (l : List Int) : List Int := (put l.length ++ l) ++ four (crc (put l.length ++ l))
theorem four_bytes {s : Nat} (h : s < 4294967296) : ∀ x ∈ four s, 0 ≤ x ∧ x ≤ 255 := by
  intro x hx
  simp only [four, List.mem_cons, List.not_mem_nil, or_false] at hx
  omega
theorem head_bytes {l : List Int} (hx : ∀ x ∈ l, 0 ≤ x ∧ x ≤ 255) (hl : l.length ≤ 20000) : ∀ x ∈ put l.length ++ l, 0 ≤ x ∧ x ≤ 255 := by
  intro x h
  rcases List.mem_append.1 h with h | h
  · exact put_bytes (n := (l.length : Int)) (by omega) (by omega) x h
  · exact hx x h
theorem wrap_bytes {l : List Int} (hx : ∀ x ∈ l, 0 ≤ x ∧ x ≤ 255) (hl : l.length ≤ 20000) : ∀ x ∈ wrap l, 0 ≤ x ∧ x ≤ 255 := by
  intro x h
  rcases List.mem_append.1 h with h | h
  · exact head_bytes hx hl x h
  · exact four_bytes (crc_lt (head_bytes hx hl)) x h
theorem wrap_len (l : List Int) : (wrap l).length = (put l.length).length + l.length + 4 := by simp [wrap, four]; omega

set_option maxHeartbeats 400000 in
set_option maxRecDepth 100000 in
theorem wrap_any (v : Value) (xs : List Int) (w : World) (h : Reads .u8 w v xs) (hx : ∀ x ∈ xs, 0 ≤ x ∧ x ≤ 255) (hl : xs.length ≤ 20000) :
    Calls Tryz.prog 22 #[v] w fun e w' =>
      ∃ v', e = .returned (.tuple #[v', .int .i64 0]) ∧ w'.ownsRow w.heap.size 5 1 v' (wrap xs).length ((wrap xs).map (Value.int .u8)) ∧ Below w.heap.size w w' := by
  have HR : Hid (Reads .u8 w v xs) := h
  have HX : Hid (∀ x ∈ xs, 0 ≤ x ∧ x ≤ 255) := hx
  have HB : Hid (∀ x ∈ put xs.length ++ xs, 0 ≤ x ∧ x ≤ 255) := head_bytes hx hl
  have pl := put_len (xs.length : Int)
  have HS : Hid (wrap xs = (put xs.length ++ xs) ++ four (crc (put xs.length ++ xs))) := rfl
  obtain ⟨a, cap, rfl, _, _, _, _⟩ := h
  clear hx
  go_enter Tryz.func22, Tryz.ntmps22
  go_wp2_with fail
  refine (put_any xs.length _ (by omega) (by omega)).mono ?_
  rintro e w1 ⟨v1, rfl, hown1, hbel1⟩
  have R1 : Hid (Reads .u8 w1 (.slice a xs.length cap) xs) := HR.out.below hbel1 (Nat.le_refl _)
  have O1 : Hid (w1.ownsRow w.heap.size 5 1 v1 (put xs.length).length ((put xs.length).map (Value.int .u8))) := hown1
  clear hown1
  have hs1 := hbel1.size
  generalize put (xs.length : Int) = hd at *
  go_wp2_with (at_builtin; refine wpList_append_reads rfl _ _ rfl w.heap.size _ hd rfl O1.out _ xs rfl R1.out (by omega) hs1 ?_)
  intro v2 w2 hown2 hbel2 _
  have B2 : Hid (Below w.heap.size w w2) := hbel1.trans hbel2
  have hs2 := B2.out.size
  clear hbel1 hbel2
  have O2 : Hid (w2.ownsRow w.heap.size 5 1 v2 (hd ++ xs).length ((hd ++ xs).map (Value.int .u8))) := by simpa [Hid] using hown2
  clear hown2
  have hll : (hd ++ xs).length ≤ 20010 := by simp; omega
  generalize hd ++ xs = f at *
  go_wp2_with fail
  refine (newTable_any _).mono ?_
  rintro e w3 ⟨rfl, hT, hbel3, _⟩
  have HT : Hid (Tab w3 w2.heap.size) := hT
  have O3 : Hid (w3.ownsRow w.heap.size 5 1 v2 f.length (f.map (Value.int .u8))) := own_below O2.out hbel3 (Nat.le_refl _)
  have B3 : Hid (Below w.heap.size w w3) := B2.out.trans (hbel3.mono hs2)
  have hs3 := B3.out.size
  clear hT hbel3
  go_wp2_with fail
  refine (sumAsBytes_any _ _ f _ HT.out (reads_own O3.out) HB.out).mono ?_
  rintro e w4 ⟨rfl, hbel4⟩
  have O4 : Hid (w4.ownsRow w.heap.size 5 1 v2 f.length (f.map (Value.int .u8))) := own_below O3.out hbel4 (Nat.le_refl _)
  have B4 : Hid (Below w.heap.size w w4) := B3.out.trans (hbel4.mono hs3)
  have hs4 := B4.out.size
  clear hbel4
  have hc4 : (four (crc f)).length = 4 := rfl
  have R4 : Hid (Reads .u8 (w4.alloc (.cells ((four (crc f)).map (Value.int .u8)).toArray 86)) (.slice (some ⟨w4.heap.size, 0, none⟩) 4 4) (four (crc f))) := reads_block (heap_alloc_new _ _) (by simp [hc4, maxLen])
  have O5 : Hid ((w4.alloc (.cells ((four (crc f)).map (Value.int .u8)).toArray 86)).ownsRow w.heap.size 5 1 v2 f.length (f.map (Value.int .u8))) := O4.out.alloc _
  have B5 : Hid (Below w.heap.size w (w4.alloc (.cells ((four (crc f)).map (Value.int .u8)).toArray 86))) := B4.out.alloc hs4 _
  simp only [four, List.map_cons, List.map_nil] at R4 O5 B5 ⊢
  go_wp2_with (at_builtin; refine wpList_append_reads rfl _ _ rfl w.heap.size _ f rfl O5.out _ (four (crc f)) rfl R4.out (by simp [hc4]; omega) (by simp; omega) ?_)
  intro v6 w6 hown6 hbel6 _
  have O6 : Hid (w6.ownsRow w.heap.size 5 1 v6 (wrap xs).length ((wrap xs).map (Value.int .u8))) := by show World.ownsRow _ _ _ _ _ _ _; rw [HS.out]; simpa [hc4] using hown6
  have B6 : Hid (Below w.heap.size w w6) := B5.out.trans hbel6
  clear hown6 hbel6
  go_wp2
  go_ret2
  exact ⟨v6, rfl, O6.out, B6.out⟩
theorem wrap_over (a : Option Addr) (n cap : Nat) (w : World) (hl : 20000 < n) :
    Calls Tryz.prog 22 #[.slice a n cap] w fun e w' => e = .returned (.tuple #[.slice none 0 0, .int .i64 1]) ∧ w' = w := by
  go_enter Tryz.func22, Tryz.ntmps22
  go_wp2_with fail
  go_ret2
  exact ⟨rfl, rfl⟩
end Go.Proofs.YtkgdenbabafeoaaGreatDoor
