/-
  Contracts of disk's nameMayBe, fileMayBe and bytes.Clone.
-/
import Derived.Test.YthakibcfmbkpkaaDoorMayWalk
import Derived.Test.YthakibcfmbkpkaaDoorBytesClone
namespace Go.Proofs.YthakibcfmbkpkaaDoor
set_option maxRecDepth 100000
open Go.ChangeShapes Go.WideShapes Go.ChangeAt Go.RowKit

theorem str_empty_size (n : ByteArray) (h : n.size = 0) : n.toList.isEmpty = true := by
  rw [ByteArray.toList_eq]
  have : n.data.toList.length = 0 := by simpa using h
  rw [List.eq_nil_of_length_eq_zero this]; rfl
theorem str_some_size (n : ByteArray) (h : 0 < n.size) : n.toList.isEmpty = false := by
  rw [ByteArray.toList_eq]
  have : 0 < n.data.toList.length := by simpa using h
  cases hh : n.data.toList with
  | nil => rw [hh] at this; simp at this
  | cons a r => rfl

set_option maxHeartbeats 400000 in
theorem nameMay_any (n : ByteArray) (w : World) (hn : n.size ≤ maxLen) : Calls Tryd.prog 52 #[.string n] w fun e w' => e = .returned (.bool (nmB n)) ∧ w' = w := by
  unfold maxLen at hn
  by_cases h1 : n.size = 0
  · have H : Hid (nmB n = false) := by simp [nmB, Hid, h1]
    have he := str_empty_size n h1
    clear h1
    go_enter Tryd.func52, Tryd.ntmps52
    go_wp2
    go_ret
    exact ⟨ret_bool H.out.symm, rfl⟩
  · have he := str_some_size n (by omega)
    by_cases h2 : n.size ≤ 20
    · have H : Hid (nmB n = true) := by simp [nmB, Hid]; omega
      have h2' : (n.size : Int) ≤ 20 := by omega
      go_enter Tryd.func52, Tryd.ntmps52
      go_wp2
      go_ret
      exact ⟨ret_bool H.out.symm, rfl⟩
    · have H : Hid (nmB n = false) := by simp [nmB, Hid]; omega
      have h2' : ¬ (n.size : Int) ≤ 20 := by omega
      go_enter Tryd.func52, Tryd.ntmps52
      go_wp2
      go_ret
      exact ⟨ret_bool H.out.symm, rfl⟩

set_option maxHeartbeats 800000 in
theorem fileMay_any (f : FileL) (a : Option Addr) (cap : Nat) (w : World) (hn : f.name.size ≤ maxLen) (hd : f.data.length ≤ maxLen) :
    Calls Tryd.prog 54 #[.agg #[.string f.name, .slice a f.data.length cap, .int .i64 f.synced]] w fun e w' => e = .returned (.bool (okB f)) ∧ Below w.heap.size w w' := by
  unfold maxLen at hd
  by_cases h1 : nmB f.name = true
  · by_cases h2 : f.data.length ≤ 100000
    · by_cases h3 : 0 ≤ f.synced
      · by_cases h4 : f.synced ≤ f.data.length
        · have H : Hid (okB f = true) := ok_good h1 h2 h3 h4
          have h2' : (f.data.length : Int) ≤ 100000 := by omega
          go_enter Tryd.func54, Tryd.ntmps54
          go_wp2_with (first | (go_at_call 52; refine (nameMay_any _ _ hn).mono ?_; rintro e w' ⟨rfl, rfl⟩))
          go_ret
          exact ⟨ret_bool H.out.symm, below_alloc _ _⟩
        · have H : Hid (okB f = false) := ok_sync (fun h => h4 h.2)
          have h2' : (f.data.length : Int) ≤ 100000 := by omega
          go_enter Tryd.func54, Tryd.ntmps54
          go_wp2_with (first | (go_at_call 52; refine (nameMay_any _ _ hn).mono ?_; rintro e w' ⟨rfl, rfl⟩))
          go_ret
          exact ⟨ret_bool (by rw [H.out]; simpa using h4), below_alloc _ _⟩
      · have H : Hid (okB f = false) := ok_sync (fun h => h3 h.1)
        have h2' : (f.data.length : Int) ≤ 100000 := by omega
        go_enter Tryd.func54, Tryd.ntmps54
        go_wp2_with (first | (go_at_call 52; refine (nameMay_any _ _ hn).mono ?_; rintro e w' ⟨rfl, rfl⟩))
        go_ret
        exact ⟨ret_bool H.out.symm, below_alloc _ _⟩
    · have H : Hid (okB f = false) := ok_long (by omega)
      have h2' : ¬ (f.data.length : Int) ≤ 100000 := by omega
      go_enter Tryd.func54, Tryd.ntmps54
      go_wp2_with (first | (go_at_call 52; refine (nameMay_any _ _ hn).mono ?_; rintro e w' ⟨rfl, rfl⟩))
      go_ret
      exact ⟨ret_bool H.out.symm, below_alloc _ _⟩
  · have h1' : nmB f.name = false := by simpa using h1
    have H : Hid (okB f = false) := ok_name h1'
    clear h1
    go_enter Tryd.func54, Tryd.ntmps54
    go_wp2_with (first | (go_at_call 52; refine (nameMay_any _ _ hn).mono ?_; rintro e w' ⟨rfl, rfl⟩))
    go_ret
    exact ⟨ret_bool H.out.symm, below_alloc _ _⟩

end Go.Proofs.YthakibcfmbkpkaaDoor
