/-
  Contract of the document's own Dec: the decimal digits of a number that is not below 0.
-/
import Derived.Test.YtdeghndcglgfkaaDoorRowBase
import Derived.Lib.ItoaNum
import Derived.Lib.ItoaLen
import Derived.Lib.ItoaMem
import Derived.Test.YtdeghndcglgfkaaDoorRegionEach
import Derived.Shelf.Abstract
namespace Go.Proofs.YtdeghndcglgfkaaDoor
set_option maxRecDepth 100000
open Go.ChangeShapes Go.WideShapes Go.ChangeAt Go.RowKit

theorem bytes_app (a b : List UInt8) : (⟨a.toArray⟩ : ByteArray) ++ ⟨b.toArray⟩ = ⟨(a ++ b).toArray⟩ := by
  apply ByteArray.ext
  simp
theorem dec_len (n : Nat) (h : n ≤ 9223372036854775807) : (Lib.decDigits n).length ≤ 21 := by
  have := Lib.itoa_length_le n (by omega) (by omega)
  rwa [Lib.itoa_nonneg] at this

/-- string([]byte{c}) -/
theorem conv_one (d : Nat) (x : Int) (hx : x = d) (hd : d < 256) (W : World) (g : Nat) (h : W.cell? ⟨g, 0, none⟩ = some (.int .u8 x)) :
    (convert 40 9 (.slice (some ⟨g, 0, none⟩) 1 1)).run Tryd.prog W = .ok (.string ⟨#[UInt8.ofNat d]⟩) W := by
  have := run_convert_bytes_back (P := Tryd.prog) W 40 9 5 ⟨g, 0, none⟩ 1 [UInt8.ofNat d] Tryd.underlying40 Tryd.underlying5 Tryd.underlying9 (by
    intro j hj
    have : j = 0 := by simpa using hj
    subst this
    rw [addr_add]
    simpa [Nat.mod_eq_of_lt hd, ← hx] using h)
  simpa using this

set_option maxHeartbeats 2000000 in
theorem dec_small (n : Nat) (hn : n < 10) (w : World) :
    Calls Tryd.prog 27 #[.int .i64 (n : Int)] w fun e w' => e = .returned (.string ⟨(Lib.decDigits n).toArray⟩) ∧ Below w.heap.size w w' := by
  rw [Lib.decDigits_one hn]
  have h1 : (n : Int) < 10 := by omega
  have cv := conv_one (48 + n) (48 + (n : Int)) (by omega) (by omega) (w.alloc (.cells #[.int .u8 (48 + (n : Int))] 5)) w.heap.size (cell_new0 _ _ _)
  generalize UInt8.ofNat (48 + n) = c at cv ⊢
  go_enter Tryd.func27, Tryd.ntmps27
  go_wp2
  go_ret
  exact ⟨rfl, below_alloc _ _⟩

set_option maxHeartbeats 4000000 in
theorem dec_step (n : Nat) (hn : ¬ n < 10) (hm : n ≤ 9223372036854775807) (w : World)
    (ih : ∀ W : World, Calls Tryd.prog 27 #[.int .i64 ((n / 10 : Nat) : Int)] W fun e w' => e = .returned (.string ⟨(Lib.decDigits (n / 10)).toArray⟩) ∧ Below W.heap.size W w') :
    Calls Tryd.prog 27 #[.int .i64 (n : Int)] w fun e w' => e = .returned (.string ⟨(Lib.decDigits n).toArray⟩) ∧ Below w.heap.size w w' := by
  have HE : Hid (Lib.decDigits n = Lib.decDigits (n / 10) ++ [UInt8.ofNat (48 + n % 10)]) := by
    show _ = _
    rw [Lib.decDigits, dif_neg hn]
  have h1 : ¬ (n : Int) < 10 := by omega
  obtain ⟨q, hq⟩ : ∃ q : Int, q = ((n / 10 : Nat) : Int) := ⟨_, rfl⟩
  obtain ⟨x, hx⟩ : ∃ x : Int, x = ((48 + n % 10 : Nat) : Int) := ⟨_, rfl⟩
  have IH : Hid (∀ W : World, Calls Tryd.prog 27 #[.int .i64 q] W fun e w' => e = .returned (.string ⟨(Lib.decDigits (n / 10)).toArray⟩) ∧ Below W.heap.size W w') := by
    show ∀ W : World, _
    rw [hq]; exact ih
  have CV : Hid (∀ (W : World) (g : Nat), W.cell? ⟨g, 0, none⟩ = some (.int .u8 x) → (convert 40 9 (.slice (some ⟨g, 0, none⟩) 1 1)).run Tryd.prog W = .ok (.string ⟨#[UInt8.ofNat (48 + n % 10)]⟩) W) :=
    fun W g h => conv_one (48 + n % 10) x hx (by omega) W g h
  have e1 : (n : Int).tdiv 10 = q := by rw [Int.tdiv_eq_ediv_of_nonneg (by omega)]; omega
  have e2 : 48 + (n : Int).tmod 10 = x := by rw [Int.tmod_eq_emod_of_nonneg (by omega)]; omega
  have e3 : IntKind.i64.wrap ((n : Int) / 10) = (n : Int) / 10 := wrap_id64 (by omega) (by omega)
  have e4 : IntKind.i64.wrap (48 + (n : Int) % 10) = 48 + (n : Int) % 10 := wrap_id64 (by omega) (by omega)
  have e5 : IntKind.u8.wrap (48 + (n : Int) % 10) = 48 + (n : Int) % 10 := by
    show (48 + (n : Int) % 10) % 256 = _
    omega
  have HLD : Hid ((Lib.decDigits (n / 10)).length ≤ 21) := dec_len _ (by omega)
  generalize Lib.decDigits (n / 10) = D at HE IH HLD
  generalize UInt8.ofNat (48 + n % 10) = c at HE CV
  generalize Lib.decDigits n = R at HE ⊢
  clear ih
  go_enter Tryd.func27, Tryd.ntmps27
  go_wp2_with fail
  have edc : ∀ args w, (callFunc 27 args).run Tryd.prog w = .ok (.enter 27 args) w := enters_of Tryd.func27 (by kernel_rfl) rfl
  refine wp_region_held (S := fun _ => True) (by kernel_rfl) ?_
  simp only [List.size_toArray, List.length_cons, List.length_nil, Nat.reduceAdd]
  refine takeH (i := 0) (v := .int .i64 (n : Int)) (d := 10) rfl rfl (by kernel_rfl) (by kernel_rfl) (by kernel_rfl) (fun _ _ _ h => h) (by rfl) (fun V _ => by go_simp) trivial ?_
  simp only [Act.put, List.setIfInBounds_toArray, List.set_cons_zero, List.set_cons_succ]
  refine takeH (i := 1) (v := .int .i64 q) (d := 11) rfl rfl (by kernel_rfl) (by kernel_rfl) (by kernel_rfl) (fun _ _ _ h => h) (by rfl) (fun V _ => by go_simp) trivial ?_
  simp only [Act.put, List.setIfInBounds_toArray, List.set_cons_zero, List.set_cons_succ]
  refine takeH (i := 3) (v := .int .i64 (n : Int)) (d := 13) rfl rfl (by kernel_rfl) (by kernel_rfl) (by kernel_rfl) (fun _ _ _ h => h) (by rfl) (fun V _ => by go_simp) trivial ?_
  simp only [Act.put, List.setIfInBounds_toArray, List.set_cons_zero, List.set_cons_succ]
  refine takeH (i := 4) (v := .int .i64 ((n : Int).tmod 10)) (d := 14) rfl rfl (by kernel_rfl) (by kernel_rfl) (by kernel_rfl) (fun _ _ _ h => h) (by rfl) (fun V _ => by go_simp) trivial ?_
  simp only [Act.put, List.setIfInBounds_toArray, List.set_cons_zero, List.set_cons_succ]
  refine takeH (i := 5) (v := .int .i64 x) (d := 15) rfl rfl (by kernel_rfl) (by kernel_rfl) (by kernel_rfl) (fun _ _ _ h => h) (by rfl) (fun V _ => by go_simp) trivial ?_
  simp only [Act.put, List.setIfInBounds_toArray, List.set_cons_zero, List.set_cons_succ]
  refine takeH (i := 6) (v := .int .u8 x) (d := 16) rfl rfl (by kernel_rfl) (by kernel_rfl) (by kernel_rfl) (fun _ _ _ h => h) (by rfl) (fun V _ => by go_simp) trivial ?_
  simp only [Act.put, List.setIfInBounds_toArray, List.set_cons_zero, List.set_cons_succ]
  have hap : (⟨D.toArray⟩ : ByteArray) ++ ⟨#[c]⟩ = ⟨R.toArray⟩ := by rw [HE.out]; exact bytes_app D [c]
  have hld : ¬ 9223372036854775807 < D.length + 1 := by have := HLD.out; omega
  clear e1 e2 e3 e4 e5 hx hq
  refine twoHE (i := 2) (j := 7) rfl rfl (by kernel_rfl) rfl rfl ?_ ?_
  · refine call_then (d := 12) (f := 27) (xs := #[.tmp 11]) (ats := #[3]) rfl rfl edc (vs := #[.int .i64 q]) (by simp [Act.eval]) (IH.out _) fun w1 hb1 => ⟨trivial, ?_⟩
    have HB1 : Hid (Below w.heap.size w w1) := below_undrew hb1
    clear hb1
    simp only [Act.put, List.setIfInBounds_toArray, List.set_cons_zero, List.set_cons_succ]
    refine oneH (i := 7) rfl (by kernel_rfl) rfl (op_run (d := 17) (v' := .slice (some ⟨w1.heap.size, 0, none⟩) 1 1) (w' := w1.alloc (.cells #[.int .u8 x] 5)) rfl (by go_simp) ⟨trivial, ?_⟩)
    simp only [Act.put, List.setIfInBounds_toArray, List.set_cons_zero, List.set_cons_succ]
    have cv := CV.out (w1.alloc (.cells #[.int .u8 x] 5)) w1.heap.size (cell_new0 _ _ _)
    refine oneH (i := 8) rfl (by kernel_rfl) rfl (op_run (d := 18) (v' := .string ⟨#[c]⟩) (w' := w1.alloc (.cells #[.int .u8 x] 5)) rfl (by go_simp) ⟨trivial, ?_⟩)
    simp only [Act.put, List.setIfInBounds_toArray, List.set_cons_zero, List.set_cons_succ]
    refine oneH (i := 9) rfl (by kernel_rfl) rfl (op_run (d := 19) (v' := .string ⟨R.toArray⟩) (w' := w1.alloc (.cells #[.int .u8 x] 5)) rfl (by go_simp) ⟨trivial, ?_⟩)
    simp only [Act.put, List.setIfInBounds_toArray, List.set_cons_zero, List.set_cons_succ]
    refine oneH (i := 10) rfl (by kernel_rfl) rfl (op_run (d := 2) (v' := .string ⟨R.toArray⟩) (w' := w1.alloc (.cells #[.int .u8 x] 5)) rfl (by go_simp) ⟨trivial, ?_⟩)
    simp only [Act.put, List.setIfInBounds_toArray, List.set_cons_zero, List.set_cons_succ]
    refine wpAnyH_done (by kernel_rfl) ?_ _
    have HB9 : Hid (Below w.heap.size w (w1.alloc (.cells #[.int .u8 x] 5))) := HB1.out.alloc HB1.out.size _
    clear cv
    go_wp2
    go_ret
    exact ⟨rfl, HB9.out⟩
  · refine op_run (d := 17) (v' := .slice (some ⟨w.heap.size, 0, none⟩) 1 1) (w' := (w.alloc (.cells #[.int .u8 x] 5)).drew) rfl (by go_simp) ⟨trivial, ?_⟩
    simp only [Act.put, List.setIfInBounds_toArray, List.set_cons_zero, List.set_cons_succ]
    refine twoHE (i := 2) (j := 8) rfl rfl (by kernel_rfl) rfl rfl ?_ ?_
    · refine call_then (d := 12) (f := 27) (xs := #[.tmp 11]) (ats := #[3]) rfl rfl edc (vs := #[.int .i64 q]) (by simp [Act.eval]) (IH.out _) fun w1 hb1 => ⟨trivial, ?_⟩
      have HB1 : Hid (Below (w.heap.size + 1) (w.alloc (.cells #[.int .u8 x] 5)) w1) := by
        have := below_undrew hb1
        show Below _ _ _
        simpa using this
      clear hb1
      simp only [Act.put, List.setIfInBounds_toArray, List.set_cons_zero, List.set_cons_succ]
      have cv := CV.out w1 w.heap.size (box_cell HB1.out)
      refine oneH (i := 8) rfl (by kernel_rfl) rfl (op_run (d := 18) (v' := .string ⟨#[c]⟩) (w' := w1) rfl (by go_simp) ⟨trivial, ?_⟩)
      simp only [Act.put, List.setIfInBounds_toArray, List.set_cons_zero, List.set_cons_succ]
      refine oneH (i := 9) rfl (by kernel_rfl) rfl (op_run (d := 19) (v' := .string ⟨R.toArray⟩) (w' := w1) rfl (by go_simp) ⟨trivial, ?_⟩)
      simp only [Act.put, List.setIfInBounds_toArray, List.set_cons_zero, List.set_cons_succ]
      refine oneH (i := 10) rfl (by kernel_rfl) rfl (op_run (d := 2) (v' := .string ⟨R.toArray⟩) (w' := w1) rfl (by go_simp) ⟨trivial, ?_⟩)
      simp only [Act.put, List.setIfInBounds_toArray, List.set_cons_zero, List.set_cons_succ]
      refine wpAnyH_done (by kernel_rfl) ?_ _
      have HB9 : Hid (Below w.heap.size w (w1)) := box_below HB1.out
      clear cv
      go_wp2
      go_ret
      exact ⟨rfl, HB9.out⟩
    · have cv := CV.out (w.alloc (.cells #[.int .u8 x] 5)).drew w.heap.size (cell_new0 _ _ _)
      refine op_run (d := 18) (v' := .string ⟨#[c]⟩) (w' := (w.alloc (.cells #[.int .u8 x] 5)).drew) rfl (by go_simp) ⟨trivial, ?_⟩
      simp only [Act.put, List.setIfInBounds_toArray, List.set_cons_zero, List.set_cons_succ]
      refine oneH (i := 2) rfl (by kernel_rfl) rfl ?_
      refine call_then (d := 12) (f := 27) (xs := #[.tmp 11]) (ats := #[3]) rfl rfl edc (vs := #[.int .i64 q]) (by simp [Act.eval]) (IH.out _) fun w1 hb1 => ⟨trivial, ?_⟩
      have HB1 : Hid (Below (w.heap.size + 1) (w.alloc (.cells #[.int .u8 x] 5)) w1) := by
        have := below_undrew hb1
        show Below _ _ _
        simpa using this
      clear hb1
      simp only [Act.put, List.setIfInBounds_toArray, List.set_cons_zero, List.set_cons_succ]
      refine oneH (i := 9) rfl (by kernel_rfl) rfl (op_run (d := 19) (v' := .string ⟨R.toArray⟩) (w' := w1) rfl (by go_simp) ⟨trivial, ?_⟩)
      simp only [Act.put, List.setIfInBounds_toArray, List.set_cons_zero, List.set_cons_succ]
      refine oneH (i := 10) rfl (by kernel_rfl) rfl (op_run (d := 2) (v' := .string ⟨R.toArray⟩) (w' := w1) rfl (by go_simp) ⟨trivial, ?_⟩)
      simp only [Act.put, List.setIfInBounds_toArray, List.set_cons_zero, List.set_cons_succ]
      refine wpAnyH_done (by kernel_rfl) ?_ _
      have HB9 : Hid (Below w.heap.size w (w1)) := box_below HB1.out
      clear cv
      go_wp2
      go_ret
      exact ⟨rfl, HB9.out⟩

theorem dec_any : ∀ (n : Nat) (w : World), n ≤ 9223372036854775807 → Calls Tryd.prog 27 #[.int .i64 (n : Int)] w fun e w' => e = .returned (.string ⟨(Lib.decDigits n).toArray⟩) ∧ Below w.heap.size w w' := by
  intro n
  induction n using Nat.strongRecOn with
  | _ n ih =>
    intro w hm
    by_cases h : n < 10
    · exact dec_small n h w
    · exact dec_step n h hm w fun W => ih (n / 10) (by omega) W (by omega)
end Go.Proofs.YtdeghndcglgfkaaDoor
