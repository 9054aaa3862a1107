/-
  Contracts of the table's sum and sumAsBytes: the sum of P2.1 of the bytes that a slice reads as, as a number and as four bytes, the lowest first; nothing is written but a new block.
-/
import Derived.Test.YtkgdenbabafeoaaGreatDoorTableWalk
namespace Go.Proofs.YtkgdenbabafeoaaGreatDoor
set_option maxRecDepth 100000
open Go.ChangeShapes Go.WideShapes Go.ChangeAt Go.RowKit

set_option maxHeartbeats 400000 in
set_option maxRecDepth 100000 in
theorem sum_row (g b off cap : Nat) (xs : List Int) (w : World) (hT : Tab w g) (hm : xs.length ≤ maxLen) (hx : ∀ x ∈ xs, 0 ≤ x ∧ x ≤ 255)
    (hcell : ∀ i, i < xs.length → w.cell? ⟨b, off + i, none⟩ = some (.int .u8 (xs.getD i 0))) :
    Calls Tryz.prog 68 #[.pointer (some ⟨g, 0, none⟩), .slice (some ⟨b, off, none⟩) xs.length cap] w fun e w' => e = .returned (.int .u32 (crc xs)) ∧ w' = w := by
  unfold maxLen at hm
  have HT : Hid (Tab w g) := hT
  have HC : Hid (∀ i, i < xs.length → w.cell? ⟨b, off + i, none⟩ = some (.int .u8 (xs.getD i 0))) := hcell
  have HX : Hid (∀ x ∈ xs, 0 ≤ x ∧ x ≤ 255) := hx
  clear hcell hx hT
  go_enter Tryz.func68, Tryz.ntmps68
  go_wp2_with fail
  go_loop [5, 10] (fun n i => ∃ (k : Nat), k ≤ xs.length ∧ i = .int .i64 k ∧ n = .int .u32 (runR 4294967295 (xs.take k))) (fun _ i => xs.length - (intOf i).toNat)
  case atStart => exact ⟨0, by omega, rfl, rfl⟩
  case round =>
    obtain ⟨k, hk, rfl, rfl⟩ := hrel
    have hr := runR_lt (xs.take k) 4294967295 (by omega) (fun x hx => HX.out x (List.mem_of_mem_take hx))
    by_cases hlt : k < xs.length
    · have hck := HC.out k hlt
      have hxb := HX.out (xs.getD k 0) (by rw [List.getD_eq_getElem?_getD, List.getElem?_eq_getElem hlt]; exact List.getElem_mem hlt)
      have HN : Hid (runR 4294967295 (xs.take (k + 1)) = eight (runR 4294967295 (xs.take k) ^^^ (xs.getD k 0).toNat)) := by
        show _ = _
        rw [take_snocI hlt, runR_snoc]
      generalize runR 4294967295 (xs.take k) = r at *
      obtain ⟨x, hxe⟩ : ∃ x : Nat, xs.getD k 0 = (x : Int) := ⟨_, (Int.toNat_of_nonneg hxb.1).symm⟩
      rw [hxe] at hck hxb HN
      clear hxe
      have h8 : x < 256 := by omega
      have hx8 : bits .xor .u8 ((r : Int) % 256) (x : Int) = ((r % 256 ^^^ x : Nat) : Int) := u8_xor_nat (r % 256) x (by omega) h8
      have hl := xor_lt8 (show r % 256 < 256 by omega) h8
      have HQ : Hid (r / 256 ^^^ eight (r % 256 ^^^ x) = eight (r ^^^ x)) := eight_table r x
      have hct := HT.out (r % 256 ^^^ x) hl
      have hel := eight_lt (show r % 256 ^^^ x < 4294967296 by omega)
      have hx32 : bits .xor .u32 ((r : Int) / 256) (eight (r % 256 ^^^ x) : Int) = ((r / 256 ^^^ eight (r % 256 ^^^ x) : Nat) : Int) := u32_xor_nat (r / 256) (eight (r % 256 ^^^ x)) (by omega) hel
      generalize r % 256 ^^^ x = y at *
      generalize eight y = z at *
      generalize r / 256 ^^^ z = q at *
      go_wp2_with fail
      go_round
      case rel => exact ⟨k + 1, by omega, by go_num, by rw [HN.out, HQ.out]; rfl⟩
      case measure => simp [intOf]; omega
    · have HQ : Hid (crc xs = 4294967295 ^^^ runR 4294967295 (xs.take k)) := by
        show _ = _
        rw [List.take_of_length_le (by omega)]; rfl
      generalize runR 4294967295 (xs.take k) = r at *
      have hx32 : bits .xor .u32 IntKind.u32.max (r : Int) = ((4294967295 ^^^ r : Nat) : Int) := u32_xor_nat 4294967295 r (by omega) hr
      generalize 4294967295 ^^^ r = q at *
      go_wp2_with fail
      go_ret
      exact ⟨by rw [HQ.out]; rfl, rfl⟩

set_option maxRecDepth 100000 in
theorem sum_empty (g : Nat) (a : Option Addr) (cap : Nat) (w : World) :
    Calls Tryz.prog 68 #[.pointer (some ⟨g, 0, none⟩), .slice a 0 cap] w fun e w' => e = .returned (.int .u32 0) ∧ w' = w := by
  have hx32 : bits .xor .u32 4294967295 4294967295 = 0 := by decide
  go_enter Tryz.func68, Tryz.ntmps68
  go_wp2_with fail
  refine wp_loop_rounds 1 ?_
  rw [rounds_succ]
  go_wp2
  go_ret
  exact ⟨rfl, rfl⟩

theorem sum_any (g : Nat) (v : Value) (xs : List Int) (w : World) (hT : Tab w g) (h : Reads .u8 w v xs) (hx : ∀ x ∈ xs, 0 ≤ x ∧ x ≤ 255) :
    Calls Tryz.prog 68 #[.pointer (some ⟨g, 0, none⟩), v] w fun e w' => e = .returned (.int .u32 (crc xs)) ∧ w' = w := by
  by_cases hn : 0 < xs.length
  · obtain ⟨b, off, cap, rfl, hc, hm, _, hcell⟩ := h.plain hn
    exact sum_row g b off cap xs w hT (Nat.le_trans hc hm) hx hcell
  · have : xs = [] := List.eq_nil_of_length_eq_zero (by omega)
    subst this
    obtain ⟨a, cap, rfl, _, _⟩ := h.empty
    refine (sum_empty g a cap w).mono ?_
    rintro e w' ⟨rfl, rfl⟩
    exact ⟨rfl, rfl⟩

/-- The four bytes of a sum, the lowest first. -/
def four (s : Nat) : List Int := [(s : Int) % 256, (s : Int) / 256 % 256, (s : Int) / 65536 % 256, (s : Int) / 16777216]

set_option maxHeartbeats 400000 in
set_option maxRecDepth 100000 in
theorem sumAsBytes_any (g : Nat) (v : Value) (xs : List Int) (w : World) (hT : Tab w g) (h : Reads .u8 w v xs) (hx : ∀ x ∈ xs, 0 ≤ x ∧ x ≤ 255) :
    Calls Tryz.prog 44 #[.pointer (some ⟨g, 0, none⟩), v] w fun e w' => e = .returned (.agg ((four (crc xs)).map (Value.int .u8)).toArray) ∧ Below w.heap.size w w' := by
  have hl := crc_lt hx
  have HS : Hid (∀ w1, Below w.heap.size w w1 → Calls Tryz.prog 68 #[.pointer (some ⟨g, 0, none⟩), v] w1 fun e w' => e = .returned (.int .u32 (crc xs)) ∧ w' = w1) := fun w1 hb => sum_any g v xs w1 (hT.below hb (Nat.le_refl _)) (h.below hb (Nat.le_refl _)) hx
  clear hT h hx
  generalize crc xs = s at *
  go_enter Tryz.func44, Tryz.ntmps44
  go_wp2_with (go_at_call 68; refine (HS.out _ ((Below.refl _ _).alloc (Nat.le_refl _) _)).mono ?_; rintro e w' ⟨rfl, rfl⟩)
  refine bodyPost_ret (v := .agg ((four s).map (Value.int .u8)).toArray) ?_ rfl ⟨rfl, (Below.refl _ _).alloc (Nat.le_refl _) _⟩
  exact results_cell_row rfl _ _ w.heap.size 86 _ (0, 0) _ rfl (heap_alloc_new _ _) Tryz.underlying86 rfl (by kernel_rfl)
end Go.Proofs.YtkgdenbabafeoaaGreatDoor
