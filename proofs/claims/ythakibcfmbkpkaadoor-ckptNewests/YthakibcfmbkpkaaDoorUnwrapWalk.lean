/-
  Contract of frame.Unwrap and of the table's unwrap: payload, count of bytes and error are those of P2.3; nothing that was there is written.
-/
import Derived.Test.YthakibcfmbkpkaaDoorWrapWalk
import Derived.Test.YthakibcfmbkpkaaDoorBytesLib
import Derived.Test.YthakibcfmbkpkaaDoorGetWalk
import Derived.BigQuiet
namespace Go.Proofs.YthakibcfmbkpkaaDoor
set_option maxRecDepth 100000
open Go.ChangeShapes Go.WideShapes Go.ChangeAt Go.RowKit

/-- P2.3 -/
def unwrapF (xs : List Int) : List Int × Nat × Int :=
  if (get xs).2.2 ≠ 0 then ([], 0, (get xs).2.2)
  else if 20000 < (get xs).1 then ([], 0, 1)
  else if xs.length < (get xs).2.1 + (get xs).1.toNat + 4 then ([], 0, 4)
  else if four (crc (xs.take ((get xs).2.1 + (get xs).1.toNat))) = (xs.drop ((get xs).2.1 + (get xs).1.toNat)).take 4 then
    ((xs.drop (get xs).2.1).take (get xs).1.toNat, (get xs).2.1 + (get xs).1.toNat + 4, 0)
  else ([], 0, 5)
theorem unwrapF_err {xs : List Int} {e : Int} (h : get xs = (0, 0, e)) (he : e ≠ 0) : unwrapF xs = ([], 0, e) := by simp [unwrapF, h, he]
theorem unwrapF_size {xs : List Int} {n : Int} {k : Nat} (h : get xs = (n, k, 0)) (hn : 20000 < n) : unwrapF xs = ([], 0, 1) := by simp [unwrapF, h, hn]
theorem unwrapF_short {xs : List Int} {m k : Nat} (h : get xs = ((m : Int), k, 0)) (hn : m ≤ 20000) (hl : xs.length < k + m + 4) : unwrapF xs = ([], 0, 4) := by
  have h1 : ¬ 20000 < (m : Int) := by omega
  simp [unwrapF, h, h1, hl]
theorem unwrapF_sum {xs : List Int} {m k : Nat} (h : get xs = ((m : Int), k, 0)) (hn : m ≤ 20000) (hl : k + m + 4 ≤ xs.length) (hs : ¬ four (crc (xs.take (k + m))) = (xs.drop (k + m)).take 4) : unwrapF xs = ([], 0, 5) := by
  have h1 : ¬ 20000 < (m : Int) := by omega
  have h2 : ¬ xs.length < k + m + 4 := by omega
  simp only [unwrapF, h, ne_eq, not_true_eq_false, if_false, if_neg h1, Int.toNat_natCast, if_neg h2, if_neg hs]
theorem unwrapF_ok {xs : List Int} {m k : Nat} (h : get xs = ((m : Int), k, 0)) (hn : m ≤ 20000) (hl : k + m + 4 ≤ xs.length) (hs : four (crc (xs.take (k + m))) = (xs.drop (k + m)).take 4) : unwrapF xs = ((xs.drop k).take m, k + m + 4, 0) := by
  have h1 : ¬ 20000 < (m : Int) := by omega
  have h2 : ¬ xs.length < k + m + 4 := by omega
  simp only [unwrapF, h, ne_eq, not_true_eq_false, if_false, if_neg h1, Int.toNat_natCast, if_neg h2, if_pos hs]

theorem unwrapF_bytes {xs : List Int} (hx : ∀ x ∈ xs, 0 ≤ x ∧ x ≤ 255) : ∀ x ∈ (unwrapF xs).1, 0 ≤ x ∧ x ≤ 255 := by
  intro x h
  unfold unwrapF at h
  repeat' split at h
  all_goals first | (simp at h; done) | exact hx x (List.mem_of_mem_drop (List.mem_of_mem_take h))
set_option maxHeartbeats 800000 in
set_option maxRecDepth 100000 in
theorem unwrap_tab (g : Nat) (v : Value) (xs : List Int) (w : World) (hT : Tab w g) (h : Reads .u8 w v xs) (hx : ∀ x ∈ xs, 0 ≤ x ∧ x ≤ 255) :
    Calls Tryd.prog 58 #[.pointer (some ⟨g, 0, none⟩), v] w fun e w' =>
      ∃ v', e = .returned (.tuple #[v', .int .i64 (unwrapF xs).2.1, .int .i64 (unwrapF xs).2.2]) ∧ w'.ownsRow w.heap.size 5 1 v' (unwrapF xs).1.length ((unwrapF xs).1.map (Value.int .u8)) ∧ Below w.heap.size w w' := by
  have HT : Hid (Tab w g) := hT
  have HX : Hid (∀ x ∈ xs, 0 ≤ x ∧ x ≤ 255) := hx
  have G := get_any v xs w h hx
  rcases get_inv hx with ⟨e, hg, he⟩ | ⟨n, r, hg, hr, hn0, hn1⟩
  · rw [hg] at G
    have HU : Hid (unwrapF xs = ([], 0, e)) := unwrapF_err hg he
    have HG : Hid (Calls Tryd.prog 72 #[v] w fun e' w' => e' = .returned (.tuple #[.int .u64 0, .int .i64 ((0 : Nat) : Int), .int .i64 e]) ∧ w' = w) := G
    have heb : (e != 0) = true := by simp [he]
    clear G hg hT hx h HX
    go_enter Tryd.func58, Tryd.ntmps58
    go_wp2_with fail
    refine HG.out.mono ?_
    rintro e w1 ⟨rfl, rfl⟩
    go_wp2_with fail
    go_ret3
    exact ⟨_, by rw [HU.out]; rfl, by rw [HU.out]; exact World.ownsRow_nil _ _ _ _, Below.refl _ _⟩
  · obtain ⟨m, rfl⟩ := Int.eq_ofNat_of_zero_le hn0
    rw [hg] at G
    have pl := put_len (m : Int)
    have hkl : (put (m : Int)).length ≤ xs.length := by rw [hr]; simp
    clear hr
    generalize (put (m : Int)).length = k at *
    have HGG : Hid (get xs = ((m : Int), k, 0)) := hg
    have HG : Hid (Calls Tryd.prog 72 #[v] w fun e' w' => e' = .returned (.tuple #[.int .u64 (m : Int), .int .i64 (k : Int), .int .i64 0]) ∧ w' = w) := G
    clear G hg hT hx
    by_cases hbig : 20000 < (m : Int)
    · have HU : Hid (unwrapF xs = ([], 0, 1)) := unwrapF_size HGG.out hbig
      go_enter Tryd.func58, Tryd.ntmps58
      go_wp2_with fail
      refine HG.out.mono ?_
      rintro e w1 ⟨rfl, rfl⟩
      go_wp2_with fail
      go_ret3
      exact ⟨_, by rw [HU.out]; rfl, by rw [HU.out]; exact World.ownsRow_nil _ _ _ _, Below.refl _ _⟩
    · have hm2 : m ≤ 20000 := by omega
      obtain ⟨b, off, cap, rfl, hc, hm, _, hcell⟩ := h.plain (by omega)
      have HM : Hid (cap ≤ maxLen) := hm
      unfold maxLen at hm
      by_cases hsh : xs.length < k + m + 4
      · have HU : Hid (unwrapF xs = ([], 0, 4)) := unwrapF_short HGG.out hm2 hsh
        clear h hcell
        go_enter Tryd.func58, Tryd.ntmps58
        go_wp2_with fail
        refine HG.out.mono ?_
        rintro e w1 ⟨rfl, rfl⟩
        go_wp2_with fail
        go_ret3
        exact ⟨_, by rw [HU.out]; rfl, by rw [HU.out]; exact World.ownsRow_nil _ _ _ _, Below.refl _ _⟩
      · have RU : Hid (∀ w1, Below w.heap.size w w1 → Reads .u8 w1 (.slice (some ⟨b, off, none⟩) (k + m) cap) (xs.take (k + m))) := fun w1 hb => (reads_upto hc HM.out (by omega) hcell).below hb (Nat.le_refl _)
        have RS : Hid (∀ w1, Below w.heap.size w w1 → Reads .u8 w1 (.slice (some ⟨b, off + (k + m), none⟩) 4 (cap - (k + m))) ((xs.drop (k + m)).take 4)) := fun w1 hb => by
          have := (reads_mid (u := k + m) (n := k + m + 4) hc HM.out (by omega) (by omega) hcell).below hb (Nat.le_refl _)
          simpa using this
        have RP : Hid (∀ w1, Below w.heap.size w w1 → Reads .u8 w1 (.slice (some ⟨b, off + k, none⟩) m (cap - k)) ((xs.drop k).take m)) := fun w1 hb => by
          have := (reads_mid (u := k) (n := k + m) hc HM.out (by omega) (by omega) hcell).below hb (Nat.le_refl _)
          simpa using this
        have XU : Hid (∀ x ∈ xs.take (k + m), 0 ≤ x ∧ x ≤ 255) := fun x hx => HX.out x (List.mem_of_mem_take hx)
        have XS : Hid (∀ x ∈ (xs.drop (k + m)).take 4, 0 ≤ x ∧ x ≤ 255) := fun x hx => HX.out x (List.mem_of_mem_drop (List.mem_of_mem_take hx))
        clear h hcell
        go_enter Tryd.func58, Tryd.ntmps58
        go_wp2_with fail
        refine HG.out.mono ?_
        rintro e w1 ⟨rfl, rfl⟩
        go_wp2_with fail
        refine (sumAsBytes_any g _ (xs.take (k + m)) _ HT.out (RU.out _ (Below.refl _ _)) XU.out).mono ?_
        rintro e w2 ⟨rfl, hbel2⟩
        have B2 : Hid (Below w1.heap.size w1 w2) := hbel2
        have hs2 := hbel2.size
        clear hbel2
        have hc4 : (four (crc (xs.take (k + m)))).length = 4 := rfl
        have hcl := crc_lt XU.out
        obtain ⟨s, hss⟩ : ∃ s, crc (xs.take (k + m)) = s := ⟨_, rfl⟩
        have HSS : Hid (crc (xs.take (k + m)) = s) := hss
        rw [hss] at hc4 hcl ⊢
        clear hss
        have X4 : Hid (∀ x ∈ four s, 0 ≤ x ∧ x ≤ 255) := four_bytes hcl
        have R4 : Hid (Reads .u8 (w2.alloc (.cells ((four s).map (Value.int .u8)).toArray 100)) (.slice (some ⟨w2.heap.size, 0, none⟩) 4 4) (four s)) := reads_block (heap_alloc_new _ _) (by simp [hc4, maxLen])
        have B3 : Hid (Below w1.heap.size w1 (w2.alloc (.cells ((four s).map (Value.int .u8)).toArray 100))) := B2.out.alloc hs2 _
        have RS3 : Hid (Reads .u8 (w2.alloc (.cells ((four s).map (Value.int .u8)).toArray 100)) (.slice (some ⟨b, off + (k + m), none⟩) 4 (cap - (k + m))) ((xs.drop (k + m)).take 4)) := RS.out _ B3.out
        generalize hys : (xs.drop (k + m)).take 4 = ys at *
        have HYS : Hid (List.take 4 (List.drop (k + m) xs) = ys) := hys
        clear hys RS RU
        simp only [four, List.map_cons, List.map_nil] at R4 B3 RS3 ⊢
        have cu1 : k + m < cap := by omega
        have cu2 : k + m + 4 ≤ cap := by omega
        go_wp2_with fail
        go_quiet ((go_at_call 46; exact Calls.quiet_of_same (bytesEqual_any _ _ (four s) ys _ R4.out RS3.out X4.out XS.out)))
        have BQ : Hid (Below w1.heap.size w1 ((w2.alloc (.cells #[.int .u8 ((s : Int) % 256), .int .u8 ((s : Int) / 256 % 256), .int .u8 ((s : Int) / 65536 % 256), .int .u8 ((s : Int) / 16777216)] 100)).drewN nq)) := below_drewN B3.out _
        generalize (w2.alloc (.cells #[.int .u8 ((s : Int) % 256), .int .u8 ((s : Int) / 256 % 256), .int .u8 ((s : Int) / 65536 % 256), .int .u8 ((s : Int) / 16777216)] 100)).drewN nq = w3 at *
        clear R4 B3 RS3
        have hs3 := BQ.out.size
        by_cases hsum : four s = ys
        · have HU : Hid (unwrapF xs = ((xs.drop k).take m, k + m + 4, 0)) := unwrapF_ok HGG.out hm2 (by omega) (by rw [HSS.out, HYS.out]; exact hsum)
          have hd : decide (four s = ys) = true := decide_eq_true hsum
          clear hsum
          rw [hd]
          clear hd
          have cu3 : k < cap := by omega
          go_wp2_with fail
          refine (clone_any _ ((xs.drop k).take m) _ ?_ ?_).mono ?_
          · have := RP.out _ BQ.out
            simpa using this
          · simp; omega
          rintro e w4 ⟨v4, rfl, hown4, hbel4⟩
          have O4 : Hid (w4.ownsRow w1.heap.size 5 1 v4 (unwrapF xs).1.length ((unwrapF xs).1.map (Value.int .u8))) := by show World.ownsRow _ _ _ _ _ _ _; rw [HU.out]; exact own_lower hown4 hs3
          have B4 : Hid (Below w1.heap.size w1 w4) := BQ.out.trans (hbel4.mono hs3)
          clear hown4 hbel4
          go_wp2
          go_ret3
          exact ⟨v4, by rw [HU.out]; simp, O4.out, B4.out⟩
        · have HU : Hid (unwrapF xs = ([], 0, 5)) := unwrapF_sum HGG.out hm2 (by omega) (by rw [HSS.out, HYS.out]; exact hsum)
          have hd : decide (four s = ys) = false := decide_eq_false hsum
          clear hsum
          rw [hd]
          clear hd
          go_wp2_with fail
          go_ret3
          exact ⟨_, by rw [HU.out]; rfl, by rw [HU.out]; exact World.ownsRow_nil _ _ _ _, BQ.out⟩
end Go.Proofs.YthakibcfmbkpkaaDoor
