/-
  Contract of the document's own Unwrapped: payload, count of bytes and error are those of P2.3; nothing that was there is written.
-/
import Derived.Test.YtacpicnihgggaaaUnwrapWalk
import Derived.Test.YtacpicnihgggaaaWrappedWalk
import Derived.Test.YtacpicnihgggaaaUnpackedWalk
namespace Go.Proofs.Ytacpicnihgggaaa
open Go.ChangeShapes Go.WideShapes Go.ChangeAt Go.RowKit

theorem getD_take {xs : List Int} {n i : Nat} (h : i < n) : (xs.take n).getD i 0 = xs.getD i 0 := by
  rw [List.getD_eq_getElem?_getD, List.getD_eq_getElem?_getD, List.getElem?_take_of_lt h]
theorem getD_ext {xs ys : List Int} (hl : xs.length = ys.length) (h : ∀ i, i < xs.length → xs.getD i 0 = ys.getD i 0) : xs = ys := by
  apply List.ext_getElem hl
  intro i h1 h2
  have := h i h1
  rwa [List.getD_eq_getElem?_getD, List.getD_eq_getElem?_getD, List.getElem?_eq_getElem h1, List.getElem?_eq_getElem h2] at this
/-- The frame made again is what the bytes begin with just if the sum is right. -/
theorem again_iff {xs : List Int} {m k : Nat} (hw : wrap ((xs.drop k).take m) = xs.take (k + m) ++ four (crc (xs.take (k + m)))) (hl : k + m + 4 ≤ xs.length) :
    four (crc (xs.take (k + m))) = (xs.drop (k + m)).take 4 ↔ ∀ i, i < k + m + 4 → (wrap ((xs.drop k).take m)).getD i 0 = xs.getD i 0 := by
  have ht : xs.take (k + m + 4) = xs.take (k + m) ++ (xs.drop (k + m)).take 4 := List.take_add
  have hlw : (wrap ((xs.drop k).take m)).length = (xs.take (k + m + 4)).length := by rw [hw, ht]; simp [four]; omega
  have h4 : (xs.take (k + m + 4)).length = k + m + 4 := List.length_take_of_le hl
  constructor
  · intro h i hi
    rw [hw, h, ← ht, getD_take hi]
  · intro h
    have e : wrap ((xs.drop k).take m) = xs.take (k + m + 4) := getD_ext hlw (fun i hi => by rw [h i (by omega), getD_take (by omega)])
    rw [hw, ht] at e
    exact List.append_cancel_left e
theorem snoc_mid {xs : List Int} {k j : Nat} (h : k + j < xs.length) : (xs.drop k).take (j + 1) = (xs.drop k).take j ++ [xs.getD (k + j) 0] := by
  have := take_snocI (xs := xs.drop k) (k := j) (by rw [List.length_drop]; omega)
  rw [this]
  simp [List.getD_eq_getElem?_getD, List.getElem?_drop]

set_option maxHeartbeats 1600000 in
set_option maxRecDepth 100000 in
theorem unwrapped_any (v : Value) (xs : List Int) (w : World) (h : Reads .u8 w v xs) (hx : ∀ x ∈ xs, 0 ≤ x ∧ x ≤ 255) :
    Calls Try.prog 39 #[v] w fun e w' =>
      ∃ v', e = .returned (.tuple #[v', .int .i64 (unwrapF xs).2.1, .int .i64 (unwrapF xs).2.2]) ∧ w'.ownsRow w.heap.size 5 1 v' (unwrapF xs).1.length ((unwrapF xs).1.map (Value.int .u8)) ∧ Below w.heap.size w w' := by
  have HX : Hid (∀ x ∈ xs, 0 ≤ x ∧ x ≤ 255) := hx
  have G := unpacked_any v xs w h hx
  rcases get_inv hx with ⟨e, hg, he⟩ | ⟨n, r, hg, hr, hn0, hn1⟩
  · rw [hg] at G
    have HU : Hid (unwrapF xs = ([], 0, e)) := unwrapF_err hg he
    have HG : Hid (Calls Try.prog 62 #[v] w fun e' w' => e' = .returned (.tuple #[.int .u64 0, .int .i64 ((0 : Nat) : Int), .int .i64 e]) ∧ w' = w) := G
    have heb : (e != 0) = true := by simp [he]
    clear G hg hx h HX
    go_enter Try.func39, Try.ntmps39
    go_wp2_with fail
    refine HG.out.mono ?_
    rintro e w1 ⟨rfl, rfl⟩
    go_wp2_with fail
    go_ret3
    exact ⟨_, by rw [HU.out]; rfl, by rw [HU.out]; exact World.ownsRow_nil _ _ _ _, Below.refl _ _⟩
  · obtain ⟨m, rfl⟩ := Int.eq_ofNat_of_zero_le hn0
    rw [hg] at G
    have pl := put_len (m : Int)
    have hkl : (put (m : Int)).length ≤ xs.length := by rw [hr]; simp
    have HPT : Hid (xs.take (put (m : Int)).length = put (m : Int)) := by show _ = _; rw [hr]; simp
    clear hr
    obtain ⟨k, hk⟩ : ∃ k, (put (m : Int)).length = k := ⟨_, rfl⟩
    rw [hk] at G pl hkl hg HPT
    have HGG : Hid (get xs = ((m : Int), k, 0)) := hg
    have HG : Hid (Calls Try.prog 62 #[v] w fun e' w' => e' = .returned (.tuple #[.int .u64 (m : Int), .int .i64 (k : Int), .int .i64 0]) ∧ w' = w) := G
    have HK : Hid ((put (m : Int)).length = k) := hk
    clear G hg hx hk
    by_cases hbig : 20000 < (m : Int)
    · have HU : Hid (unwrapF xs = ([], 0, 1)) := unwrapF_size HGG.out hbig
      go_enter Try.func39, Try.ntmps39
      go_wp2_with fail
      refine HG.out.mono ?_
      rintro e w1 ⟨rfl, rfl⟩
      go_wp2_with fail
      go_ret3
      exact ⟨_, by rw [HU.out]; rfl, by rw [HU.out]; exact World.ownsRow_nil _ _ _ _, Below.refl _ _⟩
    · have hm2 : m ≤ 20000 := by omega
      obtain ⟨b, off, cap, rfl, hc, hm, hbw, hcell⟩ := h.plain (by omega)
      unfold maxLen at hm
      by_cases hsh : xs.length < k + m + 4
      · have HU : Hid (unwrapF xs = ([], 0, 4)) := unwrapF_short HGG.out hm2 hsh
        clear h hcell
        go_enter Try.func39, Try.ntmps39
        go_wp2_with fail
        refine HG.out.mono ?_
        rintro e w1 ⟨rfl, rfl⟩
        go_wp2_with fail
        go_ret3
        exact ⟨_, by rw [HU.out]; rfl, by rw [HU.out]; exact World.ownsRow_nil _ _ _ _, Below.refl _ _⟩
      · have hsl : k + m + 4 ≤ xs.length := by omega
        have HC : Hid (∀ i, i < xs.length → w.cell? ⟨b, off + i, none⟩ = some (.int .u8 (xs.getD i 0))) := hcell
        have hpl : ((xs.drop k).take m).length = m := by rw [List.length_take, List.length_drop]; omega
        have HPL : Hid (((xs.drop k).take m).length = m) := hpl
        have htk : xs.take (k + m) = put (m : Int) ++ (xs.drop k).take m := by rw [List.take_add, HPT.out]
        have HW : Hid (wrap ((xs.drop k).take m) = xs.take (k + m) ++ four (crc (xs.take (k + m)))) := by show _ = _; unfold wrap; rw [hpl, htk]
        have HXP : Hid (∀ x ∈ (xs.drop k).take m, 0 ≤ x ∧ x ≤ 255) := fun x hx => HX.out x (List.mem_of_mem_drop (List.mem_of_mem_take hx))
        clear h hcell hpl htk hsh
        go_enter Try.func39, Try.ntmps39
        go_wp2_with fail
        refine HG.out.mono ?_
        rintro e w1 ⟨rfl, rfl⟩
        go_wp2_with fail
        go_loopw [8, 9] (fun p i wr => ∃ j : Nat, j ≤ m ∧ i = .int .i64 ((k + j : Nat) : Int) ∧ wr.ownsRow w1.heap.size 5 1 p ((xs.drop k).take j).length (((xs.drop k).take j).map (Value.int .u8)) ∧ Below w1.heap.size w1 wr) (fun _ i _ => k + m - (intOf i).toNat)
        case atStart => exact ⟨0, by omega, rfl, by simpa using World.ownsRow_nil _ _ _ _, Below.refl _ _⟩
        case round =>
          obtain ⟨j, hj, rfl, hown, hbel⟩ := hrel
          have hs := hbel.size
          by_cases hlt : j < m
          · have hck : wr.cell? ⟨b, off + (k + j), none⟩ = some (.int .u8 (xs.getD (k + j) 0)) := (hbel.cell (by exact hbw)).trans (HC.out (k + j) (by omega))
            have HTk := snoc_mid (xs := xs) (k := k) (j := j) (by omega)
            have HA : Hid ((xs.drop k).take (j + 1) = (xs.drop k).take j ++ [xs.getD (k + j) 0]) := HTk
            have hlen : ((xs.drop k).take j).length ≤ 20000 := by rw [List.length_take]; omega
            clear HTk
            generalize xs.getD (k + j) 0 = x at *
            have OW : Hid (wr.ownsRow w1.heap.size 5 1 u8 ((xs.drop k).take j).length (((xs.drop k).take j).map (Value.int .u8))) := hown
            clear hown
            generalize (xs.drop k).take j = f at *
            go_wp2_with (at_builtin; refine wpList_append_reads rfl _ _ rfl w1.heap.size _ f rfl (OW.out.alloc _) _ [x] rfl (reads_block (xs := [x]) (heap_alloc_new _ _) (by simp [maxLen])) (by simp; omega) (by simp; omega) ?_)
            intro v2 w2 hown2 hbel2 _
            have B2 : Hid (Below w1.heap.size w1 w2) := (hbel.alloc hs _).trans hbel2
            have O2 : Hid (w2.ownsRow w1.heap.size 5 1 v2 ((xs.drop k).take (j + 1)).length (((xs.drop k).take (j + 1)).map (Value.int .u8))) := by show World.ownsRow _ _ _ _ _ _ _; rw [HA.out]; simpa using hown2
            clear hown2 hbel2 hbel
            go_wp2
            go_roundw
            case rel => exact ⟨j + 1, by omega, by go_num, O2.out, B2.out⟩
            case measure => simp [intOf]; omega
          · have ej : j = m := by omega
            subst ej
            have O2 : Hid (wr.ownsRow w1.heap.size 5 1 u8 ((xs.drop k).take j).length (((xs.drop k).take j).map (Value.int .u8))) := hown
            have B2 : Hid (Below w1.heap.size w1 wr) := hbel
            clear hown hbel
            go_wp2_with fail
            refine (wrapped_any _ ((xs.drop k).take j) _ (reads_own O2.out) HXP.out (by rw [HPL.out]; exact hm2)).mono ?_
            rintro e w3 ⟨v3, rfl, hown3, hbel3⟩
            have hs3 := hbel3.size
            have O3 : Hid (w3.ownsRow w1.heap.size 5 1 u8 ((xs.drop k).take j).length (((xs.drop k).take j).map (Value.int .u8))) := own_below O2.out hbel3 (Nat.le_refl _)
            have B3 : Hid (Below w1.heap.size w1 w3) := B2.out.trans (hbel3.mono hs)
            have HI := again_iff HW.out hsl
            have HAI : Hid (four (crc (xs.take (k + j))) = (xs.drop (k + j)).take 4 ↔ ∀ i, i < k + j + 4 → (wrap ((xs.drop k).take j)).getD i 0 = xs.getD i 0) := HI
            clear HI hbel3
            have hal : (wrap ((xs.drop k).take j)).length = k + j + 4 := by rw [wrap_len, HPL.out, HK.out]
            obtain ⟨g3, c3, rfl, hg3, hg3', hc3, hm3, hcell3⟩ := own_shape hown3 (by rw [hal]; omega)
            rw [hal] at hc3 ⊢
            have HC3 : Hid (∀ i, i < k + j + 4 → w3.cell? ⟨g3, i, none⟩ = some (.int .u8 ((wrap ((xs.drop k).take j)).getD i 0))) := fun i hi => by
              have h1 := hcell3 i (.int .u8 ((wrap ((xs.drop k).take j)).getD i 0)) (by rw [List.getElem?_map, List.getElem?_eq_getElem (by omega)]; simp [List.getD_eq_getElem?_getD, List.getElem?_eq_getElem (show i < (wrap ((xs.drop k).take j)).length by omega)])
              have hadd : (⟨g3, 0, none⟩ : Addr).add i = ⟨g3, i, none⟩ := by unfold Addr.add; split <;> simp_all
              rwa [hadd] at h1
            have HUK : Hid (four (crc (xs.take (k + j))) = (xs.drop (k + j)).take 4 → unwrapF xs = ((xs.drop k).take j, k + j + 4, 0)) := fun h => unwrapF_ok HGG.out hm2 hsl h
            have HUS : Hid (¬ four (crc (xs.take (k + j))) = (xs.drop (k + j)).take 4 → unwrapF xs = ([], 0, 5)) := fun h => unwrapF_sum HGG.out hm2 hsl h
            clear hown3 hcell3 hal O2 B2 HG
            unfold maxLen at hm3
            generalize wrap ((xs.drop k).take j) = ag at *
            go_wp2_with fail
            go_loopw [12] (fun i wq => ∃ t : Nat, t ≤ k + j + 4 ∧ i = .int .i64 t ∧ (∀ i, i < t → ag.getD i 0 = xs.getD i 0) ∧ Below w3.heap.size w3 wq) (fun i _ => k + j + 4 - (intOf i).toNat)
            case atStart => exact ⟨0, by omega, rfl, fun i hi => by omega, Below.refl _ _⟩
            case round =>
              obtain ⟨t, ht, rfl, hst, hbt⟩ := hrel
              have HST : Hid (∀ i, i < t → ag.getD i 0 = xs.getD i 0) := hst
              clear hst
              by_cases hlt2 : t < k + j + 4
              · have d1 : wr.cell? ⟨g3, t, none⟩ = some (.int .u8 (ag.getD t 0)) := (hbt.cell (by exact hg3')).trans (HC3.out t hlt2)
                have d2 : wr.cell? ⟨b, off + t, none⟩ = some (.int .u8 (xs.getD t 0)) := (hbt.cell (show b < w3.heap.size by omega)).trans ((B3.out.cell (by exact hbw)).trans (HC.out t (by omega)))
                have hlt' : (t : Int) < (k : Int) + (j : Int) + 4 := by omega
                have hlt3 : (t : Int) < (xs.length : Int) := by omega
                have h0' : (0 : Int) ≤ (t : Int) := by omega
                have HN : Hid (ag.getD t 0 = xs.getD t 0 → ∀ i, i < t + 1 → ag.getD i 0 = xs.getD i 0) := fun h i hi => by
                  by_cases e : i = t
                  · rw [e]; exact h
                  · exact HST.out i (by omega)
                have HF : Hid (ag.getD t 0 ≠ xs.getD t 0 → unwrapF xs = ([], 0, 5)) := fun h => HUS.out (fun e => h (HAI.out.1 e t hlt2))
                generalize ag.getD t 0 = x at *
                generalize xs.getD t 0 = y at *
                go_wp2_with fail
                go_quiet (fail)
                by_cases hxy : x = y
                · have hne : (x != y) = false := by simp [hxy]
                  go_wp2_with fail
                  go_roundw
                  case rel => exact ⟨t + 1, by omega, by go_num, HN.out hxy, below_drewN hbt _⟩
                  case measure => simp [intOf]; omega
                · have hne : (x != y) = true := by simp [hxy]
                  have HU := HF.out hxy
                  have HU2 : Hid (unwrapF xs = ([], 0, 5)) := HU
                  clear HU
                  go_wp2_with fail
                  go_ret3
                  exact ⟨_, by rw [HU2.out]; rfl, by rw [HU2.out]; exact World.ownsRow_nil _ _ _ _, below_drewN (B3.out.trans (hbt.mono (by omega))) _⟩
              · have HU : Hid (unwrapF xs = ((xs.drop k).take j, k + j + 4, 0)) := HUK.out (HAI.out.2 (fun i hi => HST.out i (by omega)))
                have O4 : Hid (wr.ownsRow w1.heap.size 5 1 u8 (unwrapF xs).1.length ((unwrapF xs).1.map (Value.int .u8))) := by show World.ownsRow _ _ _ _ _ _ _; rw [HU.out]; exact own_below O3.out hbt (Nat.le_refl _)
                have B4 : Hid (Below w1.heap.size w1 wr) := B3.out.trans (hbt.mono (by omega))
                go_wp2_with fail
                go_ret3
                exact ⟨_, by rw [HU.out]; first | rfl | (simp; done), O4.out, B4.out⟩
end Go.Proofs.Ytacpicnihgggaaa
