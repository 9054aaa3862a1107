/-
  Contract of varint.Ungap: it returns the numbers, the count of bytes and the error that P1.6 names; nothing that was there is written.
-/
import Derived.Test.YtkgdenbabafeoaaGreatDoorGetWalk
import Derived.Test.YtkgdenbabafeoaaGreatDoorGapsMath
namespace Go.Proofs.YtkgdenbabafeoaaGreatDoor
set_option maxRecDepth 100000
open Go.ChangeShapes Go.WideShapes Go.ChangeAt Go.RowKit

/-- P1.6, number by number: so many are to come, u bytes are behind us, the last number was n. -/
def ungR (b : List Int) : Nat → Nat → Int → List Int → List Int × Nat × Int
  | 0, u, _, out => (out, u, 0)
  | j + 1, u, n, out =>
    if (get (b.drop u)).2.2 ≠ 0 then ([], 0, (get (b.drop u)).2.2)
    else if 1152921504606846976 - n < (get (b.drop u)).1 then ([], 0, 2)
    else ungR b j (u + (get (b.drop u)).2.1) (n + (get (b.drop u)).1) (out ++ [n + (get (b.drop u)).1])
/-- P1.6 -/
def ungap (b : List Int) : List Int × Nat × Int :=
  if (get b).2.2 ≠ 0 then ([], 0, (get b).2.2) else if 2000 < (get b).1 then ([], 0, 1) else ungR b (get b).1.toNat (get b).2.1 0 []

theorem ungR_err {b : List Int} {j u : Nat} {n e : Int} {out : List Int} (h : get (b.drop u) = (0, 0, e)) (he : e ≠ 0) : ungR b (j + 1) u n out = ([], 0, e) := by
  simp [ungR, h, he]
theorem ungR_over {b : List Int} {j u k : Nat} {n g : Int} {out : List Int} (h : get (b.drop u) = (g, k, 0)) (hg : 1152921504606846976 - n < g) : ungR b (j + 1) u n out = ([], 0, 2) := by
  simp [ungR, h, hg]
theorem ungR_step {b : List Int} {j u k : Nat} {n g : Int} {out : List Int} (h : get (b.drop u) = (g, k, 0)) (hg : ¬ 1152921504606846976 - n < g) : ungR b (j + 1) u n out = ungR b j (u + k) (n + g) (out ++ [n + g]) := by
  simp [ungR, h, hg]
/-- A slice's rest reads as the list's. -/
theorem reads_drop {k : IntKind} {w : World} {b off cap u : Nat} {xs : List Int} (hc : xs.length ≤ cap) (hm : cap ≤ maxLen) (h : ∀ i, i < xs.length → w.cell? ⟨b, off + i, none⟩ = some (.int k (xs.getD i 0))) :
    Reads k w (.slice (some ⟨b, off + u, none⟩) (xs.length - u) (cap - u)) (xs.drop u) := by
  refine ⟨some ⟨b, off + u, none⟩, cap - u, by rw [List.length_drop], by rw [List.length_drop]; omega, by omega, fun hx => (by cases hx), ?_⟩
  intro x hx i hi
  injection hx with hx
  subst hx
  rw [List.length_drop] at hi
  have hadd : (⟨b, off + u, none⟩ : Addr).add i = ⟨b, off + (u + i), none⟩ := by unfold Addr.add; split <;> simp_all [Nat.add_assoc]
  rw [hadd, h (u + i) (by omega), List.getD_eq_getElem?_getD, List.getD_eq_getElem?_getD, List.getElem?_drop]

theorem Tryz.info3' : (Tryz.prog.info? 3).map (fun i => (i.zero, i.size, i.bytes)) = some (some (.int .i64 0), 1, 8) := by kernel_rfl
theorem own_push64 {w : World} {base : Nat} {v : Value} {pre : List Int} {x : Int} (h : w.ownsRow base 3 1 v (pre.length + 1) (pre.map (Value.int .i64) ++ [.int .i64 x])) :
    w.ownsRow base 3 1 v (pre ++ [x]).length ((pre ++ [x]).map (Value.int .i64)) := by simpa using h

set_option maxHeartbeats 1600000 in
set_option maxRecDepth 100000 in
theorem ungap_any (v : Value) (xs : List Int) (w : World) (h : Reads .u8 w v xs) (hx : ∀ x ∈ xs, 0 ≤ x ∧ x ≤ 255) :
    Calls Tryz.prog 108 #[v] w fun e w' =>
      ∃ v', e = .returned (.tuple #[v', .int .i64 (ungap xs).2.1, .int .i64 (ungap xs).2.2]) ∧ w'.ownsRow w.heap.size 3 1 v' (ungap xs).1.length ((ungap xs).1.map (Value.int .i64)) ∧ Below w.heap.size w w' := by
  obtain ⟨i0, hi, hz0, hz1, hz2⟩ := info_parts Tryz.info3'
  have HR : Hid (Reads .u8 w v xs) := h
  have HX : Hid (∀ x ∈ xs, 0 ≤ x ∧ x ≤ 255) := hx
  clear h hx
  go_enter Tryz.func108, Tryz.ntmps108
  go_wp2_with fail
  refine (get_any _ xs _ HR.out HX.out).mono ?_
  rintro e w' ⟨rfl, rfl⟩
  rcases get_inv HX.out with ⟨e, he, hne⟩ | ⟨n, r, he, hys, hn0, hn1⟩
  · have HU : Hid (ungap xs = ([], 0, e)) := by show ungap xs = _; unfold ungap; rw [he]; simp [hne]
    rw [he]
    have hne' : (e != 0) = true := by simp [hne]
    clear he hne
    go_wp2_with fail
    go_ret3
    exact ⟨_, by rw [HU.out]; rfl, by rw [HU.out]; exact World.ownsRow_nil _ _ _ _, Below.refl _ _⟩
  · by_cases hbig : 2000 < n
    · have HU : Hid (ungap xs = ([], 0, 1)) := by show ungap xs = _; unfold ungap; rw [he]; simp [hbig]
      rw [he]
      clear he hys
      go_wp2_with fail
      go_ret3
      exact ⟨_, by rw [HU.out]; rfl, by rw [HU.out]; exact World.ownsRow_nil _ _ _ _, Below.refl _ _⟩
    · obtain ⟨m, rfl⟩ := Int.eq_ofNat_of_zero_le hn0
      have lp := put_len (m : Int)
      have hxl : (put (m : Int)).length ≤ xs.length := by rw [hys]; simp
      have HU : Hid (ungap xs = ungR xs m (put (m : Int)).length 0 []) := by show ungap xs = _; unfold ungap; rw [he]; simp [hbig]
      rw [he]
      obtain ⟨b, off, cap, rfl, hc, hm, hb, hcell⟩ := HR.out.plain (by omega)
      unfold maxLen at hm
      have HC : Hid (∀ i, i < xs.length → w'.cell? ⟨b, off + i, none⟩ = some (.int .u8 (xs.getD i 0))) := hcell
      clear he hys hcell HR
      generalize (put (m : Int)).length = k0 at *
      go_wp2_with fail
      go_loopw [6, 8, 9, 25] (fun su sl sn si wr => ∃ (j u : Nat) (n : Int) (out : List Int), j ≤ m ∧ si = .int .u64 j ∧ su = .int .i64 u ∧ u ≤ xs.length ∧ sn = .int .u64 n ∧ 0 ≤ n ∧ n ≤ 1152921504606846976 ∧ out.length = j ∧
        wr.ownsRow w'.heap.size 3 1 sl out.length (out.map (Value.int .i64)) ∧ ungap xs = ungR xs (m - j) u n out ∧ Below w'.heap.size w' wr) (fun _ _ _ i _ => m - (intOf i).toNat)
      case atStart => exact ⟨0, k0, 0, [], by omega, rfl, rfl, by omega, rfl, by omega, by omega, rfl, World.ownsRow_nil _ _ _ _, HU.out, Below.refl _ _⟩
      case round =>
        obtain ⟨j, u, n, out, hj, rfl, rfl, hu, rfl, hn0', hn1', hol, hown, hug, hbel⟩ := hrel
        have HG : Hid (ungap xs = ungR xs (m - j) u n out) := hug
        have HW : Hid (wr.ownsRow w'.heap.size 3 1 _ out.length (out.map (Value.int .i64))) := hown
        have hsz := hbel.size
        have HOL : Hid (out.length = j) := hol
        clear hug hown hol
        by_cases hlt : j < m
        · obtain ⟨t, ht⟩ : ∃ t, m - j = t + 1 := ⟨m - j - 1, by omega⟩
          have HT : Hid (m - (j + 1) = t) := by show m - (j + 1) = t; omega
          rw [ht] at HG
          clear ht
          by_cases hul : u < xs.length
          · have hcu : u < cap := by omega
            have HD : Hid (Reads .u8 wr (.slice (some ⟨b, off + u, none⟩) (xs.length - u) (cap - u)) (xs.drop u)) :=
              reads_drop hc (by unfold maxLen; omega) (fun i hi => (hbel.cell (by exact hb)).trans (HC.out i hi))
            have HXD : Hid (∀ x ∈ xs.drop u, 0 ≤ x ∧ x ≤ 255) := fun x hx => HX.out x (List.mem_of_mem_drop hx)
            have hdl : Hid ((xs.drop u).length = xs.length - u) := List.length_drop
            go_wp2_with fail
            refine (get_any _ (xs.drop u) _ HD.out HXD.out).mono ?_
            rintro e w3 ⟨rfl, rfl⟩
            rcases get_inv HXD.out with ⟨e, he, hne⟩ | ⟨g, r, he, hys, hg0, hg1⟩
            · have HU : Hid (ungap xs = ([], 0, e)) := by show ungap xs = _; rw [HG.out]; exact ungR_err he hne
              rw [he]
              have hne' : (e != 0) = true := by simp [hne]
              clear he hne
              go_wp2_with fail
              go_ret3
              exact ⟨_, by rw [HU.out]; rfl, by rw [HU.out]; exact World.ownsRow_nil _ _ _ _, hbel⟩
            · have hkl : (put g).length ≤ xs.length - u := by rw [← hdl.out, hys]; simp
              have lpg := put_len g
              by_cases hbg : 1152921504606846976 - n < g
              · have HU : Hid (ungap xs = ([], 0, 2)) := by show ungap xs = _; rw [HG.out]; exact ungR_over he hbg
                rw [he]
                clear he hys
                go_wp2_with fail
                go_ret3
                exact ⟨_, by rw [HU.out]; rfl, by rw [HU.out]; exact World.ownsRow_nil _ _ _ _, hbel⟩
              · have HU : Hid (ungap xs = ungR xs t (u + (put g).length) (n + g) (out ++ [n + g])) := by show ungap xs = _; rw [HG.out]; exact ungR_step he hbg
                rw [he]
                have hown := HW.out
                have hol : out.length ≤ 2000 := by have := HOL.out; omega
                clear he hys HD HXD hdl HW
                generalize (put g).length = k at *
                go_wp2_with (at_builtin; refine wpList_append_own _ rfl _ _ 58 rfl w'.heap.size 3 i0 (.int .i64 0) 1 8 Tryz.underlying58 hi hz0 hz1 hz2 rfl (by decide) _ _ _ rfl (hown.alloc _) ⟨w3.heap.size, 0, none⟩ 1 1 [.int .i64 (n + g)] rfl rfl (cell_one_new _ _ _) ?c2 ?c3 ?c4 ?c5 ?_)
                case c2 => first | rfl | (intro u hu; simp at hu; subst hu; rfl)
                case c3 => unfold maxLen; omega
                case c4 => omega
                case c5 => first | omega | (simp; omega)
                intro v6 w6 hown6 hgrow _
                have hw6 := own_push64 hown6
                have HW6 : Hid (w6.ownsRow w'.heap.size 3 1 v6 (out ++ [n + g]).length ((out ++ [n + g]).map (Value.int .i64))) := hw6
                have hbel6 : Below w'.heap.size w' w6 := (hbel.alloc (by omega) _).grown hgrow (by simp; omega) (fun k hk => (hown.lt k hk).1)
                clear hown6 hgrow hw6 hown hbel hol
                go_wp2_with fail
                go_roundw
                case rel => exact ⟨j + 1, u + k, n + g, out ++ [n + g], by omega, by go_num, by go_num, by omega, rfl, by omega, by omega, by rw [List.length_append, HOL.out]; rfl, HW6.out, by rw [HT.out]; exact HU.out, hbel6⟩
                case measure => simp [intOf]; omega
          · have hul2 : u = xs.length := by omega
            have HU : Hid (ungap xs = ([], 0, 4)) := by
              show ungap xs = _
              rw [HG.out]
              exact ungR_err (by rw [hul2, List.drop_eq_nil_of_le (Nat.le_refl _)]; rfl) (by decide)
            have hz : xs.length - u = 0 := by omega
            clear hul2
            go_wp2_with fail
            all_goals
              refine (get_empty _ _ _).mono ?_
              rintro e w3 ⟨rfl, rfl⟩
              go_wp2_with fail
              go_ret3
              exact ⟨_, by rw [HU.out]; rfl, by rw [HU.out]; exact World.ownsRow_nil _ _ _ _, hbel⟩
        · have HF : Hid (ungap xs = (out, u, 0)) := by
            show ungap xs = _
            rw [HG.out, show m - j = 0 from by omega]; rfl
          go_wp2_with fail
          go_ret3
          exact ⟨_, by rw [HF.out]; rfl, by rw [HF.out]; exact HW.out, hbel⟩
end Go.Proofs.YtkgdenbabafeoaaGreatDoor
